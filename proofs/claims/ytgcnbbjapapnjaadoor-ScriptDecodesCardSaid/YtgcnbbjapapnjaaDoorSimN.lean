/- The arguments of a row, as what they say. -/
import Derived.Test.YtgcnbbjapapnjaaDoorSimM
import Derived.OpenShut
import Derived.ChangeSame
import Derived.ChangeOld
namespace Go.Proofs.YtgcnbbjapapnjaaDoor.Sim
open Go.RowKit Go.ChangeShapes Go.WideShapes
set_option linter.unusedVariables false
set_option linter.unusedSimpArgs false
def isAggT (P : Program) (t : TypeId) : Bool :=
  match P.underlying t with
  | some (.struct _) | some (.array _ _) => true
  | _ => false
def mkE (b : Bool) (cs : List AV) : AV := if b then .agg cs else cs.headD .unk
/-- The cells of a value of a type. -/
inductive ShC (P : Program) : TypeId → List AV → Prop
  | bool {t : TypeId} (ht : P.underlying t = some .bool) (b : Bool) : ShC P t [.v (.bool b)]
  | int {t : TypeId} {k : IntKind} (ht : P.underlying t = some (.int k)) (n : Int) (hw : (Lit.int k n).wf = true) : ShC P t [.v (.int k n)]
  | float {t : TypeId} {k : FloatKind} (ht : P.underlying t = some (.float k)) (b : Nat) (hw : (Lit.float k b).wf = true) : ShC P t [.v (.float k b)]
  | string {t : TypeId} (ht : P.underlying t = some .string) (s : ByteArray) (hs : s.size ≤ maxLen) : ShC P t [.v (.string s)]
  | slice {t e : TypeId} (ht : P.underlying t = some (.slice e)) (css : List (List AV)) (hl : css.length ≤ maxLen) (h : ∀ cs ∈ css, ShC P e cs) : ShC P t [.sl (P.cellsOf e) (css.map (mkE (isAggT P e)))]
  | struct {t : TypeId} {fs : Array Field} (ht : P.underlying t = some (.struct fs)) (ps : List (List AV)) (hl : ps.length = fs.size) (h : ∀ (i : Nat) (f : Field) (p : List AV), fs[i]? = some f → ps[i]? = some p → ShC P f.type p) : ShC P t ps.flatten
def contig (P : Program) : Nat → List Field → Option Nat
  | o, [] => some o
  | o, f :: fs => if f.offset = o then contig P (o + P.cellsOf f.type) fs else none
/-- A type whose values are read so. -/
def okT (P : Program) : Nat → TypeId → Bool
  | 0, _ => false
  | d + 1, t =>
    match P.underlying t with
    | some .bool | some (.int _) | some (.float _) | some .string => true
    | some (.slice e) => okT P d e && decide (0 < P.cellsOf e)
    | some (.struct fs) => (contig P 0 fs.toList == some (P.cellsOf t)) && fs.toList.all fun f => okT P d f.type
    | _ => false
section
variable {H : Type} {enc : TypeId × Value → H} {P : Program} {w : World} {spare : Nat → Bool} {held : Bool}
theorem DataW_trod_float {fuel : Nat} {t : TypeId} {k : FloatKind} {cs : List Value} {x : DataW H × List MemPlace} {base : Nat} (ht : P.underlying t = some (.float k)) (h : DataW.trod enc P w base spare held fuel t cs = some x) : ∃ b, cs = [.float k b] ∧ (Lit.float k b).wf = true := by
  cases fuel with
  | zero => simp [DataW.trod] at h
  | succ n =>
    unfold DataW.trod at h
    rw [ht] at h
    split at h <;> simp_all
theorem pieces {F : Fz} (P : Program) (cs : List Value) : ∀ (fs : List Field) (o n : Nat), contig P o fs = some n → cs.length = n →
    (∀ f ∈ fs, ∃ as : List AV, ((cs.drop f.offset).take (P.cellsOf f.type)).length = as.length ∧ as.length = P.cellsOf f.type ∧ (∀ a ∈ as, a.one = true) ∧ (∀ (i : Nat) (c : Value) (a : AV), ((cs.drop f.offset).take (P.cellsOf f.type))[i]? = some c → as[i]? = some a → PV F c a) ∧ ShC P f.type as) →
    ∃ ps : List (List AV), ps.length = fs.length ∧ (∀ (i : Nat) (f : Field) (p : List AV), fs[i]? = some f → ps[i]? = some p → ShC P f.type p) ∧ (cs.drop o).length = ps.flatten.length ∧ (∀ a ∈ ps.flatten, a.one = true) ∧ ∀ (i : Nat) (c : Value) (a : AV), (cs.drop o)[i]? = some c → ps.flatten[i]? = some a → PV F c a
  | [], o, n, hc, hl, _ => by
    cases hc
    exact ⟨[], rfl, fun i f p hf => by simp at hf, by simp; omega, fun a ha => by simp at ha, fun i c a _ ha => by simp at ha⟩
  | f :: fs, o, n, hc, hl, h => by
    simp only [contig] at hc
    split at hc
    · rename_i hof
      subst hof
      obtain ⟨as, l1, l2, o1, p1, s1⟩ := h f (by simp)
      obtain ⟨ps, q1, q2, q3, q4, q5⟩ := pieces (F := F) P cs fs _ n hc hl (fun g hg => h g (by simp [hg]))
      have hsplit : cs.drop f.offset = (cs.drop f.offset).take (P.cellsOf f.type) ++ cs.drop (f.offset + P.cellsOf f.type) := by
        rw [← List.drop_drop, List.take_append_drop]
      refine ⟨as :: ps, by simp [q1], fun i g p hg hp => ?_, ?_, fun a ha => ?_, fun i c a hci hai => ?_⟩
      · cases i with
        | zero => simp at hg hp; subst hg; subst hp; exact s1
        | succ i => exact q2 i g p (by simpa using hg) (by simpa using hp)
      · rw [hsplit, List.length_append, l1, q3]; simp
      · rw [List.flatten_cons] at ha
        rcases List.mem_append.1 ha with ha | ha
        · exact o1 a ha
        · exact q4 a ha
      · rw [hsplit] at hci
        rw [List.flatten_cons] at hai
        by_cases hi : i < as.length
        · rw [List.getElem?_append_left (by omega)] at hci hai
          exact p1 i c a hci hai
        · rw [List.getElem?_append_right (by omega)] at hci hai
          rw [l1] at hci
          exact q5 _ c a hci hai
    · cases hc
theorem trod_av : ∀ (n d : Nat) (t : TypeId) (cs : List Value) (x : DataW H × List MemPlace), DataW.trod enc P w 0 spare held n t cs = some x → okT P d t = true → cs.length = P.cellsOf t →
    ∃ as : List AV, cs.length = as.length ∧ (∀ a ∈ as, a.one = true) ∧ (∀ (i : Nat) (c : Value) (a : AV), cs[i]? = some c → as[i]? = some a → PV (fun b o => w.cell? ⟨b, o, none⟩) c a) ∧ ShC P t as := by
  intro n
  induction n with
  | zero => intro d t cs x h; simp [DataW.trod] at h
  | succ n ih =>
    intro d t cs x h hok hlen
    cases d with
    | zero => cases hok
    | succ d =>
      have one : ∀ (y : Value) (a : AV), PV (fun b o => w.cell? ⟨b, o, none⟩) y a → a.one = true → ShC P t [a] → cs = [y] → ∃ as : List AV, cs.length = as.length ∧ (∀ a ∈ as, a.one = true) ∧ (∀ (i : Nat) (c : Value) (a : AV), cs[i]? = some c → as[i]? = some a → PV (fun b o => w.cell? ⟨b, o, none⟩) c a) ∧ ShC P t as := fun y a hp h1 hs e => by
        subst e
        refine ⟨[a], rfl, fun b hb => by simp at hb; subst hb; exact h1, fun i c b hc hb => ?_, hs⟩
        cases i with
        | zero => simp at hc hb; subst hc; subst hb; exact hp
        | succ i => simp at hc
      simp only [okT] at hok
      split at hok
      · rename_i ht
        obtain ⟨b, e, _⟩ := DataW.trod_bool ht h
        exact one _ _ (.v _ rfl) rfl (.bool ht b) e
      · rename_i k ht
        obtain ⟨m, e, _, hw⟩ := DataW.trod_int ht h
        exact one _ _ (.v _ rfl) rfl (.int ht m hw) e
      · rename_i k ht
        obtain ⟨m, e, hw⟩ := DataW_trod_float ht h
        exact one _ _ (.v _ rfl) rfl (.float ht m hw) e
      · rename_i ht
        obtain ⟨s, e, _, hs⟩ := DataW.trod_string ht h
        exact one _ _ (.v _ rfl) rfl (.string ht s hs) e
      · rename_i e ht
        simp only [Bool.and_eq_true, decide_eq_true_eq] at hok
        rcases DataW.trod_slice ht h with ⟨hcs, _⟩ | ⟨a, len, cap, elems, rest, m, hm, hcs, _, _, hlc, hcm, hel, hel2, _, _⟩
        · refine one _ (.sl (P.cellsOf e) []) (.sl none 0 0 _ [] rfl (Nat.le_refl _) (Nat.zero_le _) (fun e he => by cases he) (fun e he => by cases he) 0 0 (fun h => absurd h (Nat.lt_irrefl _)) (fun _ _ => undef) (fun i j hi => absurd hi (Nat.not_lt_zero _)) (fun i j e a he => by simp at he)) rfl ?_ hcs
          exact .slice ht [] (Nat.zero_le _) (fun cs hcs => by cases hcs)
        · obtain rfl : m = n := by omega
          -- the elements
          have each : ∀ i, i < len → ∃ ci : List Value, ∃ as : List AV, w.cells? 0 (a.add (i * P.cellsOf e)) (P.cellsOf e) = some ci ∧ ci.length = P.cellsOf e ∧ ci.length = as.length ∧ (∀ a ∈ as, a.one = true) ∧ (∀ (i : Nat) (c : Value) (a : AV), ci[i]? = some c → as[i]? = some a → PV (fun b o => w.cell? ⟨b, o, none⟩) c a) ∧ ShC P e as := fun i hi => by
            have h1 := hel2 i hi
            rw [List.getElem?_eq_getElem (by omega : i < elems.length)] at h1
            obtain ⟨ci, hci, htr⟩ := Option.bind_eq_some_iff.1 h1
            have hcl := (World.cells?_some hci).2.1
            obtain ⟨as, q1, q2, q3, q4⟩ := ih d e ci _ htr hok.1 hcl
            exact ⟨ci, as, hci, hcl, q1, q2, q3, q4⟩
          have pick : ∃ (C : Nat → List Value) (A : Nat → List AV), ∀ i, i < len → w.cells? 0 (a.add (i * P.cellsOf e)) (P.cellsOf e) = some (C i) ∧ (C i).length = P.cellsOf e ∧ (C i).length = (A i).length ∧ (∀ a ∈ A i, a.one = true) ∧ (∀ (j : Nat) (c : Value) (a : AV), (C i)[j]? = some c → (A i)[j]? = some a → PV (fun b o => w.cell? ⟨b, o, none⟩) c a) ∧ ShC P e (A i) := by
            refine ⟨fun i => if hi : i < len then (each i hi).choose else [], fun i => if hi : i < len then (each i hi).choose_spec.choose else [], fun i hi => ?_⟩
            simp only [dif_pos hi]
            exact (each i hi).choose_spec.choose_spec
          obtain ⟨C, A, hCA⟩ := pick
          -- an element as a value
          have mkc : ∀ i, i < len → (mkE (isAggT P e) (A i)).cells = A i := fun i hi => by
            obtain ⟨_, c2, c3, c4, _, c6⟩ := hCA i hi
            unfold mkE
            cases hag : isAggT P e
            · have single : ∃ u, A i = [u] := by
                generalize A i = q at c6
                cases c6 with
                | bool => exact ⟨_, rfl⟩
                | int => exact ⟨_, rfl⟩
                | float => exact ⟨_, rfl⟩
                | string => exact ⟨_, rfl⟩
                | slice => exact ⟨_, rfl⟩
                | struct ht' => simp [isAggT, ht'] at hag
              obtain ⟨u, hu⟩ := single
              rw [hu] at c4 ⊢
              have := c4 u (by simp)
              simp only [Bool.false_eq_true, if_false, List.headD_cons]
              cases u <;> first | rfl | cases this
            · rfl
          have hspot : 0 < len → ∃ b o, a = ⟨b, o, none⟩ := fun hpos => by
            obtain ⟨c1, c2, _⟩ := hCA 0 hpos
            have h0 := (World.cells?_some c1).2.2 0 hok.2
            obtain ⟨b, o, sp⟩ := a
            have hadd : ((⟨b, o, sp⟩ : Addr).add (0 * P.cellsOf e)).add 0 = ⟨b, o, sp⟩ := by simp [Addr.add]
            rw [hadd] at h0
            have hs : sp = none := by
              cases sp with
              | none => rfl
              | some q =>
                exfalso
                have hne : (C 0)[0]? ≠ none := by
                  rw [List.getElem?_eq_getElem (by rw [c2]; exact hok.2)]; simp
                simp only [World.cell?, Option.isSome_some, if_true] at h0
                split at h0 <;> exact hne h0.symm
            exact ⟨b, o, by rw [hs]⟩
          refine one _ (.sl (P.cellsOf e) ((List.range len).map fun i => mkE (isAggT P e) (A i))) ?_ rfl ?_ hcs
          · have mem : ∀ x ∈ (List.range len).map (fun i => mkE (isAggT P e) (A i)), ∃ i, i < len ∧ x = mkE (isAggT P e) (A i) := fun x hx => by
              obtain ⟨i, hi, rfl⟩ := List.mem_map.1 hx
              exact ⟨i, List.mem_range.1 hi, rfl⟩
            have at_ : ∀ (i : Nat) (x : AV), ((List.range len).map (fun i => mkE (isAggT P e) (A i)))[i]? = some x → i < len ∧ x = mkE (isAggT P e) (A i) := fun i x hx => by
              rw [List.getElem?_map] at hx
              obtain ⟨i', hi', rfl⟩ := Option.map_eq_some_iff.1 hx
              have hl := (List.getElem?_eq_some_iff.1 hi').1
              rw [List.getElem?_range (by simpa using hl)] at hi'
              cases hi'
              exact ⟨by simpa using hl, rfl⟩
            by_cases hpos : 0 < len
            · obtain ⟨b, o, rfl⟩ := hspot hpos
              refine .sl _ len cap (P.cellsOf e) _ (by simp) hlc hcm (fun x hx => ?_) (fun x hx u hu => ?_) b o (fun _ => rfl) (fun i j => (C i).getD j undef) (fun i j hi hj => ?_) (fun i j x u hx hu => ?_)
              · obtain ⟨i, hi, rfl⟩ := mem x hx
                rw [mkc i hi, ← (hCA i hi).2.2.1, (hCA i hi).2.1]
              · obtain ⟨i, hi, rfl⟩ := mem x hx
                rw [mkc i hi] at hu
                exact (hCA i hi).2.2.2.1 u hu
              · obtain ⟨c1, c2, _⟩ := hCA i hi
                have := (World.cells?_some c1).2.2 j hj
                rw [addr_add, addr_add] at this
                rw [this, List.getD_eq_getElem?_getD, List.getElem?_eq_getElem (by rw [c2]; exact hj)]
                rfl
              · obtain ⟨hi, rfl⟩ := at_ i x hx
                rw [mkc i hi] at hu
                have hjl := (List.getElem?_eq_some_iff.1 hu).1
                rw [← (hCA i hi).2.2.1] at hjl
                have := (hCA i hi).2.2.2.2.1 j (C i)[j] u (List.getElem?_eq_getElem hjl) hu
                simpa [List.getD_eq_getElem?_getD, List.getElem?_eq_getElem hjl] using this
            · obtain rfl : len = 0 := by omega
              exact .sl _ 0 cap (P.cellsOf e) _ rfl hlc hcm (fun x hx => by simp at hx) (fun x hx => by simp at hx) 0 0 (fun h => absurd h (Nat.lt_irrefl _)) (fun _ _ => undef) (fun i j hi => absurd hi (Nat.not_lt_zero _)) (fun i j x u hx => by simp at hx)
          · have := ShC.slice (P := P) ht ((List.range len).map A) (by simp; omega) (fun cs hcs => by
              obtain ⟨i, hi, rfl⟩ := List.mem_map.1 hcs
              exact (hCA i (List.mem_range.1 hi)).2.2.2.2.2)
            rw [List.map_map] at this
            exact this
      · rename_i fs ht
        simp only [Bool.and_eq_true, beq_iff_eq, List.all_eq_true] at hok
        obtain ⟨xs, m, hm, _, hcl, hxs, hf⟩ := DataW.trod_struct ht h
        obtain rfl : m = n := by omega
        obtain ⟨ps, q1, q2, q3, q4, q5⟩ := pieces (F := fun b o => w.cell? ⟨b, o, none⟩) P cs fs.toList 0 _ hok.1 hcl (fun f hfm => by
          obtain ⟨i, hi, hfi⟩ := List.getElem_of_mem hfm
          have hia : fs[i]? = some f := by
            have : fs.toList[i]? = some f := by rw [List.getElem?_eq_getElem hi, hfi]
            simpa using this
          have h1 := hf i f hia
          rw [List.getElem?_eq_getElem (by rw [hxs]; simpa using hi)] at h1
          have hlen2 : ((cs.drop f.offset).take (P.cellsOf f.type)).length = P.cellsOf f.type := by
            -- the field lies inside
            have inside : ∀ (gs : List Field) (o n : Nat), contig P o gs = some n → ∀ g ∈ gs, g.offset + P.cellsOf g.type ≤ n ∧ o ≤ n := by
              intro gs
              induction gs with
              | nil => intro o n _ g hg; cases hg
              | cons g gs ihg =>
                intro o n hc g' hg'
                simp only [contig] at hc
                split at hc
                · rename_i hof
                  have le : ∀ (gs : List Field) (o n : Nat), contig P o gs = some n → o ≤ n := by
                    intro gs
                    induction gs with
                    | nil => intro o n hc; cases hc; exact Nat.le_refl _
                    | cons g gs ih2 =>
                      intro o n hc
                      simp only [contig] at hc
                      split at hc
                      · have := ih2 _ _ hc; omega
                      · cases hc
                  have := le gs _ _ hc
                  rcases List.mem_cons.1 hg' with rfl | hg'
                  · omega
                  · have := ihg _ _ hc g' hg'
                    omega
                · cases hc
            have := (inside fs.toList 0 _ hok.1 f hfm).1
            simp; omega
          obtain ⟨as, r1, r2, r3, r4⟩ := ih d f.type _ _ h1 (hok.2 f hfm) hlen2
          exact ⟨as, r1, by omega, r2, r3, r4⟩)
        rw [List.drop_zero] at q3 q5
        refine ⟨ps.flatten, q3, q4, q5, .struct ht ps (by simpa using q1) fun i f p hfi hpi => q2 i f p (by simpa using hfi) hpi⟩
      · cases hok
/-- An argument, as what it says. -/
theorem arg_av {r : Reach} {b0 : Nat} {t : TypeId} {v : Value} {dd : DataW H} {p : List MemPlace} (hok : okT P 12 t = true) (hval : Value.okWide P w r b0 t v) (hd : DataW.Trod enc P w 0 spare held t v dd p) (hsz : v.cells.size = P.cellsOf t) (hag : isAggT P t = true ∨ v.oneCell' = true) :
    ∃ as : List AV, PV (fun b o => w.cell? ⟨b, o, none⟩) v (mkE (isAggT P t) as) ∧ ShC P t as := by
  obtain ⟨n, hn⟩ := hd
  obtain ⟨as, q1, q2, q3, q4⟩ := trod_av n 12 t _ _ hn hok (by simpa using hsz)
  refine ⟨as, ?_, q4⟩
  cases hb : isAggT P t
  · have h1 : v.oneCell' = true := hag.resolve_left (by simp [hb])
    have e2 : v.cells = #[v] := by cases v <;> first | rfl | cases h1
    rw [e2] at q1 q3
    match as, q1 with
    | [a], _ => exact q3 0 v a rfl rfl
  · have : ∃ cs, v = .agg cs := by
      unfold isAggT at hb
      split at hb
      · rename_i fs ht
        obtain ⟨cs, e, _⟩ := okWide_struct ht hval
        exact ⟨cs, e⟩
      · rename_i ht
        simp [okT, ht] at hok
      · cases hb
    obtain ⟨cs, rfl⟩ := this
    have := PV.agg (F := fun b o => w.cell? ⟨b, o, none⟩) cs.toList as q1 q2 q3
    simpa [mkE] using this
/-- A law that comes to true on what its arguments say. -/
theorem law_of {f : FuncId} {as : List AV} {xs : List Value} (h : PC P (fun _ => .unk) f as (.v (.bool true))) (hl : xs.length = as.length) (hv : ∀ (i : Nat) (c : Value) (a : AV), xs[i]? = some c → as[i]? = some a → PV (fun b o => w.cell? ⟨b, o, none⟩) c a) :
    Calls P f xs.toArray w (fun e w' => e = .returned (.bool true) ∧ Go.RowKit.Below w.heap.size w w') := by
  refine (h w (fun b o => w.cell? ⟨b, o, none⟩) xs (fun _ _ _ h => h) (fun g => .unk _) hl hv).mono ?_
  rintro e w' ⟨v, F', rfl, hp, _, _, _, hb⟩
  cases hp
  exact ⟨rfl, hb⟩
end
end Go.Proofs.YtgcnbbjapapnjaaDoor.Sim
