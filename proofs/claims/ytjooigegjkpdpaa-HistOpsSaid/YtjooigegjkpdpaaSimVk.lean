/- Ranges over a function: code in a round's frame, the law, code with such ranges. -/
import Derived.Test.YtjooigegjkpdpaaSimVj
import Derived.RangeFuncRecord
import Derived.LoopNIn
import Derived.OrdersIn
import Derived.TacticsIn
namespace Go.Proofs.Ytjooigegjkpdpaa.Sim
open Go.RowKit
set_option linter.unusedVariables false
set_option linter.unusedSimpArgs false
abbrev Fl (lo : Nat) : Fence := Fence.wide.inRound lo
theorem op_in {lo n : Nat} {P : Program} {o : Oper} {a : Act} {w : World} {K : Act → World → Prop} {Q : Exit → Act → World → Prop} (hd : ∀ c, o.op ≠ .defer c) (h : o.wp P a w K (fun _ _ _ => False)) : o.wpIn (Fl lo) n P a w K Q := by
  unfold Oper.wp at h
  refine ⟨fun _ _ => trivial, ?_⟩
  show o.uponIn (Fl lo) n P a K Q ((o.semAt (some lo) a.eval).run P w)
  rw [Oper.semAt_eq _ _ _ hd]
  generalize (execOp a.eval o).run P w = r at h
  cases r with
  | ok nx w' =>
    cases nx with
    | value v => exact h
    | skip => exact h
    | defer d => exact h
    | enter f args =>
      refine ⟨fun hh => (by cases hh), ?_⟩
      have h2 : CallsIn (Fl lo) (n - 1) P f args w' _ := callsIn_wide.2 h
      refine h2.mono fun e w'' he => ?_
      cases e with
      | returned v => exact he
      | panicked c => exact he.elim
      | outgrown => obtain ⟨_, _, hh⟩ := he; exact hh.elim
    | row row args => exact ⟨fun hh => (by cases hh), fun c cs _ => let ⟨v, w', r, s⟩ := h c cs; ⟨v, w', r, stepsIn_wide.2 s⟩⟩
    | _ => exact h.elim
  | halt hl w' => cases hl <;> exact h.elim
theorem nodefer {P : Program} {G : Nat → AV} {hs : List FuncId} {ops : Array Oper} {o : Oper} {ev : AX → AV} {H : Hp} {d : Option Nat} {k : AV → Hp → Prop} (h : AWop P G ev H (convG ops d (copOpB P hs o)) k) : ∀ c, o.op ≠ .defer c := by
  intro c hc
  have h1 : copOpB P hs o = .bad := by unfold copOpB copOp; simp [hc]
  rw [h1] at h
  exact h
theorem nodefer_nx {P : Program} {hs : List FuncId} {ops : Array Oper} {o : Oper} {d : Option Nat} {x : AX} (h : convG ops d (copOpB P hs o) = .nxm x) : ∀ c, o.op ≠ .defer c := by
  intro c hc
  have h1 : copOpB P hs o = .bad := by unfold copOpB copOp; simp [hc]
  rw [h1] at h
  simp [convG, convF] at h
section
variable {P : Program} {b : Frame} {a : Act} {k : List Item} {cs : List Frame} {w : World} {c : Code}
theorem stepR_scope : step P (lone (b.atR a (.code (.scope c) :: k)) cs w) = .next (lone (b.atR a (.code c :: .inScope c :: k)) cs w) :=
  step_lone_go (by simp [stepG, stepG.exec, Frame.atR])
theorem stepR_inScope : step P (lone (b.atR a (.inScope c :: k)) cs w) = .next (lone (b.atR a k) cs w) :=
  step_lone_go (by simp [stepG, stepG.exec, Frame.atR])
end
theorem wpIn_scope_straight {F : Fence} {n : Nat} {P : Program} {Q : Exit → Act → World → Prop} {a : Act} {w : World} {c : Code} (h : c.wpIn F n P (Exit.noGoto Q) a w) : (Code.scope c).wpIn F n P Q a w := by
  intro b k cs hro hb hr
  have h0 : (lone (b.atR a (.code (.scope c) :: k)) cs w).fenced P F := fenced_calm hb hr rfl
  obtain ⟨e, a₁, w₁, hq, harr⟩ := h b (.inScope c :: k) cs hro hb hr
  cases e with
  | normal => exact ⟨.normal, a₁, w₁, hq, .head h0 stepR_scope (StepsIn.trans harr (.one (fenced_calm hb hr rfl) stepR_inScope))⟩
  | exit id => exact ⟨.exit id, a₁, w₁, hq, fun k' hk => .head h0 stepR_scope (harr.1 k' (by simp [exitTo, hk])), fun hr' hk => let ⟨k₁, h1, h2⟩ := harr.2 hr' (by simp [exitTo, hk]); ⟨k₁, h1, .head h0 stepR_scope h2⟩⟩
  | goto l => exact hq.elim
  | ret => exact ⟨_, a₁, w₁, hq, .of_steps (.one h0 stepR_scope) harr⟩
  | panic ch => exact ⟨_, a₁, w₁, hq, .of_steps (.one h0 stepR_scope) harr⟩
  | outgrown => exact ⟨_, a₁, w₁, hq, .of_steps (.one h0 stepR_scope) harr⟩
section
variable {P : Program} {G : Nat → AV} {hs : List FuncId} {B : Bd} {w0 : World} {F0 F1 : Fz} {O1 : Ow} {lo n : Nat}
theorem AWi_okIn {ops : Array Oper} {i : Nat} {o : Oper} {ai : AI} (hi : ops[i]? = some o) (hc : copI P hs ops o = some ai) {st : St} {a : Act} {w : World} {F : Fz} {O : Ow} (h : Rl G B w0 F0 F1 O1 F O st a w) {k : St → Prop} (hk : AWi P G ai st k)
    {K : Act → World → Prop} {Q : Exit → Act → World → Prop} (hK : ∀ st' a' w' F' O', k st' → Rl G B w0 F0 F1 O1 F' O' st' a' w' → K a' w') : wpOpIn (Fl lo) n P ops Q i K a w := by
  unfold wpOpIn
  simp only [hi]
  simp only [copI] at hc
  split at hc
  · rename_i hg
    cases hc
    have hw : Region.wanted o (yielded ops a.tmps) = true := by unfold Region.wanted; rw [hg]
    simp only [hw, if_true]
    simp only [AWi] at hk
    exact op_in (nodefer hk) (AWop_okG (hs := hs) (Q := fun _ _ _ => False) h hk fun r H' x w' hkr hout => by
      obtain ⟨F', O', h'⟩ := h.put (d := o.dst) hout
      exact hK _ _ _ F' O' hkr h')
  · rename_i j want hg
    split at hc
    · rename_i t ht
      cases hc
      simp only [AWi] at hk
      split at hk
      · rename_i b hb
        have hy : yielded ops a.tmps j = some b := by
          unfold yielded
          rw [ht]
          simp only [Option.bind_some, h.guard hb]
        by_cases hbw : b = want
        · rw [if_pos hbw] at hk
          have hw : Region.wanted o (yielded ops a.tmps) = true := by unfold Region.wanted; rw [hg]; simp [hy, hbw]
          simp only [hw, if_true]
          exact op_in (nodefer hk) (AWop_okG (hs := hs) (Q := fun _ _ _ => False) h hk fun r H' x w' hkr hout => by
            obtain ⟨F', O', h'⟩ := h.put (d := o.dst) hout
            exact hK _ _ _ F' O' hkr h')
        · rw [if_neg hbw] at hk
          have hw : Region.wanted o (yielded ops a.tmps) = false := by unfold Region.wanted; rw [hg]; simp [hy, hbw]
          simp only [hw, Bool.false_eq_true, if_false]
          obtain ⟨F', O', h'⟩ := h.put (d := o.dst) (r := undefA) (x := undef) (Out.same h.own undef_ok)
          exact ⟨fun _ _ => trivial, hK _ _ _ F' O' hk h'⟩
      · rename_i hb
        have hu := h.guardU hb
        have hy : yielded ops a.tmps j = none := by
          unfold yielded
          rw [ht]
          simp only [Option.bind_some]
          rw [Array.getD_eq_getD_getElem?] at hu
          cases hq : a.tmps[t]? with
          | none => rfl
          | some q => rw [hq] at hu; simp only [Option.getD_some] at hu; subst hu; rfl
        have hw : Region.wanted o (yielded ops a.tmps) = false := by unfold Region.wanted; rw [hg]; simp [hy]
        simp only [hw, Bool.false_eq_true, if_false]
        obtain ⟨F', O', h'⟩ := h.put (d := o.dst) (r := undefA) (x := undef) (Out.same h.own undef_ok)
        exact ⟨fun _ _ => trivial, hK _ _ _ F' O' hk h'⟩
      · exact hk.elim
    · cases hc
theorem AWs_okIn {ops : Array Oper} {Q : Exit → Act → World → Prop} {k : St → Prop} (hK : ∀ st' a' w' F' O', k st' → Rl G B w0 F0 F1 O1 F' O' st' a' w' → Q .normal a' w') :
    ∀ (l : List Nat) (as : List AI), l.length = as.length → (∀ (j i : Nat) (ai : AI), l[j]? = some i → as[j]? = some ai → ∃ o, ops[i]? = some o ∧ copI P hs ops o = some ai) →
    ∀ (st : St) (a : Act) (w : World) (F : Fz) (O : Ow), AWs P G as k st → Rl G B w0 F0 F1 O1 F O st a w → wpOpsIn (Fl lo) n P ops Q l a w
  | [], [], _, _, st, a, w, F, O, hk, h => hK st a w F O hk h
  | [], _ :: _, hl, _, _, _, _, _, _, _, _ => by simp at hl
  | _ :: _, [], hl, _, _, _, _, _, _, _, _ => by simp at hl
  | i :: l, ai :: as, hl, hop, st, a, w, F, O, hk, h => by
    rw [wpOpsIn_cons]
    obtain ⟨o, ho, hc⟩ := hop 0 i ai rfl rfl
    simp only [AWs] at hk
    exact AWi_okIn ho hc h hk fun st' a' w' F' O' hk' h' => AWs_okIn hK l as (by simpa using hl) (fun j i ai hj ha => hop (j + 1) i ai hj ha) st' a' w' F' O' hk' h'
theorem region_textIn {ops : Array Oper} {id : Nat} {as : List AI} (hc : copIs P hs ops ops.toList = some as) {Q : Exit → Act → World → Prop} {k : St → Prop} (hK : ∀ st' a' w' F' O', k st' → Rl G B w0 F0 F1 O1 F' O' st' a' w' → Q .normal a' w')
    {st : St} {a : Act} {w : World} {F : Fz} {O : Ow} (hk : AWs P G as k st) (h : Rl G B w0 F0 F1 O1 F O st a w) : (Code.region id ops false).wpIn (Fl lo) n P Q a w := by
  obtain ⟨q1, q2⟩ := copIs_at hc
  refine wpIn_region (AWs_okIn (hs := hs) hK (List.range ops.size) as (by simpa using q1) (fun j i ai hj ha => ?_) st a w F O hk h)
  have hjl : j < ops.size := by have := (List.getElem?_eq_some_iff.1 hj).1; simpa using this
  rw [List.getElem?_range hjl] at hj
  cases hj
  exact ⟨ops[j], Array.getElem?_eq_getElem hjl, q2 j _ ai (by simp [hjl]) ha⟩
theorem region_textxIn {ops : Array Oper} {id : Nat} {as : List AI} (hc : copIs P hs ops ops.toList = some as) {Q : Exit → Act → World → Prop} {k : St → Prop} (hK : ∀ st' a' w' F' O', k st' → Rl G B w0 F0 F1 O1 F' O' st' a' w' → Q .normal a' w')
    {st : St} {a : Act} {w : World} {F : Fz} {O : Ow} (hk : AWx P G as k st) (h : Rl G B w0 F0 F1 O1 F O st a w) : (Code.region id ops false).wpIn (Fl lo) n P Q a w := by
  unfold AWx at hk
  split at hk
  · rename_i _ _ d x os
    obtain ⟨l, hl, hp⟩ := hk
    obtain ⟨q1, q2⟩ := copIs_at hc
    have hn : ops.size = os.length + 1 := by simpa using q1
    refine wpIn_region ?_
    rw [hn, List.range_succ_eq_map, wpOpsIn_cons]
    have hi : ops[0]? = some (ops[0]'(by omega)) := Array.getElem?_eq_getElem (by omega)
    have hc0 := q2 0 (ops[0]'(by omega)) ⟨d, .nxm x, none⟩ (by rw [Array.getElem?_toList]; exact hi) rfl
    generalize ops[0]'(by omega) = o at hi hc0
    unfold wpOpIn
    simp only [hi]
    simp only [copI] at hc0
    split at hc0
    · rename_i hg
      injection hc0 with hc0
      injection hc0 with e1 e2 e3
      have hw : Region.wanted o (yielded ops a.tmps) = true := by unfold Region.wanted; rw [hg]
      simp only [hw, if_true]
      refine op_in (nodefer_nx e2) (AWop_nx (hs := hs) (Q := fun _ _ _ => False) e2 h hl fun p hpm v w' hout => ?_)
      obtain ⟨F', O', h'⟩ := h.put (d := o.dst) hout
      rw [e1] at h'
      refine AWs_okIn (hs := hs) hK _ os (by simp) (fun j i ai hj ha => ?_) _ _ _ F' O' (hp p hpm) (by rw [e1]; exact h')
      have hjl : j < os.length := (List.getElem?_eq_some_iff.1 ha).1
      rw [List.getElem?_map, List.getElem?_range hjl] at hj
      cases hj
      exact ⟨ops[j + 1]'(by omega), Array.getElem?_eq_getElem (by omega), q2 (j + 1) _ ai (by rw [Array.getElem?_toList]; exact Array.getElem?_eq_getElem (by omega)) (by simpa using ha)⟩
    · split at hc0
      · injection hc0 with hc0
        injection hc0 with e1 e2 e3
        cases e3
      · cases hc0
  · exact region_textIn hc hK hk h
theorem region_drawIn {ops : Array Oper} {id : Nat} {as : List AI} (hc : copIs P hs ops ops.toList = some as) {Q : Exit → Act → World → Prop} {k : St → Prop} (hK : ∀ st' a' w' F' O', k st' → Rl G B w0 F0 F1 O1 F' O' st' a' w' → Q .normal a' w')
    {st : St} {a : Act} {w : World} {F : Fz} {O : Ow} (hk : ∀ t, ∃ bs : List AI, bs.length = (Region.schedule (P.follows .mixedOrders) ops t).length ∧ (∀ (j i : Nat) (ai : AI), (Region.schedule (P.follows .mixedOrders) ops t)[j]? = some i → bs[j]? = some ai → as[i]? = some ai) ∧ AWs P G bs k st)
    (h : Rl G B w0 F0 F1 O1 F O st a w) : (Code.region id ops true).wpIn (Fl lo) n P Q a w := by
  obtain ⟨q1, q2⟩ := copIs_at hc
  refine wpIn_region_draw fun t => ?_
  obtain ⟨bs, b1, b2, b3⟩ := hk t
  refine AWs_okIn (hs := hs) hK _ bs b1.symm (fun j i ai hj ha => ?_) st a _ F O b3 h.drew
  have hai := b2 j i ai hj ha
  have hil : i < ops.size := by have := (List.getElem?_eq_some_iff.1 hai).1; rw [← q1] at this; simpa using this
  exact ⟨ops[i], Array.getElem?_eq_getElem hil, q2 i _ ai (by simp [hil]) hai⟩
end
section
variable {P : Program} {G : Nat → AV} {hs : List FuncId} {B : Bd} {w0 : World} {F0 F1 : Fz} {O1 : Ow} {m lo n : Nat}
theorem V_okIn (hm : O1.length ≤ m) : ∀ (c : Code) (ac : AC), copC P hs c = some ac → ∀ (Q : EX → St → Prop) (Q' : Exit → Act → World → Prop) (st : St) (a : Act) (w : World) (F : Fz) (O : Ow), V P G m ac Q st → Rl G B w0 F0 F1 O1 F O st a w →
    (∀ e st' a' w' F' O', Q e st' → Rl G B w0 F0 F1 O1 F' O' st' a' w' → Q' e.out a' w') → c.wpIn (Fl lo) n P Q' a w := by
  intro c
  induction c with
  | skip => intro ac hc Q Q' st a w F O h hr hQ; cases hc; exact wpIn_skip (hQ .n st a w F O h hr)
  | label l => intro ac hc Q Q' st a w F O h hr hQ; cases hc; exact wpIn_label (hQ .n st a w F O h hr)
  | region id ops draw =>
    intro ac hc Q Q' st a w F O h hr hQ
    obtain ⟨s, H⟩ := st
    simp only [copC] at hc
    split at hc
    · rename_i as has
      cases draw with
      | false =>
        cases hc
        exact region_textxIn has (k := fun st => Q .n ⟨st.s, st.H⟩) (fun st' a' w' F' O' hk hr' => hQ .n st' a' w' F' O' hk hr') (vopx_ok P G (k := fun s' H' => Q .n ⟨s', H'⟩) h) hr
      | true =>
        simp only [if_true] at hc
        split at hc
        · rename_i hd
          cases hc
          exact region_drawIn has (k := fun st => Q .n ⟨st.s, st.H⟩) (fun st' a' w' F' O' hk hr' => hQ .n st' a' w' F' O' hk hr') (draw_orders (copIs_at has).1 hd (vdops_ok P G (k := fun s' H' => Q .n ⟨s', H'⟩) h)) hr
        · split at hc
          · rename_i hd
            cases hc
            exact region_drawIn has (k := fun st => Q .n ⟨st.s, st.H⟩) (fun st' a' w' F' O' hk hr' => hQ .n st' a' w' F' O' hk hr') (drawx_orders (copIs_at has).1 hd (vdx_ok P G (k := fun s' H' => Q .n ⟨s', H'⟩) h)) hr
          · split at hc
            · cases hc; exact h.elim
            · cases hc; exact (V_bad h).elim
    · cases hc
  | seq x y ihx ihy =>
    intro ac hc Q Q' st a w F O h hr hQ
    simp only [copC] at hc
    split at hc
    · rename_i p q hp hq
      cases hc
      refine wpIn_seq (ihx p hp _ _ st a w F O h hr fun e st' a' w' F' O' he hr' => ?_)
      cases e with
      | n =>
        rcases he with he | ⟨st2, hf, he⟩ | ⟨i, n, cv, he⟩ | ⟨ss, cv, he⟩ | ⟨t, i, g, n, h0, hl, he⟩
        · exact ihy q hq Q Q' st' a' w' F' O' he hr' hQ
        · obtain ⟨O2, hr2⟩ := hr'.forget hm hf
          exact ihy q hq Q Q' st2 a' w' F' O2 he hr2 hQ
        · obtain ⟨s', H'⟩ := st'
          obtain ⟨st2, F2, he, hr2⟩ := fzK_ok he hr'
          exact ihy q hq Q Q' st2 a' w' F2 O' he hr2 hQ
        · obtain ⟨s', H'⟩ := st'
          obtain ⟨st2, he, hr2⟩ := nlK_ok he hr'
          exact ihy q hq Q Q' st2 a' w' F' O' he hr2 hQ
        · obtain ⟨c, hc, hr2⟩ := ocK_ok h0 hl hr'
          exact ihy q hq Q Q' _ a' w' F' O' (he c hc) hr2 hQ
      | x id => exact hQ (.x id) st' a' w' F' O' he hr'
      | r => exact hQ .r st' a' w' F' O' he hr'
    · cases hc
  | cond c x y ihx ihy =>
    intro ac hc Q Q' st a w F O h hr hQ
    obtain ⟨s, H⟩ := st
    simp only [copC] at hc
    split at hc
    · rename_i p q r hp hq hr'
      cases hc
      have ho := hr.operand 0 c p hp
      simp only [V, eK_eq] at h
      split at h
      · rename_i v hv
        split at h
        · rename_i b
          rw [hv] at ho
          have ho := ho.pvC rfl
          have e : a.eval c = .bool b := by generalize a.eval c = q at ho; cases ho; rfl
          obtain ⟨h1, h2⟩ := h
          cases b
          · exact wpIn_cond_false e (ihy r hr' Q Q' _ a w F O (h2 rfl) hr hQ)
          · exact wpIn_cond_true e (ihx q hq Q Q' _ a w F O (h1 rfl) hr hQ)
        · exact h.elim
      · exact h.elim
    · cases hc
  | block id c ih =>
    intro ac hc Q Q' st a w F O h hr hQ
    simp only [copC] at hc
    split at hc
    · rename_i p hp
      cases hc
      refine wpIn_block (ih p hp _ _ st a w F O h hr fun e st' a' w' F' O' he hr' => ?_)
      cases e with
      | n => exact hQ .n st' a' w' F' O' he hr'
      | x id' =>
        simp only [blockQ] at he
        show (if id' = id then Q' .normal a' w' else Q' (.exit id') a' w')
        by_cases hid : id' = id
        · rw [if_pos hid] at he ⊢; exact hQ .n st' a' w' F' O' he hr'
        · rw [if_neg hid] at he ⊢; exact hQ (.x id') st' a' w' F' O' he hr'
      | r => exact hQ .r st' a' w' F' O' he hr'
    · cases hc
  | loop c ih =>
    intro ac hc Q Q' st a w F O h hr hQ
    simp only [copC] at hc
    split at hc
    · rename_i p hp
      cases hc
      obtain ⟨α, J, μ, sc, a0, h0, h1, h2⟩ := h
      have key : ∀ (nn : Nat) (x : α) (a : Act) (w : World) (F : Fz) (O : Ow), μ x < nn → J x → Rl G B w0 F0 F1 O1 F O (sc x) a w → Code.roundsIn (Fl lo) n P c Q' nn a w := by
        intro nn
        induction nn with
        | zero => intro x a w F O hx; omega
        | succ nn ihn =>
          intro x a w F O hx hJ hr
          rw [roundsIn_succ]
          refine ih p hp _ _ (sc x) a w F O (h2 x hJ) hr fun e st' a' w' F' O' he hr' => ?_
          cases e with
          | n =>
            obtain ⟨x', g1, g2, g3⟩ := he
            obtain ⟨O2, hr2⟩ := hr'.forget hm g3
            exact ihn x' a' w' F' O2 (by omega) g1 hr2
          | x id => exact hQ (.x id) st' a' w' F' O' he hr'
          | r => exact hQ .r st' a' w' F' O' he hr'
      obtain ⟨O2, hr2⟩ := hr.forget hm h1
      exact wpIn_loop_rounds (μ a0 + 1) (key (μ a0 + 1) a0 a w F O2 (Nat.lt_succ_self _) h0 hr2)
    · cases hc
  | scope c ih =>
    intro ac hc Q Q' st a w F O h hr hQ
    simp only [copC] at hc
    split at hc
    · rename_i p hp
      cases hc
      refine wpIn_scope_straight (ih p hp Q _ st a w F O h hr fun e st' a' w' F' O' he hr' => ?_)
      have := hQ e st' a' w' F' O' he hr'
      cases e <;> exact this
    · cases hc
  | exit id => intro ac hc Q Q' st a w F O h hr hQ; cases hc; exact wpIn_exit (hQ (.x id) st a w F O h hr)
  | ret => intro ac hc Q Q' st a w F O h hr hQ; cases hc; exact wpIn_ret (hQ .r st a w F O h hr)
  | rangeFunc => intro ac hc; cases hc
  | goto => intro ac hc Q Q' st a w F O h; cases hc; exact (V_bad h).elim
  | refuse => intro ac hc Q Q' st a w F O h; cases hc; exact (V_bad h).elim
end
/-- A block that holds no cells. -/
def NC (w : World) (b : Nat) : Prop := ∃ o, w.heap[b]? = some o ∧ (match o with | .cells .. => False | .map .. => False | .mapIter .. => False | _ => True)
theorem NC.lt {w : World} {b : Nat} (h : NC w b) : b < w.heap.size := by
  obtain ⟨o, h, _⟩ := h
  rcases Nat.lt_or_ge b w.heap.size with hh | hh
  · exact hh
  · rw [Array.getElem?_eq_none hh] at h; cases h
theorem NC.cell {w : World} {b o : Nat} {p v} (h : NC w b) (hc : w.cell? ⟨b, o, p⟩ = some v) : False := by
  obtain ⟨ob, h1, h2⟩ := h
  unfold World.cell? at hc
  simp only [h1] at hc
  cases ob <;> simp_all
theorem NC.row {B : Bd} {F : Fz} {O : Ow} {w : World} {d : Ds} {ob : OB} {b : Nat} (h : NC w b) (hr : Row B F O w d ob) : d.b ≠ b := by
  obtain ⟨o, h1, h2⟩ := h
  obtain ⟨cur, hc, _⟩ := hr.cur
  rintro rfl
  rcases hc with ⟨_, hc⟩ | ⟨_, ⟨_, _, _, _, _, hc, _⟩ | ⟨_, _, _, _, _, hc, _⟩⟩ <;> rw [hc] at h1 <;> cases h1 <;> exact h2
theorem Row.ok {B B' : Bd} {F : Fz} {O : Ow} {w : World} {d : Ds} {ob : OB} (h : Row B F O w d ob) (hb : B'.ok d.b) : Row B' F O w d ob := ⟨h.hg, h.hk, hb, h.cur, h.hC, h.hl, h.hn, h.h1, h.hf, h.hz⟩
theorem Own.re {B : Bd} {w0 w : World} {F0 F : Fz} {O : Ow} {H : Hp} (h : Own B w0 F0 F O H w) (K' : Nat → Prop) (hK : ∀ b, K' b → NC w b) (ds : List Deferred) : Own ⟨B.n, fun b => B.K b ∨ K' b, ds⟩ w F0 F O H w :=
  ⟨h.len, fun i d ob h1 h2 => have hr := h.row i d ob h1 h2; hr.ok ⟨hr.hB.1, fun hk => hk.elim hr.hB.2 fun hk => (hK _ hk).row hr rfl⟩, h.inj, h.fr, h.le,
    fun b o v hv => (h.new b o v hv).imp id fun hb => ⟨hb.1, fun hk => hk.elim hb.2 fun hk => (hK _ hk).cell (h.fr b o v hv)⟩, Below.refl _ _, h.size, fun _ _ => rfl,
    fun b hk => hk.elim (fun hk => Nat.lt_of_lt_of_le (h.kb b hk) h.below.size) fun hk => (hK b hk).lt⟩
theorem Own.un {B B' : Bd} {w0 w w' : World} {F0 F F' : Fz} {O O' : Ow} {H H' : Hp} (h0 : Own B w0 F0 F O H w) (h : Own B' w F0 F' O' H' w') (hn : B'.n = B.n) (hK : ∀ b, B.K b → B'.K b) : Own B w0 F0 F' O' H' w' :=
  ⟨h.len, fun i d ob h1 h2 => have hr := h.row i d ob h1 h2; hr.ok ⟨hn ▸ hr.hB.1, fun hk => hr.hB.2 (hK _ hk)⟩, h.inj, h.fr, h.le,
    fun b o v hv => (h.new b o v hv).imp id fun hb => ⟨hn ▸ hb.1, fun hk => hb.2 (hK _ hk)⟩, h0.below.trans (hn ▸ h.below), hn ▸ h.size, fun b hk => (h.kept b (hK b hk)).trans (h0.kept b hk), h0.kb⟩
theorem Own.putNC {B : Bd} {w0 w : World} {F0 F : Fz} {O : Ow} {H : Hp} (h : Own B w0 F0 F O H w) {lo : Nat} (o : Obj) (hl : NC w lo) (hn : B.n ≤ lo) (hk : ¬ B.K lo) : Own B w0 F0 F O H (w.putObj lo o) :=
  ⟨h.len, fun i d ob h1 h2 => by
      have hr := h.row i d ob h1 h2
      have hne := hl.row hr
      obtain ⟨cur, c1, c2, c3⟩ := hr.cur
      exact ⟨hr.hg, hr.hk, hr.hB, ⟨cur, by rw [World.putObj_heap_other hne]; exact c1, c2, c3⟩, hr.hC, hr.hl, hr.hn, hr.h1, hr.hf, hr.hz⟩, h.inj,
    fun b o' v hv => (World.cell?_of_block (World.putObj_heap_other fun e => hl.cell (by have := h.fr b o' v hv; rw [show b = lo from e] at this; exact this))).trans (h.fr b o' v hv), h.le, h.new,
    h.below.trans ⟨rfl, rfl, rfl, by simp, fun k hlt => World.putObj_heap_other (by omega)⟩, by simpa using h.size, fun b hb => (World.putObj_heap_other fun e => hk (by rw [← show b = lo from e]; exact hb)).trans (h.kept b hb), h.kb⟩
abbrev dmark (D : Nat) : Deferred := { target := .collected D, args := #[] }
/-- A later base of the frame: some more blocks are kept, some marks more are among the deferred calls. -/
structure Ext (B : Bd) (w0 : World) (F0 : Fz) (B' : Bd) (w0' : World) : Prop where
  n : B'.n = B.n
  K : ∀ b, B.K b → B'.K b
  kept : ∀ b, B.K b → w0'.heap[b]? = w0.heap[b]?
  back : ∀ F O H w, Own B' w0' F0 F O H w → Own B w0 F0 F O H w
  size : w0.heap.size ≤ w0'.heap.size
  ds : ∃ Ds : List Nat, B'.ds = Ds.map dmark ++ B.ds ∧ Ds.Nodup ∧ ∀ D ∈ Ds, w0.heap.size ≤ D ∧ B.n ≤ D ∧ B'.K D ∧ w0'.heap[D]? = some (.deferred (some []))
theorem Ext.refl (B : Bd) (w0 : World) (F0 : Fz) : Ext B w0 F0 B w0 := ⟨rfl, fun _ h => h, fun _ _ => rfl, fun _ _ _ _ h => h, Nat.le_refl _, [], rfl, .nil, fun _ h => by cases h⟩
theorem Ext.trans {B B1 B2 : Bd} {w0 w1 w2 : World} {F0 : Fz} (h : Ext B w0 F0 B1 w1) (k : Ext B1 w1 F0 B2 w2) : Ext B w0 F0 B2 w2 := by
  obtain ⟨D1, e1, n1, p1⟩ := h.ds
  obtain ⟨D2, e2, n2, p2⟩ := k.ds
  refine ⟨k.n.trans h.n, fun b hb => k.K b (h.K b hb), fun b hb => (k.kept b (h.K b hb)).trans (h.kept b hb), fun F O H w hw => h.back _ _ _ _ (k.back _ _ _ _ hw), Nat.le_trans h.size k.size, D2 ++ D1, by rw [e2, e1]; simp, ?_, ?_⟩
  · rw [List.nodup_append]
    refine ⟨n2, n1, fun a ha b hb hab => ?_⟩
    subst hab
    have q1 := (p2 a ha).1
    have q2 := (p1 a hb).2.2.2
    rw [Array.getElem?_eq_none q1] at q2; cases q2
  · intro D hD
    rcases List.mem_append.1 hD with hD | hD
    · obtain ⟨q1, q2, q3, q4⟩ := p2 D hD
      exact ⟨Nat.le_trans h.size q1, h.n ▸ q2, q3, q4⟩
    · obtain ⟨q1, q2, q3, q4⟩ := p1 D hD
      exact ⟨q1, q2, k.K D q3, (k.kept D q3).trans q4⟩
theorem Rl.keepB {G : Nat → AV} {B : Bd} {w0 : World} {F0 F1 : Fz} {O1 : Ow} {F : Fz} {O : Ow} {st : St} {a : Act} {w w' : World} (h : Rl G B w0 F0 F1 O1 F O st a w) (hb : Below w.heap.size w w') : Rl G B w0 F0 F1 O1 F O st a w' :=
  ⟨h.own.keep hb, h.size, h.slot, h.defs, h.gok, h.leF, h.leO⟩
/-- An iterator: it hands the elements of l to yield, one by one. -/
def SeqC (P : Program) (G : Nat → AV) (f : FuncId) (cs : List AV) (l : List AV) : Prop :=
  hasBody P f = true ∧ ∀ (n lo : Nat) (F : Fz) (xs : List Value) (J : Nat → World → Prop) (W : World), GOK G F → xs.length = cs.length → (∀ (i : Nat) (c : Value) (a : AV), xs[i]? = some c → cs[i]? = some a → PV F c a) →
    (∀ k W1, J k W1 → ∀ b o v, F b o = some v → W1.cell? ⟨b, o, none⟩ = some v) →
    (∀ k W1 W2, J k W1 → Below W1.heap.size W1 W2 → J k W2) →
    (∀ k W1 e v n', J k W1 → l[k]? = some e → PV F v e → ∃ fn tmps assign body, (Instr.yield lo #[v]).run P W1 = .ok (.round lo fn tmps assign body) W1 ∧ RoundIn Fence.wide n' P lo fn tmps assign body W1 fun e W' => e = .returned (.bool true) ∧ J (k + 1) W') →
    J 0 W → CallsIn Fence.wide n P f (#[.func (.yield lo) #[] #[]] ++ xs.toArray) W fun e W' => (∃ v, e = .returned v) ∧ J l.length W'
/-- Values of a round's parameters. -/
def PVs (F : Fz) : List Value → List AV → Prop
  | v :: vs, a :: as => PV F v a ∧ PVs F vs as
  | [], [] => True
  | _, _ => False
theorem PVs.len {F : Fz} : ∀ {vs : List Value} {as : List AV}, PVs F vs as → vs.length = as.length
  | [], [], _ => rfl
  | _ :: _, _ :: _, h => by simp only [List.length_cons]; rw [PVs.len h.2]
/-- An iterator with any number of parameters. -/
def SeqL (P : Program) (G : Nat → AV) (f : FuncId) (cs : List AV) (l : List (List AV)) : Prop :=
  hasBody P f = true ∧ ∀ (n lo : Nat) (F : Fz) (xs : List Value) (J : Nat → World → Prop) (W : World), GOK G F → xs.length = cs.length → (∀ (i : Nat) (c : Value) (a : AV), xs[i]? = some c → cs[i]? = some a → PV F c a) →
    (∀ k W1, J k W1 → ∀ b o v, F b o = some v → W1.cell? ⟨b, o, none⟩ = some v) →
    (∀ k W1 W2, J k W1 → Below W1.heap.size W1 W2 → J k W2) →
    (∀ k W1 e vs n', J k W1 → l[k]? = some e → PVs F vs e → ∃ fn tmps assign body, (Instr.yield lo vs.toArray).run P W1 = .ok (.round lo fn tmps assign body) W1 ∧ RoundIn Fence.wide n' P lo fn tmps assign body W1 fun e W' => e = .returned (.bool true) ∧ J (k + 1) W') →
    J 0 W → CallsIn Fence.wide n P f (#[.func (.yield lo) #[] #[]] ++ xs.toArray) W fun e W' => (∃ v, e = .returned v) ∧ J l.length W'
theorem SeqC.list {P : Program} {G : Nat → AV} {f : FuncId} {cs l : List AV} (h : SeqC P G f cs l) : SeqL P G f cs (l.map fun a => [a]) :=
  ⟨h.1, fun n lo F xs J W g hl hv hf hb hR h0 => by
    rw [List.length_map]
    refine h.2 n lo F xs J W g hl hv hf hb (fun k W1 e v n' hj he hp => ?_) h0
    exact hR k W1 [e] [v] n' hj (by simp [List.getElem?_map, he]) ⟨hp, trivial⟩⟩
/-- The parameters' slots are written. -/
def setP : List Nat → List AV → List AV → List AV
  | p :: ps, a :: as, s => setP ps as (s.set p a)
  | _, _, s => s
theorem setP_len : ∀ {ps : List Nat} {as s : List AV}, (setP ps as s).length = s.length
  | [], _, _ => by simp [setP]
  | _ :: _, [], _ => by simp [setP]
  | p :: ps, a :: as, s => by simp only [setP]; rw [setP_len, List.length_set]
def setV : List Nat → List Value → Array Value → Array Value
  | p :: ps, v :: vs, t => setV ps vs (t.setIfInBounds p v)
  | _, _, t => t
theorem setV_eq : ∀ {ps : List Nat} {vs : List Value} {t : Array Value}, (ps.toArray.zip vs.toArray).foldl (fun tmps (t, a) => tmps.setIfInBounds t a) t = setV ps vs t := by
  intro ps vs t
  rw [← Array.foldl_toList]
  simp only [Array.toList_zip]
  induction ps generalizing vs t with
  | nil => simp [setV]
  | cons p ps ih => cases vs with
    | nil => simp [setV]
    | cons v vs => simp only [List.zip_cons_cons, List.foldl_cons, setV]; exact ih
theorem setV_size : ∀ {ps : List Nat} {vs : List Value} {t : Array Value}, (setV ps vs t).size = t.size
  | [], _, _ => by simp [setV]
  | _ :: _, [], _ => by simp [setV]
  | p :: ps, a :: as, s => by simp only [setV]; rw [setV_size, Array.size_setIfInBounds]
theorem setP_ok {F' : Fz} {O' : Ow} : ∀ {ps : List Nat} {es : List AV} {vs : List Value} {s : List AV} {t : Array Value}, PVs F' vs es → s.length = t.size → (∀ i, VR F' O' (t.getD i undef) (s.getD i undefA)) → ∀ i, VR F' O' ((setV ps vs t).getD i undef) ((setP ps es s).getD i undefA) := by
  intro ps
  induction ps with
  | nil => intro es vs s t _ _ h; simpa [setP, setV] using h
  | cons p ps ih =>
    intro es vs s t hv hl h
    cases es with
    | nil => cases vs with
      | nil => simpa [setP, setV] using h
      | cons => exact hv.elim
    | cons e es => cases vs with
      | nil => exact hv.elim
      | cons v vs =>
        simp only [setP, setV]
        refine ih hv.2 (by simp [hl]) fun i => ?_
        have h0 := h i
        rw [Array.getD_eq_getD_getElem?, List.getD_eq_getElem?_getD] at h0 ⊢
        by_cases hpt : p = i
        · subst hpt
          by_cases hlt : p < s.length
          · rw [List.getElem?_set_self hlt, Array.getElem?_setIfInBounds_self_of_lt (by omega)]
            exact .p hv.1
          · rw [List.getElem?_eq_none (by simp; omega), Array.getElem?_eq_none (by simp; omega)]
            exact undef_ok
        · rw [List.getElem?_set_ne hpt, Array.getElem?_setIfInBounds_ne hpt]
          exact h0
theorem PVs.mono {F F' : Fz} (hF : F.le F') : ∀ {vs : List Value} {as : List AV}, PVs F vs as → PVs F' vs as
  | [], [], _ => trivial
  | _ :: _, _ :: _, h => ⟨h.1.mono hF, PVs.mono hF h.2⟩
/-- Again at the head of a range. -/
inductive AgR {α : Type} (m : Nat) (J : Nat → α → Prop) (rows : α → Hp) (s : List AV) (k : Nat) (st : St) : Prop
  | mk (a : α) (h1 : J k a) (h2 : Fg m ⟨s, st.H⟩ ⟨s, rows a⟩) : AgR m J rows s k st
def RndQ {α : Type} (m : Nat) (J : Nat → α → Prop) (rows : α → Hp) (s : List AV) (k : Nat) : EX → St → Prop
  | .n, st => AgR m J rows s k st
  | _, _ => False
def asgQ (K : St → Prop) : EX → St → Prop
  | .n, st => K st
  | _, _ => False
section
variable (P : Program) (G : Nat → AV)
/-- A range over a function, by what holds between two rounds. -/
inductive RngP (m : Nat) (gv : AV) (ps : List Nat) (x y : AC) (Q : EX → St → Prop) (s : List AV) (H : Hp) : Prop
  | gen (f : FuncId) (cs : List AV) (l : List (List AV)) (hg : fnA gv = some (f, cs)) (hp : cs.all AV.isP = true) (hl : ∀ (k : Nat) e, l[k]? = some e → e.length = ps.length) (hs : SeqL P G f cs l) (α : Type) (J : Nat → α → Prop) (rows : α → Hp) (x0 : α) (h0 : J 0 x0) (s' : List AV) (hH : Fg m ⟨s, H⟩ ⟨s', rows x0⟩)
      (h1 : ∀ k a e, J k a → l[k]? = some e → V P G (rows a).length x (asgQ (V P G (rows a).length y (RndQ m J rows s' (k + 1)))) ⟨setP ps e s', rows a⟩)
      (h2 : ∀ a, J l.length a → Q .n ⟨s', rows a⟩) : RngP m gv ps x y Q s H
end
section
variable {P : Program} {G : Nat → AV} {hs : List FuncId}
theorem enters_body {f : FuncId} (hb : hasBody P f = true) (args : Array Value) (w : World) : (callFunc f args).run P w = .ok (.enter f args) w := by
  unfold hasBody at hb
  split at hb
  · rename_i fn hfn
    simp only [Bool.and_eq_true, bne_iff_ne, ne_eq] at hb
    have hbn : fn.body.isNone = false := by cases hq : fn.body with
      | none => rw [hq] at hb; simp at hb
      | some _ => rfl
    have hnm : (fn.name == "runtime.NumGoroutine") = false := by simpa using hb.2
    simp only [Sem.run_bind, Sem.run_pure, Result.andThen_ok, callFunc, program, Sem.run, hfn, hnm, hbn, Bool.false_eq_true, if_false]
  · cases hb
set_option maxHeartbeats 1000000 in
theorem rng_ok {B : Bd} {w0 : World} {F0 F1 : Fz} {O1 : Ow} {m : Nat} (hm : O1.length ≤ m) {g : Operand} {ps : List Nat} {assign body : Code} {x y : AC} (hx : copC P hs assign = some x) (hy : copC P hs body = some y) {gv : AV} {s : List AV} {H : Hp} {a : Act} {w : World} {F : Fz} {O : Ow} {Q : EX → St → Prop} {Q' : Exit → Act → World → Prop}
    (hr : Rl G B w0 F0 F1 O1 F O ⟨s, H⟩ a w) (hgv : VR F O (a.eval g) gv) (h : RngP P G m gv ps x y Q s H)
    (hQ : ∀ st' a' w' F' O' B' w0', Ext B w0 F0 B' w0' → Q .n st' → Rl G B' w0' F0 F1 O1 F' O' st' a' w' → Q' .normal a' w') : (Code.rangeFunc g ps.toArray assign body).wp P Q' a w := by
  refine (wpIn_wide (n := 0)).1 (wpIn_rangeFunc ?_)
  intro fn hfn
  obtain ⟨f, cs, l, hg, hp, hlen, ⟨hbody, hs⟩, α, J, rows, x0, h0, s', hH, h1, h2⟩ := h
  obtain ⟨xs, hxe, hxl, hxv⟩ := fnA_ok hgv hg
  have hxp : ∀ (i : Nat) (c : Value) (a : AV), xs[i]? = some c → cs[i]? = some a → PV F c a := fun i c a h1 h2 => (hxv i c a h1 h2).pv (List.all_eq_true.1 hp a (List.mem_of_getElem? h2))
  obtain ⟨rec, hrec⟩ : ∃ rec : LoopState → Option Code → Loop, rec = fun st pe => { state := st, pending := pe, fn, tmps := a.tmps, params := ps.toArray, assign, body, defers := w.heap.size } := ⟨_, rfl⟩
  obtain ⟨W1, hW1⟩ : ∃ W1, (w.alloc (.deferred (some []))).alloc (.loop (rec .ready none)) = W1 := ⟨_, rfl⟩
  obtain ⟨D, hD⟩ : ∃ D, D = w.heap.size := ⟨_, rfl⟩
  obtain ⟨lo, hlo⟩ : ∃ lo, lo = w.heap.size + 1 := ⟨_, rfl⟩
  have hL1 : W1.heap[lo]? = some (.loop (rec .ready none)) := by
    rw [← hW1, hlo]; have := World.alloc_heap_new (w.alloc (.deferred (some []))) (.loop (rec .ready none)); rwa [World.size_alloc] at this
  have hK1 : W1.heap[D]? = some (.deferred (some [])) := by
    rw [← hW1, hD]; exact (Below.heap_alloc _ _ _ (by simp)).trans (World.alloc_heap_new w _)
  have hb1 : Below w.heap.size w W1 := by
    rw [← hW1]; exact ((Below.refl _ w).alloc (Nat.le_refl _) _).alloc (by simp) _
  have hBn : B.n ≤ w.heap.size := hr.own.size
  have hBK : ∀ b, B.K b → b < w.heap.size := fun b hb => Nat.lt_of_lt_of_le (hr.own.kb b hb) hr.own.below.size
  have hlK : ¬ B.K lo := fun hk => by have := hBK _ hk; omega
  have ncL : ∀ {W : World} {r : Loop}, W.heap[lo]? = some (.loop r) → NC W lo := fun h => ⟨_, h, trivial⟩
  have ncD : ∀ {W : World}, W.heap[D]? = some (.deferred (some [])) → NC W D := fun h => ⟨_, h, trivial⟩
  obtain ⟨J', hJ'⟩ : ∃ J' : Nat → World → Prop, J' = fun k W => (∃ F' O' x', J k x' ∧ F.le F' ∧ Rl G B w0 F0 F1 O1 F' O' ⟨s', rows x'⟩ a W) ∧ W.heap[lo]? = some (.loop (rec .ready none)) ∧ W.heap[D]? = some (.deferred (some [])) := ⟨_, rfl⟩
  refine ⟨lo, [dmark D], W1, { target := .fn (.func f) xs.toArray, args := #[.func (.yield lo) #[] #[]] }, W1, f, #[.func (.yield lo) #[] #[]] ++ xs.toArray, W1, ?_, ?_, fun _ _ => trivial, ?_, fun hh => (by cases hh), ?_⟩
  · rw [← hW1, hrec, hlo, hD]; exact run_enterLoop_outer _ _ _ _ _
  · simp only [resolve, hxe]
    simp [go_sem]
  · simp [invoke, go_sem, enters_body hbody]
  refine (hs _ lo F xs J' W1 hr.gok hxl hxp ?_ ?_ ?_ ?_).mono ?_
  · intro k W hj b o v hv
    rw [hJ'] at hj
    obtain ⟨⟨F', O', x', _, lF, hrl⟩, _⟩ := hj
    exact hrl.own.fr b o v (lF b o v hv)
  · intro k W W2 hj hb
    rw [hJ'] at hj ⊢
    obtain ⟨⟨F', O', x', hjx, lF, hrl⟩, hl, hd⟩ := hj
    exact ⟨⟨F', O', x', hjx, lF, hrl.keepB hb⟩, (hb.block _ (ncL hl).lt).trans hl, (hb.block _ (ncD hd).lt).trans hd⟩
  · intro k W e vs n' hj he hv
    rw [hJ'] at hj
    obtain ⟨⟨F', O', x', hjx, lF, hrl⟩, hl, hd⟩ := hj
    have hyl := run_yield (P := P) (args := vs.toArray) hl (by rw [hrec]; simp [hv.len, hlen k e he])
    refine ⟨fn, setV ps vs a.tmps, assign, body, by rw [hyl, hrec, ← setV_eq], roundIn_of_wpIn hfn ?_⟩
    have hKK : ∀ {W : World} {r : Loop}, W.heap[lo]? = some (.loop r) → W.heap[D]? = some (.deferred (some [])) → ∀ b, (b = lo ∨ b = D) → NC W b := fun h1 h2 b hb => by
      rcases hb with rfl | rfl
      · exact ncL h1
      · exact ncD h2
    have own1 := hrl.own.re (fun b => b = lo ∨ b = D) (hKK hl hd) []
    have rl1 : Rl G _ W F0 F' O' F' O' ⟨setP ps e s', rows x'⟩ { tmps := setV ps vs a.tmps, defers := [] } W := ⟨own1, by simp only [setV_size, setP_len]; exact hrl.size, setP_ok (hv.mono lF) hrl.size.symm hrl.slot, rfl, hrl.gok, Fz.le_refl _, Ow.le_refl _⟩
    refine V_okIn (m := (rows x').length) (by rw [hrl.own.len]; exact Nat.le_refl _) assign x hx _ _ _ _ _ _ _ (h1 k x' e hjx he) rl1 ?_
    intro ex st1 a1 w1 F2 O2 hq rl2
    cases ex with
    | x id => exact hq.elim
    | r => exact hq.elim
    | n =>
      have hl1 : w1.heap[lo]? = some (.loop (rec .ready none)) := (rl2.own.kept lo (.inr (.inl rfl))).trans hl
      have hd1 : w1.heap[D]? = some (.deferred (some [])) := (rl2.own.kept D (.inr (.inr rfl))).trans hd
      refine ⟨_, run_beginRound hl1 (by rw [hrec]), ?_⟩
      obtain ⟨rb, hrb⟩ : ∃ rb : Loop, rb = { rec .ready none with state := .busy } := ⟨_, rfl⟩
      rw [← hrb]
      have own2 := (hrl.own.un rl2.own rfl (fun b hb => .inl hb)).putNC (.loop rb) (ncL hl1) (by omega) hlK
      have hl2 : (w1.putObj lo (.loop rb)).heap[lo]? = some (.loop rb) := World.putObj_heap_same (ncL hl1).lt
      have hd2 : (w1.putObj lo (.loop rb)).heap[D]? = some (.deferred (some [])) := (World.putObj_heap_other (by omega)).trans hd1
      have own3 := own2.re (fun b => b = lo ∨ b = D) (hKK hl2 hd2) []
      have rl3 : Rl G _ (w1.putObj lo (.loop rb)) F0 F' O' F2 O2 st1 a1 (w1.putObj lo (.loop rb)) := ⟨own3, rl2.size, rl2.slot, rl2.defs, rl2.gok, rl2.leF, rl2.leO⟩
      refine V_okIn (m := (rows x').length) (by rw [hrl.own.len]; exact Nat.le_refl _) body y hy _ _ _ _ _ _ _ hq rl3 ?_
      intro ex st3 a3 w3 F3 O3 hq3 rl4
      cases ex with
      | x id => exact hq3.elim
      | r => exact hq3.elim
      | n =>
        obtain ⟨x2, g1, g2⟩ := hq3
        have hl3 : w3.heap[lo]? = some (.loop rb) := (rl4.own.kept lo (.inr (.inl rfl))).trans hl2
        have hd3 : w3.heap[D]? = some (.deferred (some [])) := (rl4.own.kept D (.inr (.inr rfl))).trans hd2
        refine ⟨_, _, run_endRound none hl3, rfl, ?_⟩
        rw [hJ']
        have hrr : ({ rb with state := if (none : Option Code).isNone = true then LoopState.ready else LoopState.done, pending := none } : Loop) = rec .ready none := by rw [hrb, hrec]; rfl
        rw [hrr]
        have own4 := (own2.un rl4.own rfl (fun b hb => .inl hb)).putNC (.loop (rec .ready none)) (ncL hl3) (by omega) hlK
        have rl5 : Rl G B w0 F0 F1 O1 F3 O3 ⟨s', st3.H⟩ a (w3.putObj lo (.loop (rec .ready none))) := ⟨own4, hrl.size, fun t => (hrl.slot t).mono rl4.leF rl4.leO, hrl.defs, hrl.gok.mono rl4.leF, Fz.le_trans hrl.leF rl4.leF, Ow.le_trans hrl.leO rl4.leO⟩
        obtain ⟨O5, rl6⟩ := rl5.forget hm g2
        exact ⟨⟨F3, O5, x2, g1, Fz.le_trans lF rl4.leF, rl6⟩, World.putObj_heap_same (ncL hl3).lt, (World.putObj_heap_other (by omega)).trans hd3⟩
  · rw [hJ']
    obtain ⟨O2, hr2⟩ := (hr.keepB hb1).forget hm hH
    exact ⟨⟨F, O2, x0, h0, Fz.le_refl F, hr2⟩, hL1, hK1⟩
  · rintro e W2 ⟨⟨v, rfl⟩, hj⟩
    rw [hJ'] at hj
    obtain ⟨⟨F', O', x', hjx, lF, hrl⟩, hl, hd⟩ := hj
    obtain ⟨rx, hend⟩ : ∃ rx : Loop, (Instr.endLoop lo).run P W2 = .ok none (W2.putObj lo (.loop rx)) := by
      have h := run_endLoop (P := P) hl (by rw [hrec]; simp)
      rw [hrec] at h
      exact ⟨_, h⟩
    refine ⟨none, _, hend, ?_⟩
    show Q' .normal _ _
    have own4 := hrl.own.putNC (.loop rx) (ncL hl) (by omega) hlK
    have hd4 : (W2.putObj lo (.loop rx)).heap[D]? = some (.deferred (some [])) := (World.putObj_heap_other (by omega)).trans hd
    have own5 := own4.re (fun b => b = D) (fun b hb => by subst hb; exact ncD hd4) (dmark D :: B.ds)
    refine hQ ⟨s', rows x'⟩ _ _ F' O' ⟨B.n, fun b => B.K b ∨ b = D, dmark D :: B.ds⟩ _ ⟨rfl, fun b hb => .inl hb, own4.kept, fun F5 O5 H5 w5 h5 => own4.un h5 rfl (fun b hb => .inl hb), own4.below.size, [D], rfl, by simp, fun D' hD' => ?_⟩ (h2 x' hjx) ⟨own5, hrl.size, hrl.slot, by show dmark D :: a.defers = dmark D :: B.ds; rw [hrl.defs], hrl.gok, hrl.leF, hrl.leO⟩
    obtain rfl : D' = D := by simpa using hD'
    exact ⟨by have := hr.own.below.size; omega, by omega, .inr rfl, hd4⟩
end
/-- A program's code with ranges over functions, on plain values. -/
def copX (P : Program) (hs : List FuncId) : Code → Option AC
  | .seq a b => (match copX P hs a, copX P hs b with | some x, some y => some (.seq x y) | _, _ => none)
  | .cond c t e => (match cx P 0 c, copX P hs t, copX P hs e with | some c, some x, some y => some (.cond c x y) | _, _, _ => none)
  | .block id c => (match copX P hs c with | some x => some (.block id x) | none => none)
  | .scope c => (match copX P hs c with | some x => some (.scope x) | none => none)
  | .rangeFunc g ps a b => (match cx P 0 g, ps.toList, copC P hs a, copC P hs b with | some g, ps, some x, some y => some (.rng g ps x y) | _, _, _, _ => none)
  | .skip => copC P hs .skip
  | .label l => copC P hs (.label l)
  | .region i ops d => copC P hs (.region i ops d)
  | .loop c => copC P hs (.loop c)
  | .exit i => copC P hs (.exit i)
  | .ret => copC P hs .ret
  | _ => none
def fcEX (i g kk n : Nat) (es : List AV) : List AV → (List AV → Prop) → Prop
  | [], k => k []
  | a :: as, k => (match a with
    | .agg cs => fcL i g kk n es cs (fun cs' => fcEX i g kk n es as (fun bs => k (.agg cs' :: bs)))
    | .ol j g' n' => fcC i g kk n es false (.ol j g' n') (fun b => fcEX i g kk n es as (fun bs => k (b :: bs)))
    | a => fcEX i g kk n es as (fun bs => k (a :: bs)))
theorem fcEX_ok {i g kk n : Nat} {es : List AV} : ∀ {as : List AV} {k : List AV → Prop}, fcEX i g kk n es as k → ∃ bs, k bs ∧ bs.length = as.length ∧ ∀ (c : Nat) (b : AV), bs[c]? = some b → ∃ a, as[c]? = some a ∧ b.cells.length = a.cells.length ∧ ∀ (c : Nat) (y : AV), b.cells[c]? = some y → ∃ x, a.cells[c]? = some x ∧ FzR i g kk n es x y
  | [], _, h => ⟨[], h, rfl, fun c b hb => by simp at hb⟩
  | a :: as, k, h => by
    have same : fcEX i g kk n es as (fun bs => k (a :: bs)) → ∃ bs, k bs ∧ bs.length = (a :: as).length ∧ ∀ (c : Nat) (b : AV), bs[c]? = some b → ∃ a', (a :: as)[c]? = some a' ∧ b.cells.length = a'.cells.length ∧ ∀ (c : Nat) (y : AV), b.cells[c]? = some y → ∃ x, a'.cells[c]? = some x ∧ FzR i g kk n es x y := fun h => by
      obtain ⟨bs, h3, h4, h5⟩ := fcEX_ok h
      refine ⟨a :: bs, h3, by simp [h4], fun c x hx => ?_⟩
      cases c with
      | zero => simp at hx; subst hx; exact ⟨a, rfl, rfl, fun c y hy => ⟨y, hy, .inl rfl⟩⟩
      | succ c => obtain ⟨y, q1, q2⟩ := h5 c x (by simpa using hx); exact ⟨y, by simpa using q1, q2⟩
    cases a with
    | agg cs =>
      simp only [fcEX] at h
      obtain ⟨cs', h1, h2, h3⟩ := fcL_ok h
      obtain ⟨bs, h4, h5, h6⟩ := fcEX_ok h1
      refine ⟨.agg cs' :: bs, h4, by simp [h5], fun c x hx => ?_⟩
      cases c with
      | zero => simp at hx; subst hx; exact ⟨_, rfl, h2, h3⟩
      | succ c => obtain ⟨y, q1, q2⟩ := h6 c x (by simpa using hx); exact ⟨y, by simpa using q1, q2⟩
    | ol j g' n' =>
      simp only [fcEX] at h
      obtain ⟨b, h1, h2⟩ := fcC_ok h
      have hz : FzR i g kk n es (.ol j g' n') b := h2.resolve_left (by simp)
      obtain ⟨bs, h4, h5, h6⟩ := fcEX_ok h1
      refine ⟨b :: bs, h4, by simp [h5], fun c x hx => ?_⟩
      cases c with
      | zero =>
        simp at hx; subst hx
        have hb : b.cells = [b] := by rcases hz with rfl | ⟨_, _, _, rfl⟩ <;> rfl
        refine ⟨_, rfl, by rw [hb]; rfl, fun c y hy => ?_⟩
        rw [hb] at hy
        cases c with
        | zero => simp at hy; subst hy; exact ⟨_, rfl, hz⟩
        | succ c => simp at hy
      | succ c => obtain ⟨y, q1, q2⟩ := h6 c x (by simpa using hx); exact ⟨y, by simpa using q1, q2⟩
    | _ => exact same h
def fcHX (i g kk n : Nat) (es : List AV) : Hp → List Bool → (Hp → Prop) → Prop
  | H, [], k => k H
  | [], _ :: _, k => k []
  | ob :: H, c :: cs, k => (match c with
    | true => (match ob with | ⟨e, kk', es', g', fz⟩ => fcEX i g kk n es es' (fun es2 => fcHX i g kk n es H cs (fun H' => k (⟨e, kk', es2, g', fz⟩ :: H'))))
    | false => fcHX i g kk n es H cs (fun H' => k (ob :: H')))
theorem fcHX_ok {i g kk n : Nat} {es : List AV} : ∀ {cs : List Bool} {H : Hp} {k : Hp → Prop}, fcHX i g kk n es H cs k → ∃ H2, k H2 ∧ H2.length = H.length ∧ ∀ (j : Nat) (ob2 : OB), H2[j]? = some ob2 → ∃ ob, H[j]? = some ob ∧ ob2.e = ob.e ∧ ob2.k = ob.k ∧ ob2.g = ob.g ∧ ob2.fz = ob.fz ∧ ob2.es.length = ob.es.length ∧
      ∀ (c : Nat) (b : AV), ob2.es[c]? = some b → ∃ a, ob.es[c]? = some a ∧ b.cells.length = a.cells.length ∧ ∀ (c : Nat) (y : AV), b.cells[c]? = some y → ∃ x, a.cells[c]? = some x ∧ FzR i g kk n es x y
  | [], H, k, h => ⟨H, by cases H <;> exact h, rfl, fun j ob2 h => ⟨ob2, h, rfl, rfl, rfl, rfl, rfl, fun c b hb => ⟨b, hb, rfl, fun c y hy => ⟨y, hy, .inl rfl⟩⟩⟩⟩
  | _ :: _, [], k, h => ⟨[], h, rfl, fun j ob2 h => by simp at h⟩
  | true :: cs, ⟨e, kk', es', g', fz⟩ :: H, k, h => by
    simp only [fcHX] at h
    obtain ⟨es2, h1, h2, h3⟩ := fcEX_ok h
    obtain ⟨H', h4, h5, h6⟩ := fcHX_ok h1
    refine ⟨_, h4, by simp [h5], fun j ob2 hj => ?_⟩
    cases j with
    | zero => simp at hj; subst hj; exact ⟨_, rfl, rfl, rfl, rfl, rfl, h2, h3⟩
    | succ j => obtain ⟨ob, q1, q2⟩ := h6 j ob2 (by simpa using hj); exact ⟨ob, by simpa using q1, q2⟩
  | false :: cs, ob :: H, k, h => by
    simp only [fcHX] at h
    obtain ⟨H', h4, h5, h6⟩ := fcHX_ok h
    refine ⟨_, h4, by simp [h5], fun j ob2 hj => ?_⟩
    cases j with
    | zero => simp at hj; subst hj; exact ⟨ob, rfl, rfl, rfl, rfl, rfl, rfl, fun c b hb => ⟨b, hb, rfl, fun c y hy => ⟨y, hy, .inl rfl⟩⟩⟩
    | succ j => obtain ⟨ob', q1, q2⟩ := h6 j ob2 (by simpa using hj); exact ⟨ob', by simpa using q1, q2⟩
def fzKX (i n : Nat) (cv : List Bool) (s : List AV) (H : Hp) (k : St → Prop) : Prop :=
  rK H i (fun ob => match ob with | ⟨e, kk, es, g, fz⟩ => (match Nat.beq e 4000000000 with | true => False | false => ObN (n ≤ es.length) (ObN ((es.take n).all AV.isP = true) (rpK H i ⟨e, kk, es, g, max fz n⟩ (fun H1 => fcS i g kk n es s (fun s' => fcHX i g kk n es H1 cv (fun H' => k ⟨s', H'⟩)))))))
theorem fzKX_ok {G : Nat → AV} {B : Bd} {w0 : World} {F0 F1 : Fz} {O1 : Ow} {F : Fz} {O : Ow} {s : List AV} {H : Hp} {a : Act} {w : World} {i n : Nat} {cv : List Bool} {k : St → Prop} (hk : fzKX i n cv s H k) (h : Rl G B w0 F0 F1 O1 F O ⟨s, H⟩ a w) : ∃ st2 F', k st2 ∧ Rl G B w0 F0 F1 O1 F' O st2 a w := by
  obtain ⟨ob, h1, h2⟩ := rK_ok hk
  obtain ⟨e, kk, es, g, fz⟩ := ob
  simp only at h2
  split at h2
  · exact h2.elim
  rename_i hbe
  have hne : (e == 4000000000) = false := (beqN e _).trans hbe
  obtain ⟨hn, hp, h2⟩ := h2
  rw [rpK_eq] at h2
  obtain ⟨s', h3, h4, h5⟩ := fcS_ok h2
  obtain ⟨H', h6, h7, h8⟩ := fcHX_ok h3
  obtain ⟨F', own, lF, hz⟩ := h.own.freezeN h1 (by simpa using hne) hn hp
  refine ⟨_, F', h6, ?_, by rw [h.size]; exact h4.symm, fun t => ?_, h.defs, h.gok.mono lF, Fz.le_trans h.leF lF, h.leO⟩
  · refine own.recell (by simpa using h7) fun j ob2 hj => ?_
    obtain ⟨ob1, q1, q2, q3, q4, q5, q6, q7⟩ := h8 j ob2 hj
    refine ⟨ob1, q1, q2, q3, q4, q5, q6, fun c e2 he => ?_⟩
    obtain ⟨e1, p1, p2, p3⟩ := q7 c e2 he
    refine ⟨e1, p1, p2, fun c a2 ha => ?_⟩
    obtain ⟨a1, p4, p5⟩ := p3 c a2 ha
    refine ⟨a1, p4, p5.one, fun x hx => p5.vr (Fz.le_refl F') (fun x n' hn' hx => ?_) hx⟩
    -- the place in the row is the same as before
    have hx' : VR F O x (.ol i g n') := by
      cases hx with
      | p h => cases h
      | ol _ _ _ _ d hd hg h1 h => exact .ol x i g n' d hd hg h1 h
    exact hz x n' hn' hx'
  · rw [List.getD_eq_getElem?_getD]
    cases hq : s'[t]? with
    | none =>
      have h0 : s[t]? = none := by rw [List.getElem?_eq_none_iff] at hq ⊢; omega
      have := h.slot t
      rw [List.getD_eq_getElem?_getD] at this
      simp only [h0] at this
      exact this.mono lF (Ow.le_refl O)
    | some b =>
      obtain ⟨a0, q1, q2⟩ := h5 t b hq
      have := h.slot t
      rw [List.getD_eq_getElem?_getD] at this
      simp only [q1] at this
      exact q2 F F' O lF hz _ this
inductive SeqX (m : Nat) (K : St → Prop) (st : St) : Prop
  | sp (h : SeqP m K st) : SeqX m K st
  | fe (i n : Nat) (cv : List Bool) (h : fzKX i n cv st.s st.H K) : SeqX m K st
section
variable (P : Program) (G : Nat → AV)
def VX (m : Nat) : AC → (EX → St → Prop) → St → Prop
  | .seq a b, Q, st => VX m a (thenQ (SeqX m (VX m b Q)) Q) st
  | .cond c t e, Q, st => (match st with | ⟨s, H⟩ => eK G s c (fun c => match c with
    | .v v => (match v with | .bool b => ObT b (VX m t Q ⟨s, H⟩) (VX m e Q ⟨s, H⟩) | _ => False)
    | _ => False))
  | .block id c, Q, st => VX m c (blockQ id Q) st
  | .scope c, Q, st => VX m c Q st
  | .drawq .., _, _ => False
  | .rng g ps x y, Q, st => (match st with | ⟨s, H⟩ => eK G s g (fun gv => RngP P G m gv ps x y Q s H))
  | .skip, Q, st => Q .n st
  | .region ops, Q, st => V P G m (.region ops) Q st
  | .draw ops, Q, st => V P G m (.draw ops) Q st
  | .drawx reps, Q, st => V P G m (.drawx reps) Q st
  | .loop c, Q, st => V P G m (.loop c) Q st
  | .exit id, Q, st => Q (.x id) st
  | .ret, Q, st => Q .r st
end
section
variable {P : Program} {G : Nat → AV} {hs : List FuncId} {F0 F1 : Fz} {O1 : Ow} {m : Nat}
theorem copC_region {i : Nat} {ops : Array Oper} {d : Bool} {ac : AC} (h : copC P hs (.region i ops d) = some ac) : ∀ {Q : EX → St → Prop} {st : St}, VX P G m ac Q st → V P G m ac Q st := by
  simp only [copC] at h
  split at h
  · split at h
    · split at h
      · cases h; exact fun h => h
      · split at h
        · cases h; exact fun h => h
        · split at h
          · cases h; exact fun h => h
          · cases h; exact fun h => h
    · cases h; exact fun h => h
  · cases h
theorem VX_ok (hm : O1.length ≤ m) : ∀ (c : Code) (ac : AC), copX P hs c = some ac → ∀ (B : Bd) (w0 : World) (Q : EX → St → Prop) (Q' : Exit → Act → World → Prop) (st : St) (a : Act) (w : World) (F : Fz) (O : Ow), VX P G m ac Q st → Rl G B w0 F0 F1 O1 F O st a w →
    (∀ e st' a' w' F' O' B' w0', Ext B w0 F0 B' w0' → Q e st' → Rl G B' w0' F0 F1 O1 F' O' st' a' w' → Q' e.out a' w') → c.wp P Q' a w := by
  intro c
  induction c with
  | skip => intro ac hc B w0 Q Q' st a w F O h hr hQ; cases hc; exact wp_skip (hQ .n st a w F O B w0 (.refl ..) h hr)
  | label l => intro ac hc B w0 Q Q' st a w F O h hr hQ; cases hc; exact wp_label (hQ .n st a w F O B w0 (.refl ..) h hr)
  | region id ops draw =>
    intro ac hc B w0 Q Q' st a w F O h hr hQ
    exact V_ok hm _ ac hc Q Q' st a w F O (copC_region hc h) hr fun e st' a' w' F' O' he hr' => hQ e st' a' w' F' O' B w0 (.refl ..) he hr'
  | loop c _ =>
    intro ac hc B w0 Q Q' st a w F O h hr hQ
    refine V_ok hm _ ac hc Q Q' st a w F O ?_ hr fun e st' a' w' F' O' he hr' => hQ e st' a' w' F' O' B w0 (.refl ..) he hr'
    simp only [copX, copC] at hc
    split at hc
    · cases hc; exact h
    · cases hc
  | seq x y ihx ihy =>
    intro ac hc B w0 Q Q' st a w F O h hr hQ
    simp only [copX] at hc
    split at hc
    · rename_i p q hp hq
      cases hc
      refine wp_seq (ihx p hp B w0 _ _ st a w F O h hr fun e st' a' w' F' O' B' w0' hx he hr' => ?_)
      have hQ2 : ∀ e st' a' w' F' O' B2 w2, Ext B' w0' F0 B2 w2 → Q e st' → Rl G B2 w2 F0 F1 O1 F' O' st' a' w' → Q' e.out a' w' := fun e st' a' w' F' O' B2 w2 hx2 => hQ e st' a' w' F' O' B2 w2 (hx.trans hx2)
      cases e with
      | n =>
        rcases he with (he | ⟨st2, hf, he⟩ | ⟨i, n, cv, he⟩ | ⟨ss, cv, he⟩ | ⟨t, i, g, n, h0, hl, he⟩) | ⟨i, n, cv, he⟩
        · exact ihy q hq B' w0' Q Q' st' a' w' F' O' he hr' hQ2
        · obtain ⟨O2, hr2⟩ := hr'.forget hm hf
          exact ihy q hq B' w0' Q Q' st2 a' w' F' O2 he hr2 hQ2
        · obtain ⟨s', H'⟩ := st'
          obtain ⟨st2, F2, he, hr2⟩ := fzK_ok he hr'
          exact ihy q hq B' w0' Q Q' st2 a' w' F2 O' he hr2 hQ2
        · obtain ⟨s', H'⟩ := st'
          obtain ⟨st2, he, hr2⟩ := nlK_ok he hr'
          exact ihy q hq B' w0' Q Q' st2 a' w' F' O' he hr2 hQ2
        · obtain ⟨c, hc, hr2⟩ := ocK_ok h0 hl hr'
          exact ihy q hq B' w0' Q Q' _ a' w' F' O' (he c hc) hr2 hQ2
        · obtain ⟨s', H'⟩ := st'
          obtain ⟨st2, F2, he, hr2⟩ := fzKX_ok he hr'
          exact ihy q hq B' w0' Q Q' st2 a' w' F2 O' he hr2 hQ2
      | x id => exact hQ (.x id) st' a' w' F' O' B' w0' hx he hr'
      | r => exact hQ .r st' a' w' F' O' B' w0' hx he hr'
    · cases hc
  | cond c x y ihx ihy =>
    intro ac hc B w0 Q Q' st a w F O h hr hQ
    obtain ⟨s, H⟩ := st
    simp only [copX] at hc
    split at hc
    · rename_i p q r hp hq hr'
      cases hc
      have ho := hr.operand 0 c p hp
      simp only [VX, eK_eq] at h
      split at h
      · rename_i v hv
        split at h
        · rename_i b
          rw [hv] at ho
          have ho := ho.pvC rfl
          have e : a.eval c = .bool b := by generalize a.eval c = q at ho; cases ho; rfl
          obtain ⟨h1, h2⟩ := h
          cases b
          · exact wp_cond_false e (ihy r hr' B w0 Q Q' _ a w F O (h2 rfl) hr hQ)
          · exact wp_cond_true e (ihx q hq B w0 Q Q' _ a w F O (h1 rfl) hr hQ)
        · exact h.elim
      · exact h.elim
    · cases hc
  | block id c ih =>
    intro ac hc B w0 Q Q' st a w F O h hr hQ
    simp only [copX] at hc
    split at hc
    · rename_i p hp
      cases hc
      refine wp_block (ih p hp B w0 _ _ st a w F O h hr fun e st' a' w' F' O' B' w0' hx he hr' => ?_)
      cases e with
      | n => exact hQ .n st' a' w' F' O' B' w0' hx he hr'
      | x id' =>
        simp only [blockQ] at he
        show (if id' = id then Q' .normal a' w' else Q' (.exit id') a' w')
        by_cases hid : id' = id
        · rw [if_pos hid] at he ⊢; exact hQ .n st' a' w' F' O' B' w0' hx he hr'
        · rw [if_neg hid] at he ⊢; exact hQ (.x id') st' a' w' F' O' B' w0' hx he hr'
      | r => exact hQ .r st' a' w' F' O' B' w0' hx he hr'
    · cases hc
  | scope c ih =>
    intro ac hc B w0 Q Q' st a w F O h hr hQ
    simp only [copX] at hc
    split at hc
    · rename_i p hp
      cases hc
      refine wp_scope_straight (ih p hp B w0 Q _ st a w F O h hr fun e st' a' w' F' O' B' w0' hx he hr' => ?_)
      have := hQ e st' a' w' F' O' B' w0' hx he hr'
      cases e <;> exact this
    · cases hc
  | exit id => intro ac hc B w0 Q Q' st a w F O h hr hQ; cases hc; exact wp_exit (hQ (.x id) st a w F O B w0 (.refl ..) h hr)
  | ret => intro ac hc B w0 Q Q' st a w F O h hr hQ; cases hc; exact wp_ret (hQ .r st a w F O B w0 (.refl ..) h hr)
  | rangeFunc g ps x y _ _ =>
    intro ac hc B w0 Q Q' st a w F O h hr hQ
    obtain ⟨s, H⟩ := st
    simp only [copX] at hc
    split at hc
    · rename_i g' x' y' hg hx hy
      cases hc
      simp only [VX, eK_eq] at h
      exact rng_ok hm hx hy hr (hr.operand 0 g g' hg) h fun st' a' w' F' O' B' w0' hx he hr' => hQ .n st' a' w' F' O' B' w0' hx he hr'
    · cases hc
  | goto => intro ac hc; cases hc
  | refuse => intro ac hc; cases hc
def copFX (P : Program) (hs : List FuncId) (f : FuncId) : Option AF :=
  match P.funcs[f]? with
  | some fn =>
    match fn.body with
    | some c => (match copRes P fn.results.toList, copX P hs c with | some ts, some ac => some ⟨fn.ntmps, ts, ac⟩ | _, _ => none)
    | none => none
  | none => none
/-- The marks are come to at the function's end. -/
theorem leaves_marks {fn : Func} {tmps : Array Value} {R : Ending → World → Prop} {Ds0 : List Nat} (K : World → Prop) (hK : ∀ w D, D ∈ Ds0 → K w → w.heap[D]? = some (.deferred (some [])) → K (w.putObj D (.deferred none)))
    (hend : ∀ w, K w → ∃ v, (results fn tmps).run P w = .ok v w ∧ R (.returned v) w) : ∀ (Ds : List Nat) (w : World), (∀ D ∈ Ds, D ∈ Ds0) → Ds.Nodup → (∀ D ∈ Ds, w.heap[D]? = some (.deferred (some []))) → K w → LeavesInM Fence.wide 0 P fn tmps R (Ds.map dmark) .returning w
  | [], w, _, _, _, h => hend w h
  | D :: t, w, h0, hn, hd, h => by
    have hD := hd D (List.mem_cons_self ..)
    rw [List.nodup_cons] at hn
    refine ⟨by simp, .inl ⟨D, _, rfl, run_takeDeferred hD, leaves_marks K hK hend t _ (fun D' h' => h0 D' (List.mem_cons_of_mem _ h')) hn.2 (fun D' h' => ?_) (hK w D (h0 D (List.mem_cons_self ..)) h hD)⟩⟩
    exact (World.putObj_heap_other fun e => hn.1 (by rw [← show D' = D from e]; exact h')).trans (hd D' (List.mem_cons_of_mem _ h'))
theorem marks_ok {B B' : Bd} {w0 w0' : World} (hds : B.ds = []) (hx : Ext B w0 F0 B' w0') {F : Fz} {O : Ow} {st : St} {a : Act} {w : World} (hr : Rl G B' w0' F0 F1 O1 F O st a w) {fn : Func} {R : Ending → World → Prop}
    (hend : ∀ w2, Rl G B w0 F0 F1 O1 F O st { tmps := a.tmps, defers := [] } w2 → ∃ v, (results fn a.tmps).run P w2 = .ok v w2 ∧ R (.returned v) w2) : LeavesInM Fence.wide 0 P fn a.tmps R a.defers .returning w := by
  obtain ⟨Ds, e1, n1, p1⟩ := hx.ds
  rw [hr.defs, e1, hds, List.append_nil]
  refine leaves_marks (Ds0 := Ds) (fun w2 => Own B w0 F0 F O st.H w2) (fun w2 D hD ho hd => ?_) (fun w2 ho => hend w2 ⟨ho, hr.size, hr.slot, hds.symm, hr.gok, hr.leF, hr.leO⟩) Ds w (fun _ h => h) n1 (fun D hD => ?_) (hx.back _ _ _ _ hr.own)
  · obtain ⟨q1, q2, q3, q4⟩ := p1 D hD
    exact ho.putNC _ ⟨_, hd, trivial⟩ q2 fun hk => by have := ho.kb _ hk; omega
  · obtain ⟨q1, q2, q3, q4⟩ := p1 D hD
    exact (hr.own.kept D q3).trans q4
theorem pc_ofX' {f : FuncId} {af : AF} (hf : copFX P hs f = some af) {as : List AV} {r : AV}
    (h : ∀ (w : World) (F : Fz) (xs : List Value), xs.length = as.length → (∀ (i : Nat) (c : Value) (a : AV), xs[i]? = some c → as[i]? = some a → PV F c a) → ∃ bs : List AV, bs.length = as.length ∧ (∀ (i : Nat) (c : Value) (a : AV), xs[i]? = some c → bs[i]? = some a → VR F [] c a) ∧ initK bs af.n (fun s => VX P G 0 af.body (EndP af.res r) ⟨s, []⟩)) : PC P G f as r := by
  unfold copFX at hf
  split at hf
  · rename_i fn hfn
    split at hf
    · rename_i c hc
      split at hf
      · rename_i ts ac hts hac
        cases hf
        intro w F xs hfr hg hl hv
        obtain ⟨bs, hbl, hbv, h⟩ := h w F xs hl hv
        rw [initK_eq] at h
        have hown : Own (Bd.of w.heap.size) w F F [] [] w := ⟨rfl, fun i d ob hd => by simp at hd, fun i j d d' hd => by simp at hd, hfr, Fz.le_refl F, fun b o v hv => .inl hv, Below.refl _ _, Nat.le_refl _, fun _ h => h.elim, fun _ h => h.elim⟩
        refine (callsIn_wide (n := 0)).1 (callsIn_of_wp_marks hfn hc trivial (wpIn_wide.2 (VX_ok (Nat.le_refl _) c ac hac (Bd.of w.heap.size) w _ _ _ _ _ F [] h (init_ok hown hg (by rw [hl, hbl]) hbv) fun e st' a' w' F' O' B' w0' hx he hr => ?_)))
        have key : ∀ {s : List AV} {H : Hp}, st' = ⟨s, H⟩ → rsK s H ts (fun vs => fzA H vs (fun vs' _ => resK vs' (fun v => ObEq v r))) → LeavesInM Fence.wide 0 P fn a'.tmps (fun e w' => ∃ v F', e = .returned v ∧ PV F' v r ∧ F.le F' ∧ (∀ b o v, F' b o = some v → w'.cell? ⟨b, o, none⟩ = some v) ∧ (∀ b o v, F' b o = some v → F b o = some v ∨ w.heap.size ≤ b) ∧ Below w.heap.size w w') a'.defers .returning w' := by
          intro s H hst he
          obtain ⟨vs, hvs, he⟩ := rsK_ok he
          obtain ⟨rs, H', hp, he⟩ := fzA_ok he
          rw [resK_eq] at he
          obtain ⟨hrs⟩ := he
          subst hst
          refine marks_ok rfl hx hr fun w2 hr2 => ?_
          obtain ⟨ys, y1, y2, y3⟩ := results_run hr2 hts hvs
          obtain ⟨F2, p1, p2, o2, l2⟩ := purA_ok hr2.own y2 y3 hp
          refine ⟨_, y1, _, F2, rfl, ?_, Fz.le_trans hr2.leF l2, o2.fr, fun b o v hv => (o2.new b o v hv).imp id (·.1), o2.below⟩
          rw [← hrs]
          exact resOf_pv (by omega) p1
        cases e with
        | n => exact key rfl he
        | r => exact key rfl he
        | x id => exact he.elim
      · cases hf
    · cases hf
  · cases hf
theorem pc_ofX {f : FuncId} {af : AF} (hf : copFX P hs f = some af) {as : List AV} {r : AV} (h : initK as af.n (fun s => VX P G 0 af.body (EndP af.res r) ⟨s, []⟩)) : PC P G f as r :=
  pc_ofX' hf fun w F xs hl hv => ⟨as, rfl, fun i c a hc ha => .p (hv i c a hc ha), h⟩
theorem pc_emX {f : FuncId} {af : AF} (hf : copFX P hs f = some af) {as : List AV} {r : AV} (h : ∀ bs, EmL as bs → initK bs af.n (fun s => VX P G 0 af.body (EndP af.res r) ⟨s, []⟩)) : PC P G f as r :=
  pc_ofX' hf fun w F xs hl hv => by
    obtain ⟨bs, h1, h2, h3⟩ := emL_all F (fun _ => True) as xs _ h hl hv
    exact ⟨bs, h2, h3, h1⟩
theorem hc_ofX {f : FuncId} {af : AF} (hf : copFX P hs f = some af) {as : List AV} {H : Hp} {r : AV} {H' : Hp} {m : Nat} (hm : H.length = m) (h : initK as af.n (fun s => VX P G m af.body (EndH m af.res r H') ⟨s, H⟩)) : HC P G f as H r H' := by
  unfold copFX at hf
  split at hf
  · rename_i fn hfn
    split at hf
    · rename_i c hc
      split at hf
      · rename_i ts ac hts hac
        cases hf
        intro B w0 F0 F O w xs hown0 hg hl hv
        have hown := hown0.ds []
        rw [initK_eq] at h
        have hO : O.length ≤ m := by rw [hown.len, hm]; exact Nat.le_refl _
        refine (callsIn_wide (n := 0)).1 (callsIn_of_wp_marks hfn hc trivial (wpIn_wide.2 (VX_ok hO c ac hac ⟨B.n, B.K, []⟩ w0 _ _ _ _ _ F O h (init_ok hown hg hl hv) fun e st' a' w' F' O' B' w0' hx he hr => ?_)))
        have key : ∀ {s : List AV} {H1 : Hp}, st' = ⟨s, H1⟩ → rsK s H1 ts (fun vs => resK vs (fun v => ObEnd m v r H1 H')) → LeavesInM Fence.wide 0 P fn a'.tmps (fun e w' => ∃ v, e = .returned v ∧ Out B w0 F0 F O r H' v w') a'.defers .returning w' := by
          intro s H1 hst hx2
          obtain ⟨vs, hvs, hx2⟩ := rsK_ok hx2
          rw [resK_eq] at hx2
          subst hst
          refine marks_ok rfl hx hr fun w2 hr2 => ?_
          obtain ⟨ys, y1, y2, y3⟩ := results_run hr2 hts hvs
          obtain ⟨O2, q1, q2, q3⟩ := hx2.out (F1 := F) hr2.own (resOf_vr y2 y3) hO hr2.leO
          exact ⟨_, y1, _, rfl, F', O2, q1, q2.ds B.ds, hr2.leF, q3⟩
        cases e with
        | n => exact key rfl he
        | r => exact key rfl he
        | x id => exact he.elim
      · cases hf
    · cases hf
  · cases hf
end
theorem mx_nil (s : List AV) : mx s [] = s := by cases s <;> rfl
theorem Fg.goS {m : Nat} {s : List AV} {H H2 : Hp} (hH : H = H2) : Fg m ⟨s, H⟩ ⟨s, H2⟩ := .same rfl (fun i b h => .inr h) hH
theorem Fg.vwS {m : Nat} {s : List AV} {H H2 : Hp} (T : Tb) (h : fgT T [] [] s s []) (v : vwK T H T H2 True) (hn : (T.map (·.2.1)).Nodup) (hb : bsK m nums T H) : Fg m ⟨s, H⟩ ⟨s, H2⟩ := by
  have := Fg.vw (M := []) T h v hn hb
  rwa [mx_nil] at this
theorem RngP.mk {P : Program} {G : Nat → AV} {m : Nat} {gv : AV} {p : Nat} {x y : AC} {Q : EX → St → Prop} {s : List AV} {H : Hp} (f : FuncId) (cs l : List AV) (hg : fnA gv = some (f, cs)) (hp : cs.all AV.isP = true) (hs : SeqC P G f cs l) (α : Type) (J : Nat → α → Prop) (rows : α → Hp) (x0 : α) (h0 : J 0 x0) (s' : List AV) (hH : Fg m ⟨s, H⟩ ⟨s', rows x0⟩)
    (h1 : ∀ k a e, J k a → l[k]? = some e → V P G (rows a).length x (asgQ (V P G (rows a).length y (RndQ m J rows s' (k + 1)))) ⟨s'.set p e, rows a⟩)
    (h2 : ∀ a, J l.length a → Q .n ⟨s', rows a⟩) : RngP P G m gv [p] x y Q s H :=
  .gen f cs (l.map fun a => [a]) hg hp (fun k e h => by
      simp only [List.getElem?_map, Option.map_eq_some_iff] at h
      obtain ⟨a, _, rfl⟩ := h; rfl) hs.list α J rows x0 h0 s' hH (fun k a e hj h => by
      simp only [List.getElem?_map, Option.map_eq_some_iff] at h
      obtain ⟨b, hb, rfl⟩ := h
      exact h1 k a b hj hb) (fun a h => h2 a (by rwa [List.length_map] at h))
/-- A range with any number of parameters. -/
theorem RngP.goL {P : Program} {G : Nat → AV} {m : Nat} {gv : AV} {ps : List Nat} {x y : AC} {Q : EX → St → Prop} {s : List AV} {H : Hp} (f : FuncId) (cs : List AV) (l : List (List AV)) (hg : fnA gv = some (f, cs)) (hp : cs.all AV.isP = true) (hl : ∀ (k : Nat) e, l[k]? = some e → e.length = ps.length) (hs : SeqL P G f cs l) (α : Type) (J : Nat → α → Prop) (rows : α → Hp) (x0 : α) (h0 : J 0 x0) (M : List (Nat × Option AV)) (hH : Fg m ⟨s, H⟩ ⟨mx s M, rows x0⟩)
    (h1 : ∀ k a e, J k a → l[k]? = some e → mxK s M (fun s' => V P G (rows a).length x (asgQ (V P G (rows a).length y (RndQ m J rows (mx s M) (k + 1)))) ⟨setP ps e s', rows a⟩))
    (h2 : ∀ a, J l.length a → mxK s M (fun s' => Q .n ⟨s', rows a⟩)) : RngP P G m gv ps x y Q s H :=
  .gen f cs l hg hp hl hs α J rows x0 h0 _ hH (fun k a e hj he => by have := h1 k a e hj he; rwa [mxK_eq] at this) (fun a hj => by have := h2 a hj; rwa [mxK_eq] at this)
theorem RngP.go {P : Program} {G : Nat → AV} {m : Nat} {gv : AV} {p : Nat} {x y : AC} {Q : EX → St → Prop} {s : List AV} {H : Hp} (f : FuncId) (cs l : List AV) (hg : fnA gv = some (f, cs)) (hp : cs.all AV.isP = true) (hs : SeqC P G f cs l) (α : Type) (J : Nat → α → Prop) (rows : α → Hp) (x0 : α) (h0 : J 0 x0) (M : List (Nat × Option AV)) (hH : Fg m ⟨s, H⟩ ⟨mx s M, rows x0⟩)
    (h1 : ∀ k a e, J k a → l[k]? = some e → mxK s M (fun s' => V P G (rows a).length x (asgQ (V P G (rows a).length y (RndQ m J rows (mx s M) (k + 1)))) ⟨s'.set p e, rows a⟩))
    (h2 : ∀ a, J l.length a → mxK s M (fun s' => Q .n ⟨s', rows a⟩)) : RngP P G m gv [p] x y Q s H :=
  .mk f cs l hg hp hs α J rows x0 h0 _ hH (fun k a e hj he => by have := h1 k a e hj he; rwa [mxK_eq] at this) (fun a hj => by have := h2 a hj; rwa [mxK_eq] at this)
end Go.Proofs.Ytjooigegjkpdpaa.Sim
