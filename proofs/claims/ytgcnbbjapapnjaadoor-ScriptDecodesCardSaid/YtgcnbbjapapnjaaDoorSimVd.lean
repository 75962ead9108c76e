/- Operations by evaluation: all of them. -/
import Derived.Test.YtgcnbbjapapnjaaDoorSimVc
namespace Go.Proofs.YtgcnbbjapapnjaaDoor.Sim
open Go.RowKit
set_option linter.unusedVariables false
set_option linter.unusedSimpArgs false
/-- A cell, such that nobody writes it any more. -/
def fzC (H : Hp) (a : AV) (k : KK) : Prop :=
  match a with
  | .nl n => k (.sl n []) H
  | .em _ n => k (.sl n []) H
  | .ol i g n => lK H i g (fun te kk es fz => ObN (n ≤ es.length) (ObU (es.take n) (fun ft => ObN (ft.all AV.isP = true) (rpK H i ⟨te, kk, es, g, max fz n⟩ (fun H' => k (.sl kk ft) H')))))
  | .oa i g e off => lK H i g (fun te kk es fz => ObN (es.all AV.isP = true) (rpK H i ⟨te, kk, es, g, max fz es.length⟩ (fun H' => k (.ad kk es e off) H')))
  | .v x => k (.v x) H
  | .sl n es => k (.sl n es) H
  | .ad n es i off => k (.ad n es i off) H
  | .fn f cs => ObD (cs.all AV.isC0) (k (.fn f cs) H)
  | _ => False
theorem fzC_ok {H : Hp} {a : AV} {k : KK} (h : fzC H a k) : ∃ a' H', purC H a = some (a', H') ∧ k a' H' := by
  cases a with
  | nl n => exact ⟨_, _, rfl, h⟩
  | em b n => exact ⟨_, _, rfl, h⟩
  | ol i g n =>
    simp only [fzC] at h
    obtain ⟨o, h1, h1', h2, hg⟩ := lK_ok h
    have hne : (o.e == 4000000000) = false := by simpa using live_ne h1
    obtain ⟨hn, ft, rfl, hp, h⟩ := h2
    rw [rpK_eq] at h
    subst hg
    exact ⟨_, _, by simp only [purC, h1', hn, hp, hne, and_self, if_true], h⟩
  | oa i g e off =>
    simp only [fzC] at h
    obtain ⟨o, h1, h1', h2, hg⟩ := lK_ok h
    have hne : (o.e == 4000000000) = false := by simpa using live_ne h1
    obtain ⟨hp, h⟩ := h2
    rw [rpK_eq] at h
    subst hg
    exact ⟨_, _, by simp only [purC, h1', hp, hne, and_self, if_true], h⟩
  | os i g lo n => exact h.elim
  | io t i g e off => exact h.elim
  | mp i g => exact h.elim
  | oc i g n c => exact h.elim
  | mf nm t i g e off => exact h.elim
  | bf f i g e off => exact h.elim
  | ib t f i g e off => exact h.elim
  | v x => exact ⟨_, _, rfl, h⟩
  | sl n es => exact ⟨_, _, rfl, h⟩
  | ad n es i off => exact ⟨_, _, rfl, h⟩
  | fn f cs => obtain ⟨hb, h⟩ := h; exact ⟨_, _, by simp only [purC, AV.isC, hb, if_true], h⟩
  | agg => exact h.elim
  | tup => exact h.elim
  | unk => exact h.elim
def fzL (H : Hp) : List AV → (List AV → Hp → Prop) → Prop
  | [], k => k [] H
  | a :: as, k => fzC H a (fun a' H' => fzL H' as (fun as' H'' => k (a' :: as') H''))
theorem fzL_ok : ∀ {as : List AV} {H : Hp} {k : List AV → Hp → Prop}, fzL H as k → ∃ as' H', purL H as = some (as', H') ∧ k as' H'
  | [], _, _, h => ⟨_, _, rfl, h⟩
  | a :: as, H, k, h => by
    obtain ⟨a', H', h1, h2⟩ := fzC_ok h
    obtain ⟨as', H'', h3, h4⟩ := fzL_ok h2
    exact ⟨_, _, by simp only [purL, h1, h3], h4⟩
def fz1 (H : Hp) (a : AV) (k : KK) : Prop :=
  match a with
  | .agg cs => fzL H cs (fun cs' H' => k (.agg cs') H')
  | .fn f cs => fzL H cs (fun cs' H' => k (.fn f cs') H')
  | a => fzC H a k
theorem fz1_ok {H : Hp} {a : AV} {k : KK} (h : fz1 H a k) : ∃ a' H', pur H a = some (a', H') ∧ k a' H' := by
  cases a with
  | agg cs => obtain ⟨cs', H', h1, h2⟩ := fzL_ok h; exact ⟨_, _, by simp only [pur, h1], h2⟩
  | fn f cs => obtain ⟨cs', H', h1, h2⟩ := fzL_ok h; exact ⟨_, _, by simp only [pur, h1], h2⟩
  | _ => simp only [fz1] at h; exact fzC_ok h
def fzA (H : Hp) : List AV → (List AV → Hp → Prop) → Prop
  | [], k => k [] H
  | a :: as, k => fz1 H a (fun a' H' => fzA H' as (fun as' H'' => k (a' :: as') H''))
theorem fzA_ok : ∀ {as : List AV} {H : Hp} {k : List AV → Hp → Prop}, fzA H as k → ∃ as' H', purA H as = some (as', H') ∧ k as' H'
  | [], _, _, h => ⟨_, _, rfl, h⟩
  | a :: as, H, k, h => by
    obtain ⟨a', H', h1, h2⟩ := fz1_ok h
    obtain ⟨as', H'', h3, h4⟩ := fzA_ok h2
    exact ⟨_, _, by simp only [purA, h1, h3], h4⟩
/-- How long a list is that is written out. -/
def lnK {α : Type} : List α → List Nat → (Nat → Prop) → Prop
  | [], n :: _, k => k n
  | _ :: xs, _ :: ns, k => lnK xs ns k
  | _, [], _ => False
theorem lnK_aux {α : Type} : ∀ (xs : List α) (m : Nat) (ns : List Nat) (k : Nat → Prop), (∀ (i n : Nat), ns[i]? = some n → n = m + i) → lnK xs ns k → k (m + xs.length)
  | [], m, n :: ns, k, hn, h => by have : n = m := hn 0 n rfl; subst this; exact h
  | _ :: xs, m, n :: ns, k, hn, h => by
    have := lnK_aux xs (m + 1) ns k (fun i q hq => by have := hn (i + 1) q (by simpa using hq); omega) h
    simpa [Nat.add_assoc, Nat.add_comm, Nat.add_left_comm] using this
  | [], _, [], _, _, h => h.elim
  | _ :: _, _, [], _, _, h => h.elim
theorem lnK_ok {α : Type} {xs : List α} {k : Nat → Prop} (h : lnK xs nums k) : k xs.length := by
  have := lnK_aux xs 0 nums k (fun i n hn => by
    simp only [nums] at hn
    rcases i with _|_|_|_|_|_|_|_|_|_|_|_|_|_|_|_|_|_|_|_|_|_|_|_|_|_|_|_|_|_|_|_|i <;> simp at hn <;> omega) h
  simpa using this
/-- The cells of a struct, one part after the other. -/
def bK (G : Nat → AV) (s : List AV) : List AV → List (Nat × Nat × AX) → (List AV → Prop) → Prop
  | cells, [], k => k cells
  | cells, (off, n, x) :: rest, k => eK G s x (fun v => ObD (decide (v.cells.length = n) && decide (off + n ≤ cells.length) && v.fine) (oK cells off v.cells (fun cells' => bK G s cells' rest k)))
theorem bK_ok {G : Nat → AV} {s : List AV} : ∀ {parts : List (Nat × Nat × AX)} {cells : List AV} {k : List AV → Prop}, bK G s cells parts k → ∃ cs, fillA cells (parts.map fun p => (p.1, p.2.1, p.2.2.ev G s)) = some cs ∧ k cs
  | [], cells, k, h => ⟨_, rfl, h⟩
  | (off, n, x) :: rest, cells, k, h => by
    rw [bK, eK_eq] at h
    obtain ⟨hc, h⟩ := h
    simp only [Bool.and_eq_true, decide_eq_true_eq] at hc
    obtain ⟨⟨c1, c2⟩, c3⟩ := hc
    rw [oK_eq _ _ _ _ (by rw [c1]; exact c2)] at h
    obtain ⟨cs, h1, h2⟩ := bK_ok h
    refine ⟨cs, ?_, h2⟩
    simp only [List.map_cons, fillA, c1, c2, c3, and_self, if_true]
    rw [c1] at h1
    exact h1
/-- Two structs' cells: what their being the same says. -/
def eqP : List Kd → List AV → List AV → Prop → (Prop → Prop) → Prop
  | [], [], [], p, k => k p
  | kd :: ks, a :: as, b :: bs, p, k =>
    (match kd with
    | .i => (match a with | .v x => (match x with | .int ka n => (match b with | .v y => (match y with | .int kb m => ObN (ka = kb) (eqP ks as bs (n = m ∧ p) k) | _ => False) | _ => False) | _ => False) | _ => False)
    | .s => (match a with | .v x => (match x with | .string n => (match b with | .v y => (match y with | .string m => eqP ks as bs (n = m ∧ p) k | _ => False) | _ => False) | _ => False) | _ => False)
    | .b => (match a with | .v x => (match x with | .bool n => (match b with | .v y => (match y with | .bool m => eqP ks as bs (n = m ∧ p) k | _ => False) | _ => False) | _ => False) | _ => False))
  | _, _, _, _, _ => False
theorem eqP_ok : ∀ {ks : List Kd} {as bs : List AV} {p : Prop} {k : Prop → Prop}, eqP ks as bs p k → ∃ (r : Bool) (q : Prop), eqCs ks as bs = some r ∧ (r = true ↔ q) ∧ ∃ q', k q' ∧ (q' ↔ q ∧ p)
  | [], [], [], p, k, h => ⟨true, True, rfl, by simp, p, h, by simp⟩
  | [], [], _ :: _, p, k, h => h.elim
  | [], _ :: _, _, p, k, h => h.elim
  | _ :: _, [], _, p, k, h => h.elim
  | _ :: _, _ :: _, [], p, k, h => h.elim
  | kd :: ks, a :: as, b :: bs, p, k, h => by
    have key : ∀ {c : Bool} {d : Prop}, eqC kd a b = some c → (c = true ↔ d) → eqP ks as bs (d ∧ p) k → ∃ (r : Bool) (q : Prop), eqCs (kd :: ks) (a :: as) (b :: bs) = some r ∧ (r = true ↔ q) ∧ ∃ q', k q' ∧ (q' ↔ q ∧ p) := fun {c d} hc hd he => by
      obtain ⟨r, q, h1, h2, q', h3, h4⟩ := eqP_ok he
      refine ⟨c && r, d ∧ q, by simp only [eqCs, hc, h1], by simp [hd, h2], q', h3, by rw [h4]; simp only [← and_assoc]; constructor <;> (rintro ⟨⟨x, y⟩, z⟩; exact ⟨⟨y, x⟩, z⟩)⟩
    simp only [eqP] at h
    split at h
    · split at h
      · split at h
        · split at h
          · split at h
            · obtain ⟨rfl, h⟩ := h
              exact key (by simp only [eqC, if_true]; rfl) (by simp) h
            · exact h.elim
          · exact h.elim
        · exact h.elim
      · exact h.elim
    · split at h
      · split at h
        · split at h
          · split at h
            · exact key (by simp only [eqC]; rfl) (by simp) h
            · exact h.elim
          · exact h.elim
        · exact h.elim
      · exact h.elim
    · split at h
      · split at h
        · split at h
          · split at h
            · exact key (by simp only [eqC]; rfl) (by simp) h
            · exact h.elim
          · exact h.elim
        · exact h.elim
      · exact h.elim
def vEqs (ng : Bool) (ks : List Kd) (x y : AV) (k : AV → Prop) : Prop :=
  match x with
  | .agg as => (match y with
    | .agg bs => eqP ks as bs True (fun p => match ng with
      | true => ObB p (k (.v (.bool false))) (k (.v (.bool true)))
      | false => ObB p (k (.v (.bool true))) (k (.v (.bool false))))
    | _ => False)
  | _ => False
theorem vEqs_ok {ng : Bool} {ks : List Kd} {x y : AV} {k : AV → Prop} (h : vEqs ng ks x y k) : ∃ r, eqsA ng ks x y = some r ∧ k r := by
  unfold vEqs at h
  split at h
  · split at h
    · obtain ⟨r, q, h1, h2, q', h3, h4⟩ := eqP_ok h
      refine ⟨_, by simp only [eqsA, h1]; rfl, ?_⟩
      have hq : q' ↔ r = true := by rw [h4, h2]; simp
      cases ng with
      | true =>
        obtain ⟨ht, hf⟩ := h3
        cases r with
        | true => exact ht (hq.2 rfl)
        | false => exact hf (fun e => by have := hq.1 e; cases this)
      | false =>
        obtain ⟨ht, hf⟩ := h3
        cases r with
        | true => exact ht (hq.2 rfl)
        | false => exact hf (fun e => by have := hq.1 e; cases this)
    · exact h.elim
  · exact h.elim
section
variable (P : Program) (G : Nat → AV)
def eoK (s : List AV) (x : Option AX) (k : Option AV → Prop) : Prop :=
  match x with
  | none => k none
  | some x => eK G s x (fun a => k (some a))
theorem eoK_eq (s : List AV) (x : Option AX) (k : Option AV → Prop) : eoK G s x k = k (x.map (AX.ev G s)) := by
  cases x with
  | none => rfl
  | some x => exact eK_eq G s x _
/-- A bound that may be left out. -/
def biK (x : Option AV) (k : Option Int → Prop) : Prop :=
  match x with
  | none => k none
  | some a => (match a with | .v v => (match v with | .int _ n => k (some n) | _ => False) | _ => False)
theorem biK_ok {x : Option AV} {k : Option Int → Prop} (h : biK x k) : ∃ n, k n ∧ ((x = none ∧ n = none) ∨ ∃ kd m, x = some (.v (.int kd m)) ∧ n = some m) := by
  cases x with
  | none => exact ⟨none, h, .inl ⟨rfl, rfl⟩⟩
  | some a =>
    cases a with
    | v v =>
      cases v with
      | int kd m => exact ⟨some m, h, .inr ⟨kd, m, rfl, rfl⟩⟩
      | _ => exact h.elim
    | _ => exact h.elim
/-- A built-in function. -/
def biE (b : Builtin) (ats : Array TypeId) (ty : TypeId) (cs : Array Bool) (vs : List AV) (H : Hp) : Option (AV × Hp) :=
  match concs vs with | some vs => (match pureRun P (builtin b ats ty cs vs.toArray) with | some (.value v) => (ofVal v).map (·, H) | _ => none) | none => none
/-- Which method a value has. -/
inductive ObV (P : Program) (t : Nat) (nm : String) (k : FuncId → Prop) : Prop
  | mk (f : FuncId) (h : Mth P t nm f) (hk : k f) : ObV P t nm k
/-- An operation. -/
def vop (s : List AV) (H : Hp) (op : AOp) (k : KK) : Prop :=
  match op with
  | .mv x => eK G s x (fun a => k a H)
  | .bin op t pt xo yo x y => eK G s x (fun a => eK G s y (fun b => vBin P H op t pt xo yo a b (fun r => k r H) (ObE ((binA P H op t pt xo yo a b).map (·, H)) k)))
  | .un op x => eK G s x (fun a => vUn op a (fun r => k r H) (ObE ((ap1 (fun v => pureRun P (Op.unary op v)) a).map (·, H)) k))
  | .cv sr d x => eK G s x (fun a => ObE ((ap1 (fun v => pureRun P (convert sr d v)) a).map (·, H)) k)
  | .pick c a b => eK G s c (fun c => match c with | .v v => (match v with | .bool b' => ObT b' (eK G s a (fun r => k r H)) (eK G s b (fun r => k r H)) | _ => False) | _ => False)
  | .ext x i => eK G s x (fun a => match a with | .tup cs => nK cs i (fun r => k r H) | _ => False)
  | .new e kk x => eK G s x (fun a => ObD (decide (a.cells.length = kk) && a.fine) (aK H nums ⟨e, kk, [a], 0, 0⟩ (fun n H' => k (.oa n 0 0 0) H')))
  | .bld z parts => bK G s z parts (fun cs => k (.agg cs) H)
  | .bsl e kk xs => esK G s xs (fun vs => ObD ((vs.all fun a => decide (a.cells.length = kk) && a.fine) && decide (xs.length * kk ≤ 16777216) && decide (xs.length ≤ 16777216)) (lnK xs nums (fun m => aK H nums ⟨e, kk, vs, 0, 0⟩ (fun n H' => k (.ol n 0 m) H'))))
  | .load agg n x => eK G s x (fun a => vLoad H agg n a (fun r => k r H))
  | .store n x v => eK G s x (fun p => eK G s v (fun a => vStore H n p a (fun H' => k (.tup []) H')))
  | .nilc x => eK G s x (fun a => vNilB P H a (fun r => k r H))
  | .fad off x => eK G s x (fun a => vMove off H a (fun r => k r H))
  | .mki t x => eK G s x (fun a => vMki t H a (fun r => k r H))
  | .mkm2 nm x => eK G s x (fun a => match a with | .io t i g e off => k (.mf nm t i g e off) H | _ => False)
  | .mkb f x => eK G s x (fun a => match a with | .oa i g e off => k (.bf f i g e off) H | _ => False)
  | .clr kk z x => ObE ((clrA kk z H (AX.ev G s x)).map (.tup [], ·)) k
  | .aps e by_ a x => ObE (apsA e by_ H (AX.ev G s a) (AX.ev G s x)) k
  | .sob x => ObE ((sobA H (AX.ev G s x)).map (·, H)) k
  | .sla n x lo hi => ObE (slaE n H (AX.ev G s x) ((lo.map (AX.ev G s)).map intA) ((hi.map (AX.ev G s)).map intA)) k
  | .usd x => ObE ((usdA H (AX.ev G s x)).map (·, H)) k
  | .ust e x n => ObE (ustA e H (AX.ev G s x) (AX.ev G s n)) k
  | .cup x => ObE ((cupA H (AX.ev G s x)).map (·, H)) k
  | .cpu u x => ObE ((cpuA P u H (AX.ev G s x)).map (·, H)) k
  | .rgm x => ObE (rgmA H (AX.ev G s x)) k
  | .nxm x => ObE (match nxmA H (AX.ev G s x) with | some [p] => some p | _ => none) k
  | .enm x => ObE ((entA H (AX.ev G s x)).map (·, H)) k
  | .mdl kd x i => ObE ((mdlA H kd (AX.ev G s x) (AX.ev G s i)).map (.tup [], ·)) k
  | .mkm ag m => aK H nums ⟨4000000000, m + 2, [.agg (.v (.int .i64 0) :: .v (.bool ag) :: List.replicate m (.v (.bool false)))], 0, 0⟩ (fun n H' => k (.mp n 0) H')
  | .lkp kd c z x i => eK G s x (fun a => eK G s i (fun b => vLkp H kd c z a b (fun r => k r H)))
  | .mup kd x i v => eK G s x (fun a => eK G s i (fun b => eK G s v (fun d => vMup H kd a b d (fun H' => k (.tup []) H'))))
  | .lnm x => eK G s x (fun a => vLnm H a (fun r => k r H))
  | .fld agg off n x => eK G s x (fun a => vFld agg off n a (fun r => k r H))
  | .iad kk x i => eK G s x (fun a => eK G s i (fun i => vElem kk H a i (fun r => k r H)))
  | .iaa len kk x i => eK G s x (fun a => eK G s i (fun i => match i with | .v v => (match v with | .int _ ix => ObX ix len (fun m => vMove (m * kk) H a (fun r => k r H)) | _ => False) | _ => False))
  | .idx t x i => eK G s x (fun a => eK G s i (fun i => match a with
    | .v v => (match v with
      | .string str => (match i with | .v iv => (match iv with | .int _ ix => ObN (P.underlying t = some .string) (ObQ str ix (fun z => k (.v (.int .u8 z)) H)) | _ => False) | _ => False)
      | _ => False)
    | _ => False))
  | .ixa agg len kk x i => eK G s x (fun a => eK G s i (fun i => match i with | .v v => (match v with | .int _ ix => ObX ix len (fun m => vFld agg (m * kk) kk a (fun r => k r H)) | _ => False) | _ => False))
  | .sls t x lo hi => eK G s x (fun a => eoK G s lo (fun lo => eoK G s hi (fun hi => match a with
    | .v v => (match v with
      | .string str => biK lo (fun lo => biK hi (fun hi => ObN (P.underlying t = some .string) (ObG str lo hi (fun r => k (.v (.string r)) H))))
      | _ => False)
    | _ => False)))
  | .slc kk x lo hi => eK G s x (fun a => eoK G s lo (fun lo => eoK G s hi (fun hi => biK lo (fun lo => biK hi (fun hi => vSlc kk H a lo hi k)))))
  | .mks e kk bytes z len cap => eK G s len (fun l => eK G s cap (fun c => match l with
    | .v lv => (match lv with
      | .int _ l => (match c with
        | .v cv => (match cv with
          | .int _ c => ObN (0 ≤ l ∧ l ≤ c ∧ c.toNat * bytes ≤ 140737488355328 ∧ c.toNat ≤ 9223372036854775807) (ObL l.toNat (fun m => ObU (List.replicate m z) (fun es => aK H nums ⟨e, kk, es, 0, 0⟩ (fun n H' => k (.ol n 0 m) H'))))
          | _ => False)
        | _ => False)
      | _ => False)
    | _ => False))
  | .app e kk bytes x y => eK G s x (fun a => eK G s y (fun b => vApp e kk bytes H a b k))
  | .apf e kk bytes x y => eK G s x (fun a => eK G s y (fun b => vApp e kk bytes H a b k))
  | .apz e kk bytes z x n => ObE (eff P (AX.ev G s) H (.apz e kk bytes z x n)) k
  | .lns x => eK G s x (fun a => match a with | .v v => (match v with | .string str => ObL str.size (fun m => k (.v (.int .i64 (m : Nat))) H) | _ => False) | _ => False)
  | .len x => eK G s x (fun a => match a with
    | .nl _ => k (.v (.int .i64 ((0 : Nat) : Int))) H
    | .em _ _ => k (.v (.int .i64 ((0 : Nat) : Int))) H
    | .sl _ es => ObL es.length (fun m => k (.v (.int .i64 (m : Nat))) H)
    | .ol _ _ n => k (.v (.int .i64 (n : Nat))) H
    | .oc _ _ n _ => k (.v (.int .i64 (n : Nat))) H
    | _ => False)
  | .bi b ats ty cs xs => esK G s xs (fun vs => ObE (biE P b ats ty cs vs H) k)
  | .mkf f xs => esK G s xs (fun vs => k (.fn f vs) H)
  | .eqs ng ks x y => eK G s x (fun a => eK G s y (fun b => vEqs ng ks a b (fun r => k r H)))
  | .slo kk x i => eK G s x (fun a => eK G s i (fun i => vSlo kk H a i (fun r => k r H)))
  | .cpy kk d x => eK G s d (fun a => eK G s x (fun b => vCpy kk H a b k))
  | .call f xs => esK G s xs (fun as => fzA H as (fun as' H1 => ObC P G f as' (fun r => k r H1)))
  | .callh f xs => esK G s xs (fun as => ObH P G f as H k)
  | .callm f xs => esK G s xs (fun as => ObM P G f as H k)
  | .callv x xs => eK G s x (fun fv => esK G s xs (fun as => match fv with
    | .fn f cs => ObN (hasBody P f = true) (ObU (as ++ cs) (fun as' => ObH P G f as' H k))
    | .bf f i g e off => ObN (hasBody P f = true) (lK H i g (fun _ _ _ _ => ObH P G f (.oa i g e off :: as) H k))
    | .v v => (match fnA (.v v) with | some (f, cs) => ObN (hasBody P f = true) (ObU (as ++ cs) (fun as' => ObH P G f as' H k)) | none => False)
    | _ => False))
  | .calli nm x xs => eK G s x (fun fv => esK G s xs (fun as => match fv with
    | .io t i g e off => lK H i g (fun _ _ _ _ => ObV P t nm (fun f => ObH P G f (.oa i g e off :: as) H k))
    | .ib t fb i g e off => lK H i g (fun _ _ _ _ => ObV P t nm (fun f => ObH P G f (.bf fb i g e off :: as) H k))
    | _ => False))
  | .bad => False
theorem AWop_e {ev : AX → AV} {H : Hp} {op : AOp} {k : KK} (h : ∃ r H', eff P ev H op = some (r, H') ∧ k r H') : AWop P G ev H op k := by
  obtain ⟨r, H', h1, h2⟩ := h
  exact AWop_of h1 h2
theorem vop_ok {s : List AV} {H : Hp} {op : AOp} {k : KK} (h : vop P G s H op k) : AWop P G (AX.ev G s) H op k := by
  cases op with
  | mv x => simp only [vop, eK_eq] at h; exact AWop_of rfl h
  | bin op t pt xo yo x y =>
    simp only [vop, eK_eq] at h
    refine AWop_e P G ?_
    rcases vBin_ok P h with ⟨r, h1, h2⟩ | ⟨r, H', h1, h2⟩
    · exact ⟨r, H, by simp only [eff, h1, Option.map_some], h2⟩
    · exact ⟨r, H', h1, h2⟩
  | un op x =>
    simp only [vop, eK_eq] at h
    refine AWop_e P G ?_
    rcases vUn_ok P h with ⟨r, h1, h2⟩ | ⟨r, H', h1, h2⟩
    · exact ⟨r, H, by simp only [eff, h1, Option.map_some], h2⟩
    · exact ⟨r, H', h1, h2⟩
  | cv sr d x =>
    simp only [vop, eK_eq] at h
    obtain ⟨r, H', h1, h2⟩ := h
    exact AWop_e P G ⟨r, H', h1, h2⟩
  | pick c a b =>
    simp only [vop, eK_eq] at h
    refine AWop_e P G ?_
    split at h
    · rename_i v hv
      split at h
      · rename_i b'
        refine ⟨_, _, by simp only [eff, hv]; rfl, ?_⟩
        obtain ⟨h1, h2⟩ := h
        cases b' with
        | true => exact h1 rfl
        | false => exact h2 rfl
      · exact h.elim
    · exact h.elim
  | ext x i =>
    simp only [vop, eK_eq] at h
    refine AWop_e P G ?_
    split at h
    · rename_i cs hv
      obtain ⟨a, h1, h2⟩ := nK_ok h
      exact ⟨a, H, by simp only [eff, hv, h1, Option.map_some], h2⟩
    · exact h.elim
  | new e kk x =>
    simp only [vop, eK_eq] at h
    obtain ⟨hc, h⟩ := h
    simp only [Bool.and_eq_true, decide_eq_true_eq] at hc
    exact AWop_e P G ⟨_, _, by simp only [eff, hc.1, hc.2, and_self, if_true], aK_ok h⟩
  | bld z parts =>
    simp only [vop] at h
    obtain ⟨cs, h1, h2⟩ := bK_ok h
    exact AWop_e P G ⟨_, _, by simp only [eff, h1, Option.map_some], h2⟩
  | bsl e kk xs =>
    simp only [vop, esK_eq] at h
    obtain ⟨hc, h⟩ := h
    have h := aK_ok (lnK_ok h)
    exact AWop_e P G ⟨_, _, by simp only [eff]; rw [if_pos hc], h⟩
  | load agg n x =>
    simp only [vop, eK_eq] at h
    obtain ⟨r, h1, h2⟩ := vLoad_ok h
    exact AWop_e P G ⟨r, H, by simp only [eff, h1, Option.map_some], h2⟩
  | store n x v =>
    simp only [vop, eK_eq] at h
    obtain ⟨H', h1, h2⟩ := vStore_ok h
    exact AWop_e P G ⟨_, H', by simp only [eff, h1, Option.map_some], h2⟩
  | nilc x =>
    simp only [vop, eK_eq] at h
    obtain ⟨r, h1, h2⟩ := vNilB_ok h
    exact AWop_e P G ⟨r, H, by simp only [eff, h1, Option.map_some], h2⟩
  | fad off x =>
    simp only [vop, eK_eq] at h
    obtain ⟨r, h1, h2⟩ := vMove_ok h
    exact AWop_e P G ⟨r, H, by simp only [eff, h1, Option.map_some], h2⟩
  | fld agg off n x =>
    simp only [vop, eK_eq] at h
    obtain ⟨r, h1, h2⟩ := vFld_ok h
    exact AWop_e P G ⟨r, H, by simp only [eff, h1, Option.map_some], h2⟩
  | iad kk x i =>
    simp only [vop, eK_eq] at h
    obtain ⟨ix, r, h1, h2, h3⟩ := vElem_ok h
    exact AWop_e P G ⟨r, H, by simp only [eff, h1, h2, Option.map_some], h3⟩
  | iaa len kk x i =>
    simp only [vop, eK_eq] at h
    refine AWop_e P G ?_
    split at h
    · rename_i v hv
      split at h
      · obtain ⟨m, rfl, hm, h⟩ := h
        obtain ⟨r, h1, h2⟩ := vMove_ok h
        exact ⟨r, H, by simp [eff, hv, intA, hm, h1], h2⟩
      · exact h.elim
    · exact h.elim
  | idx t x i =>
    simp only [vop, eK_eq] at h
    refine AWop_e P G ?_
    split at h
    · rename_i v hv
      split at h
      · split at h
        · rename_i iv hi
          split at h
          · obtain ⟨hu, m, rfl, hm, h⟩ := h
            refine ⟨_, H, ?_, h⟩
            simp only [eff, hv, hi, ap2, conc]
            rw [iV_str hu (by omega) (by simpa using hm)]
            rfl
          · exact h.elim
        · exact h.elim
      · exact h.elim
    · exact h.elim
  | ixa agg len kk x i =>
    simp only [vop, eK_eq] at h
    refine AWop_e P G ?_
    split at h
    · rename_i v hv
      split at h
      · obtain ⟨m, rfl, hm, h⟩ := h
        obtain ⟨r, h1, h2⟩ := vFld_ok h
        exact ⟨r, H, by simp [eff, hv, intA, hm, h1], h2⟩
      · exact h.elim
    · exact h.elim
  | sls t x lo hi =>
    simp only [vop, eK_eq, eoK_eq] at h
    refine AWop_e P G ?_
    split at h
    · rename_i v hv
      split at h
      · rename_i str
        obtain ⟨n1, h, e1⟩ := biK_ok h
        obtain ⟨n2, h, e2⟩ := biK_ok h
        obtain ⟨hu, i, j, h1, h2, h3, h4, s', rfl, h⟩ := h
        refine ⟨_, H, ?_, h⟩
        have hi2 : ∀ k1 k2, pureRun P (Instr.sliceAt t (.string str) (n1.map (.int k1)) (n2.map (.int k2)) none) = some (.string (str.extract i j)) := fun k1 k2 => by
          have := sV_str (P := P) (a := str) hu (lo := n1) (hi := n2) (k1 := k1) (k2 := k2) (by omega) (by omega) (by omega)
          rw [this, h1, h2]; simp
        rcases e1 with ⟨e1, rfl⟩ | ⟨kd1, m1, e1, rfl⟩ <;> rcases e2 with ⟨e2, rfl⟩ | ⟨kd2, m2, e2, rfl⟩ <;> simp only [eff, hv, e1, e2, Option.map_none, Option.map_some, conc, Option.bind_none, Option.bind_some, id]
        · have := hi2 .i64 .i64; simp only [Option.map_none] at this; rw [this]; rfl
        · have := hi2 .i64 kd2; simp only [Option.map_none, Option.map_some] at this; rw [this]; rfl
        · have := hi2 kd1 .i64; simp only [Option.map_none, Option.map_some] at this; rw [this]; rfl
        · have := hi2 kd1 kd2; simp only [Option.map_some] at this; rw [this]; rfl
      · exact h.elim
    · exact h.elim
  | slc kk x lo hi =>
    simp only [vop, eK_eq, eoK_eq] at h
    obtain ⟨n1, h, e1⟩ := biK_ok h
    obtain ⟨n2, h, e2⟩ := biK_ok h
    obtain ⟨r, H', h1, h2⟩ := vSlc_ok h
    refine AWop_e P G ⟨r, H', ?_, h2⟩
    rcases e1 with ⟨e1, rfl⟩ | ⟨kd1, m1, e1, rfl⟩ <;> rcases e2 with ⟨e2, rfl⟩ | ⟨kd2, m2, e2, rfl⟩ <;> simp only [eff, e1, e2, Option.map_none, Option.map_some, intA, Option.bind_none, Option.bind_some, id] <;> exact h1
  | mks e kk bytes z len cap =>
    simp only [vop, eK_eq] at h
    refine AWop_e P G ?_
    split at h
    · rename_i lv hl
      split at h
      · split at h
        · rename_i cv hc
          split at h
          · obtain ⟨hn, m, rfl, es, rfl, h⟩ := h
            have h := aK_ok h
            refine ⟨_, _, ?_, h⟩
            simp only [eff, hl, hc, intA, maxLenE, hn, and_self, if_true]
          · exact h.elim
        · exact h.elim
      · exact h.elim
    · exact h.elim
  | app e kk bytes x y =>
    simp only [vop, eK_eq] at h
    exact AWop_e P G (vApp_ok h)
  | apf e kk bytes x y =>
    simp only [vop, eK_eq] at h
    exact AWop_e P G (vApp_ok h)
  | apz e kk bytes z x n =>
    obtain ⟨r, H', h1, h2⟩ := h
    exact AWop_e P G ⟨r, H', h1, h2⟩
  | lns x =>
    simp only [vop, eK_eq] at h
    refine AWop_e P G ?_
    split at h
    · rename_i v hv
      split at h
      · obtain ⟨m, rfl, h⟩ := h
        exact ⟨_, H, by simp only [eff, hv], h⟩
      · exact h.elim
    · exact h.elim
  | len x =>
    simp only [vop, eK_eq] at h
    refine AWop_e P G ?_
    split at h
    · rename_i hv; exact ⟨_, H, by simp only [eff, hv, lenA], h⟩
    · rename_i hv; exact ⟨_, H, by simp only [eff, hv, lenA], h⟩
    · rename_i hv; obtain ⟨m, rfl, h⟩ := h; exact ⟨_, H, by simp only [eff, hv, lenA], h⟩
    · rename_i hv; exact ⟨_, H, by simp only [eff, hv, lenA], h⟩
    · rename_i hv; exact ⟨_, H, by simp only [eff, hv, lenA], h⟩
    · exact h.elim
  | bi b ats ty cs xs =>
    simp only [vop, esK_eq] at h
    obtain ⟨r, H', h1, h2⟩ := h
    exact AWop_e P G ⟨r, H', h1, h2⟩
  | mkf f xs => simp only [vop, esK_eq] at h; exact AWop_of rfl h
  | eqs ng ks x y =>
    simp only [vop, eK_eq] at h
    obtain ⟨r, h1, h2⟩ := vEqs_ok h
    exact AWop_e P G ⟨r, H, by simp only [eff, h1, Option.map_some], h2⟩
  | slo kk x i =>
    simp only [vop, eK_eq] at h
    obtain ⟨ix, r, h1, h2, h3⟩ := vSlo_ok h
    exact AWop_e P G ⟨r, H, by simp only [eff, h1, h2, Option.map_some], h3⟩
  | cpy kk d x =>
    simp only [vop, eK_eq] at h
    exact AWop_e P G (vCpy_ok h)
  | call f xs =>
    simp only [vop, esK_eq] at h
    obtain ⟨as, H1, h1, r, h2, h3⟩ := fzA_ok h
    exact ⟨as, H1, r, h1, h2, h3⟩
  | callh f xs =>
    simp only [vop, esK_eq] at h
    obtain ⟨r, H', h1, h2⟩ := h
    exact ⟨r, H', h1, h2⟩
  | callm f xs =>
    simp only [vop, esK_eq] at h
    obtain ⟨r, Bs, h1, h2⟩ := h
    exact ⟨r, Bs, h1, h2⟩
  | callv x xs =>
    simp only [vop, eK_eq, esK_eq] at h
    split at h
    · rename_i f cs hv
      obtain ⟨hb, as', rfl, r, H', h1, h2⟩ := h
      exact ⟨f, _, r, H', by rw [hv]; rfl, hb, h1, h2⟩
    · rename_i f i g e off hv
      obtain ⟨hb, h⟩ := h
      obtain ⟨o, hl, _, ⟨r, H', h1, h2⟩, _⟩ := lK_ok h
      exact ⟨f, _, r, H', by rw [hv]; simp only [cvA, hl], hb, h1, h2⟩
    · rename_i v hv
      split at h
      · rename_i f cs hf
        obtain ⟨hb, as', rfl, r, H', h1, h2⟩ := h
        exact ⟨f, _, r, H', by rw [hv]; exact cvA_of hf, hb, h1, h2⟩
      · exact h.elim
    · exact h.elim
  | mkb f x =>
    simp only [vop, eK_eq] at h
    split at h
    · rename_i i g e off hv
      exact AWop_e P G ⟨_, H, by simp only [eff, hv]; rfl, h⟩
    · exact h.elim
  | mkm2 nm x =>
    simp only [vop, eK_eq] at h
    split at h
    · rename_i t i g e off hv
      exact AWop_e P G ⟨_, H, by simp only [eff, hv]; rfl, h⟩
    · exact h.elim
  | clr kk z x =>
    simp only [vop] at h
    obtain ⟨r, H', h1, h2⟩ := h
    exact AWop_e P G ⟨r, H', h1, h2⟩
  | aps e by_ a x =>
    simp only [vop] at h
    obtain ⟨r, H', h1, h2⟩ := h
    exact AWop_e P G ⟨r, H', h1, h2⟩
  | sob x =>
    simp only [vop] at h
    obtain ⟨r, H', h1, h2⟩ := h
    exact AWop_e P G ⟨r, H', h1, h2⟩
  | sla n x lo hi =>
    simp only [vop] at h
    obtain ⟨r, H', h1, h2⟩ := h
    exact AWop_e P G ⟨r, H', h1, h2⟩
  | usd x =>
    simp only [vop] at h
    obtain ⟨r, H', h1, h2⟩ := h
    exact AWop_e P G ⟨r, H', h1, h2⟩
  | ust e x n =>
    simp only [vop] at h
    obtain ⟨r, H', h1, h2⟩ := h
    exact AWop_e P G ⟨r, H', h1, h2⟩
  | cup x =>
    simp only [vop] at h
    obtain ⟨r, H', h1, h2⟩ := h
    exact AWop_e P G ⟨r, H', h1, h2⟩
  | cpu u x =>
    simp only [vop] at h
    obtain ⟨r, H', h1, h2⟩ := h
    exact AWop_e P G ⟨r, H', h1, h2⟩
  | rgm x =>
    simp only [vop] at h
    obtain ⟨r, H', h1, h2⟩ := h
    exact AWop_e P G ⟨r, H', h1, h2⟩
  | nxm x =>
    simp only [vop] at h
    obtain ⟨r, H', h1, h2⟩ := h
    exact AWop_e P G ⟨r, H', h1, h2⟩
  | enm x =>
    simp only [vop] at h
    obtain ⟨r, H', h1, h2⟩ := h
    exact AWop_e P G ⟨r, H', h1, h2⟩
  | mdl kd x i =>
    simp only [vop] at h
    obtain ⟨r, H', h1, h2⟩ := h
    exact AWop_e P G ⟨r, H', h1, h2⟩
  | mkm ag m =>
    simp only [vop] at h
    exact AWop_e P G ⟨_, _, rfl, aK_ok h⟩
  | lkp kd c z x i =>
    simp only [vop, eK_eq] at h
    obtain ⟨r, h1, h2⟩ := vLkp_ok h
    exact AWop_e P G ⟨r, H, by simp only [eff, h1, Option.map_some], h2⟩
  | mup kd x i v =>
    simp only [vop, eK_eq] at h
    obtain ⟨H', h1, h2⟩ := vMup_ok h
    exact AWop_e P G ⟨_, H', by simp only [eff, h1, Option.map_some], h2⟩
  | lnm x =>
    simp only [vop, eK_eq] at h
    obtain ⟨n, h1, h2⟩ := vLnm_ok h
    exact AWop_e P G ⟨_, H, by simp only [eff, h1], h2⟩
  | mki t x =>
    simp only [vop, eK_eq] at h
    obtain ⟨r, h1, h2⟩ := vMki_ok h
    exact AWop_e P G ⟨r, H, by simp only [eff, h1, Option.map_some], h2⟩
  | calli nm x xs =>
    simp only [vop, eK_eq, esK_eq] at h
    split at h
    · rename_i t i g e off hv
      obtain ⟨ob, hl, _, ⟨f, hm, r, H', h1, h2⟩, _⟩ := lK_ok h
      exact ⟨t, _, f, r, H', by rw [hv]; simp only [recvA, hl], hm, h1, h2⟩
    · rename_i t fb i g e off hv
      obtain ⟨ob, hl, _, ⟨f, hm, r, H', h1, h2⟩, _⟩ := lK_ok h
      exact ⟨t, _, f, r, H', by rw [hv]; simp only [recvA, hl], hm, h1, h2⟩
    · exact h.elim
  | bad => exact h.elim
end
end Go.Proofs.YtgcnbbjapapnjaaDoor.Sim
