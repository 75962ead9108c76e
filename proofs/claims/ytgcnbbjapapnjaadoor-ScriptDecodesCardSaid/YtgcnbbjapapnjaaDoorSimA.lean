/- Plain values for what a program's values say, and when a value in memory says them. -/
import Derived.WalkKit
import Derived.ProofKit
import Derived.WalkLawsBesides
import Derived.WalkSpells
import Derived.Lib.Hide
import Derived.Below
import Derived.Orders
import Derived.Laws.OwnMore
import Derived.Laws.CopyRow
import Derived.Laws.Cells
import Derived.KernelRfl
namespace Go.Proofs.YtgcnbbjapapnjaaDoor.Sim
open Go.RowKit
set_option linter.unusedVariables false
set_option linter.unusedSimpArgs false

/-- What a value says: a number, a text; a struct's cells; results; a nil slice; a slice without elements, nil or not; a slice, or a place in one, that nobody writes any more; a slice, or a place, of the call's own. -/
inductive AV where
  | v (x : Value)
  | agg (cs : List AV)
  | tup (cs : List AV)
  | nl (k : Nat)
  | em (b : Bool) (k : Nat)
  | sl (k : Nat) (es : List AV)
  | ad (k : Nat) (es : List AV) (i off : Nat)
  | ol (i g n : Nat)
  /-- an own slice from lo on -/
  | os (i g lo n : Nat)
  | oa (i g e off : Nat)
  /-- an interface that holds an own place -/
  | io (t i g e off : Nat)
  /-- an own map -/
  | mp (i g : Nat)
  /-- an own slice whose room is known -/
  | oc (i g n c : Nat)
  /-- a method of an interface that holds an own place -/
  | mf (nm : String) (t i g e off : Nat)
  /-- a function that holds an own place ahead of its parameters -/
  | bf (f : FuncId) (i g e off : Nat)
  /-- an interface that holds such a function -/
  | ib (t f i g e off : Nat)
  | fn (f : FuncId) (cs : List AV)
  | unk
instance : Inhabited AV := ⟨.unk⟩
def AV.cells : AV → List AV
  | .agg cs => cs
  | a => [a]
/-- One cell. -/
def AV.one : AV → Bool
  | .agg _ | .tup _ | .unk => false
  | _ => true
def AV.isC0 : AV → Bool
  | .v _ | .sl .. | .ad .. => true
  | _ => false
def AV.isC : AV → Bool
  | .fn _ cs => cs.all AV.isC0
  | a => a.isC0
def AV.isP : AV → Bool
  | .agg cs => cs.all AV.isC
  | a => a.isC
/-- A value of one cell that leads nowhere. -/
def scal : Value → Bool
  | .bool _ | .int .. | .float .. | .complex .. | .string _ | .pointer none | .map none | .chan none | .nilFunc | .nilIface | .func _ #[] #[] => true
  | _ => false
theorem scal_one {x : Value} (h : scal x = true) : x.oneCell' = true := by
  cases x <;> first | rfl | (simp [scal] at h)
abbrev Fz := Nat → Nat → Option Value
def Fz.le (F F' : Fz) : Prop := ∀ b o v, F b o = some v → F' b o = some v
theorem Fz.le_refl (F : Fz) : F.le F := fun _ _ _ h => h
theorem Fz.le_trans {F F' F'' : Fz} (h : F.le F') (k : F'.le F'') : F.le F'' := fun _ _ _ x => k _ _ _ (h _ _ _ x)
/-- The value says a, by cells that nobody writes any more. -/
inductive PV (F : Fz) : Value → AV → Prop
  | v (x : Value) (h : scal x = true) : PV F x (.v x)
  | agg (cs : List Value) (as : List AV) (hl : cs.length = as.length) (h1 : ∀ a ∈ as, AV.one a = true) (h : ∀ (i : Nat) (c : Value) (a : AV), cs[i]? = some c → as[i]? = some a → PV F c a) : PV F (.agg cs.toArray) (.agg as)
  | tup (cs : List Value) (as : List AV) (hl : cs.length = as.length) (h : ∀ (i : Nat) (c : Value) (a : AV), cs[i]? = some c → as[i]? = some a → PV F c a) : PV F (.tuple cs.toArray) (.tup as)
  | sl (A : Option Addr) (n cap k : Nat) (es : List AV) (hn : es.length = n) (hc : n ≤ cap) (hm : cap ≤ maxLen) (hk : ∀ e ∈ es, e.cells.length = k) (h1 : ∀ e ∈ es, ∀ a ∈ e.cells, AV.one a = true) (b o : Nat) (hA : 0 < n → A = some ⟨b, o, none⟩)
      (f : Nat → Nat → Value) (hf : ∀ i j, i < n → j < k → F b (o + i * k + j) = some (f i j)) (h : ∀ (i j : Nat) (e a : AV), es[i]? = some e → e.cells[j]? = some a → PV F (f i j) a) : PV F (.slice A n cap) (.sl k es)
  | ad (b o k : Nat) (es : List AV) (i off : Nat) (hk : ∀ e ∈ es, e.cells.length = k) (h1 : ∀ e ∈ es, ∀ a ∈ e.cells, AV.one a = true)
      (f : Nat → Nat → Value) (hf : ∀ i j, i < es.length → j < k → F b (o + i * k + j) = some (f i j)) (h : ∀ (i j : Nat) (e a : AV), es[i]? = some e → e.cells[j]? = some a → PV F (f i j) a) : PV F (.pointer (some ⟨b, o + i * k + off, none⟩)) (.ad k es i off)
  | fn (f : FuncId) (xs : List Value) (as : List AV) (hl : xs.length = as.length) (h : ∀ (i : Nat) (c : Value) (a : AV), xs[i]? = some c → as[i]? = some a → PV F c a) : PV F (.func (.func f) #[] xs.toArray) (.fn f as)
theorem PV.mono {F F' : Fz} (hF : F.le F') {x : Value} {a : AV} (h : PV F x a) : PV F' x a := by
  induction h with
  | v x h => exact .v x h
  | agg cs as hl h1 h ih => exact .agg cs as hl h1 ih
  | tup cs as hl h ih => exact .tup cs as hl ih
  | sl A n cap k es hn hc hm hk h1 b o hA f hf h ih => exact .sl A n cap k es hn hc hm hk h1 b o hA f (fun i j hi hj => hF _ _ _ (hf i j hi hj)) ih
  | ad b o k es i off hk h1 f hf h ih => exact .ad b o k es i off hk h1 f (fun i j hi hj => hF _ _ _ (hf i j hi hj)) ih
  | fn f xs as hl h ih => exact .fn f xs as hl ih
theorem PV.oneCell {F : Fz} {x : Value} {a : AV} (h : PV F x a) (ha : a.one = true) : x.oneCell' = true := by
  cases h with
  | v x h => exact scal_one h
  | agg => cases ha
  | tup => cases ha
  | sl => rfl
  | ad => rfl
  | fn => rfl
/-- Where a row of the call's own lies: block, capacity, generation, cells of one element. -/
structure Ds where
  b : Nat
  C : Nat
  g : Nat
  k : Nat
abbrev Ow := List Ds
/-- The value says a; its own parts lie where O tells. -/
inductive VR (F : Fz) (O : Ow) : Value → AV → Prop
  | p {x : Value} {a : AV} (h : PV F x a) : VR F O x a
  | agg (cs : List Value) (as : List AV) (hl : cs.length = as.length) (h1 : ∀ a ∈ as, AV.one a = true) (h : ∀ (i : Nat) (c : Value) (a : AV), cs[i]? = some c → as[i]? = some a → VR F O c a) : VR F O (.agg cs.toArray) (.agg as)
  | tup (cs : List Value) (as : List AV) (hl : cs.length = as.length) (h : ∀ (i : Nat) (c : Value) (a : AV), cs[i]? = some c → as[i]? = some a → VR F O c a) : VR F O (.tuple cs.toArray) (.tup as)
  | nl (k : Nat) : VR F O (.slice none 0 0) (.nl k)
  | em (A : Option Addr) (c : Nat) (b : Bool) (k : Nat) (hb : A.isSome = !b) (hm : c ≤ maxLen) : VR F O (.slice A 0 c) (.em b k)
  | ol (x : Value) (i g n : Nat) (d : Ds) (hd : O[i]? = some d) (hg : g ≤ d.g) (h1 : ∃ A c, x = .slice A n c) (h : g = d.g → n ≤ d.C ∧ x = .slice (some ⟨d.b, 0, none⟩) n d.C) : VR F O x (.ol i g n)
  | os (x : Value) (i g lo n : Nat) (d : Ds) (hd : O[i]? = some d) (hg : g ≤ d.g) (h1 : ∃ A c, x = .slice A (n - lo) c) (h : g = d.g → lo ≤ n ∧ n ≤ d.C ∧ ∃ A, x = .slice A (n - lo) (d.C - lo) ∧ (lo < d.C → A = some ⟨d.b, lo * d.k, none⟩)) : VR F O x (.os i g lo n)
  | oa (x : Value) (i g e off : Nat) (d : Ds) (hd : O[i]? = some d) (hg : g ≤ d.g) (h1 : x.oneCell' = true) (h : g = d.g → x = .pointer (some ⟨d.b, e * d.k + off, none⟩)) : VR F O x (.oa i g e off)
  | io (x : Value) (t i g e off : Nat) (d : Ds) (hd : O[i]? = some d) (hg : g ≤ d.g) (h1 : x.oneCell' = true) (h : g = d.g → x = .iface t (.pointer (some ⟨d.b, e * d.k + off, none⟩))) : VR F O x (.io t i g e off)
  | oc (x : Value) (i g n c : Nat) (d : Ds) (hd : O[i]? = some d) (hg : g ≤ d.g) (h1 : ∃ A cc, x = .slice A n cc) (h : g = d.g → n ≤ d.C ∧ d.C = c ∧ x = .slice (some ⟨d.b, 0, none⟩) n d.C) : VR F O x (.oc i g n c)
  | mf (x : Value) (nm : String) (t i g e off : Nat) (d : Ds) (hd : O[i]? = some d) (hg : g ≤ d.g) (h1 : x.oneCell' = true) (h : g = d.g → x = .func (.method nm) #[.iface t (.pointer (some ⟨d.b, e * d.k + off, none⟩))] #[]) : VR F O x (.mf nm t i g e off)
  | bf (x : Value) (f : FuncId) (i g e off : Nat) (d : Ds) (hd : O[i]? = some d) (hg : g ≤ d.g) (h1 : x.oneCell' = true) (h : g = d.g → x = .func (.func f) #[.pointer (some ⟨d.b, e * d.k + off, none⟩)] #[]) : VR F O x (.bf f i g e off)
  | ib (x : Value) (t f i g e off : Nat) (d : Ds) (hd : O[i]? = some d) (hg : g ≤ d.g) (h1 : x.oneCell' = true) (h : g = d.g → x = .iface t (.func (.func f) #[.pointer (some ⟨d.b, e * d.k + off, none⟩)] #[])) : VR F O x (.ib t f i g e off)
  | mp (x : Value) (i g : Nat) (d : Ds) (hd : O[i]? = some d) (hg : g ≤ d.g) (h1 : x.oneCell' = true) (h : g = d.g → x = .map (some d.b)) : VR F O x (.mp i g)
  | fn (f : FuncId) (xs : List Value) (as : List AV) (hl : xs.length = as.length) (h : ∀ (i : Nat) (c : Value) (a : AV), xs[i]? = some c → as[i]? = some a → VR F O c a) : VR F O (.func (.func f) #[] xs.toArray) (.fn f as)
  | unk (x : Value) : VR F O x .unk
def Ow.le (O O' : Ow) : Prop := ∀ (i : Nat) (d : Ds), O[i]? = some d → ∃ d', O'[i]? = some d' ∧ d.g ≤ d'.g ∧ (d.g = d'.g → d' = d)
theorem Ow.le_refl (O : Ow) : O.le O := fun i d h => ⟨d, h, Nat.le_refl _, fun _ => rfl⟩
theorem Ow.le_trans {O O' O'' : Ow} (h : O.le O') (k : O'.le O'') : O.le O'' := fun i d hd => by
  obtain ⟨d1, e1, g1, f1⟩ := h i d hd
  obtain ⟨d2, e2, g2, f2⟩ := k i d1 e1
  refine ⟨d2, e2, Nat.le_trans g1 g2, fun e => ?_⟩
  have e3 : d.g = d1.g := by omega
  have e4 : d1.g = d2.g := by omega
  rw [f2 e4, f1 e3]
theorem VR.mono {F F' : Fz} {O O' : Ow} (hF : F.le F') (hO : O.le O') {x : Value} {a : AV} (h : VR F O x a) : VR F' O' x a := by
  induction h with
  | p h => exact .p (h.mono hF)
  | agg cs as hl h1 h ih => exact .agg cs as hl h1 ih
  | tup cs as hl h ih => exact .tup cs as hl ih
  | nl k => exact .nl k
  | em A c b k hb hm => exact .em A c b k hb hm
  | ol x i g n d hd hg h1 h =>
    obtain ⟨d', e, g1, f1⟩ := hO i d hd
    exact .ol x i g n d' e (by omega) h1 fun e' => by
      have : d.g = d'.g := by omega
      rw [f1 this]
      exact h (by omega)
  | os x i g lo n d hd hg h1 h =>
    obtain ⟨d', e, g1, f1⟩ := hO i d hd
    exact .os x i g lo n d' e (by omega) h1 fun e' => by
      have : d.g = d'.g := by omega
      rw [f1 this]
      exact h (by omega)
  | oa x i g e off d hd hg h1 h =>
    obtain ⟨d', e', g1, f1⟩ := hO i d hd
    exact .oa x i g e off d' e' (by omega) h1 fun e' => by
      have : d.g = d'.g := by omega
      rw [f1 this]
      exact h (by omega)
  | oc x i g n c d hd hg h1 h =>
    obtain ⟨d', e, g1, f1⟩ := hO i d hd
    exact .oc x i g n c d' e (by omega) h1 fun e' => by
      have : d.g = d'.g := by omega
      rw [f1 this]
      exact h (by omega)
  | ib x t f i g e off d hd hg h1 h =>
    obtain ⟨d', e', g1, f1⟩ := hO i d hd
    exact .ib x t f i g e off d' e' (by omega) h1 fun e' => by
      have : d.g = d'.g := by omega
      rw [f1 this]
      exact h (by omega)
  | bf x f i g e off d hd hg h1 h =>
    obtain ⟨d', e', g1, f1⟩ := hO i d hd
    exact .bf x f i g e off d' e' (by omega) h1 fun e' => by
      have : d.g = d'.g := by omega
      rw [f1 this]
      exact h (by omega)
  | mf x nm t i g e off d hd hg h1 h =>
    obtain ⟨d', e', g1, f1⟩ := hO i d hd
    exact .mf x nm t i g e off d' e' (by omega) h1 fun e' => by
      have : d.g = d'.g := by omega
      rw [f1 this]
      exact h (by omega)
  | mp x i g d hd hg h1 h =>
    obtain ⟨d', e', g1, f1⟩ := hO i d hd
    exact .mp x i g d' e' (by omega) h1 fun e' => by
      have : d.g = d'.g := by omega
      rw [f1 this]
      exact h (by omega)
  | io x t i g e off d hd hg h1 h =>
    obtain ⟨d', e', g1, f1⟩ := hO i d hd
    exact .io x t i g e off d' e' (by omega) h1 fun e' => by
      have : d.g = d'.g := by omega
      rw [f1 this]
      exact h (by omega)
  | fn f xs as hl h ih => exact .fn f xs as hl ih
  | unk x => exact .unk x
theorem VR.oneCell {F : Fz} {O : Ow} {x : Value} {a : AV} (h : VR F O x a) (ha : a.one = true) : x.oneCell' = true := by
  cases h with
  | p h => exact h.oneCell ha
  | agg => cases ha
  | tup => cases ha
  | nl => rfl
  | em => rfl
  | ol _ _ _ _ _ _ _ h1 => obtain ⟨A, c, rfl⟩ := h1; rfl
  | os _ _ _ _ _ _ _ _ h1 => obtain ⟨A, c, rfl⟩ := h1; rfl
  | oa _ _ _ _ _ _ _ _ h1 => exact h1
  | io _ _ _ _ _ _ _ _ _ h1 => exact h1
  | mp _ _ _ _ _ _ h1 => exact h1
  | oc _ _ _ _ _ _ _ _ h1 => obtain ⟨A, c, rfl⟩ := h1; rfl
  | mf _ _ _ _ _ _ _ _ _ _ h1 => exact h1
  | bf _ _ _ _ _ _ _ _ _ h1 => exact h1
  | ib _ _ _ _ _ _ _ _ _ _ h1 => exact h1
  | fn => rfl
  | unk => cases ha
theorem VR.pvC0 {F : Fz} {O : Ow} {x : Value} {a : AV} (h : VR F O x a) (ha : a.isC0 = true) : PV F x a := by
  cases h with
  | p h => exact h
  | agg => cases ha
  | tup => cases ha
  | nl => cases ha
  | em => cases ha
  | ol => cases ha
  | os => cases ha
  | oa => cases ha
  | io => cases ha
  | mp => cases ha
  | oc => cases ha
  | mf => cases ha
  | bf => cases ha
  | ib => cases ha
  | fn => cases ha
  | unk => cases ha
theorem VR.pvC {F : Fz} {O : Ow} {x : Value} {a : AV} (h : VR F O x a) (ha : a.isC = true) : PV F x a := by
  cases h with
  | p h => exact h
  | agg => cases ha
  | tup => cases ha
  | nl => cases ha
  | em => cases ha
  | ol => cases ha
  | os => cases ha
  | oa => cases ha
  | io => cases ha
  | mp => cases ha
  | oc => cases ha
  | mf => cases ha
  | bf => cases ha
  | ib => cases ha
  | fn f xs as hl h =>
    simp only [AV.isC, List.all_eq_true] at ha
    exact .fn f xs as hl fun i c a hc h2 => (h i c a hc h2).pvC0 (ha a (List.mem_of_getElem? h2))
  | unk => cases ha
theorem VR.pv {F : Fz} {O : Ow} {x : Value} {a : AV} (h : VR F O x a) (ha : a.isP = true) : PV F x a := by
  cases h with
  | p h => exact h
  | agg cs as hl h1 h =>
    refine .agg cs as hl h1 fun i c a hc h2 => (h i c a hc h2).pvC ?_
    simp only [AV.isP, List.all_eq_true] at ha
    exact ha a (List.mem_of_getElem? h2)
  | tup => cases ha
  | nl => cases ha
  | em => cases ha
  | ol => cases ha
  | os => cases ha
  | oa => cases ha
  | io => cases ha
  | mp => cases ha
  | oc => cases ha
  | mf => cases ha
  | bf => cases ha
  | ib => cases ha
  | fn f xs as hl h =>
    simp only [AV.isP, AV.isC, List.all_eq_true] at ha
    exact .fn f xs as hl fun i c a hc h2 => (h i c a hc h2).pvC0 (ha a (List.mem_of_getElem? h2))
  | unk => cases ha
/-- The cells of a value and of what it says. -/
theorem VR.cells {F : Fz} {O : Ow} {x : Value} {a : AV} (h : VR F O x a) (ha : a.one = true ∨ ∃ cs, a = .agg cs) :
    x.cells.size = a.cells.length ∧ (∀ u ∈ a.cells, u.one = true) ∧ ∀ (j : Nat) (u : AV), a.cells[j]? = some u → ∃ c, x.cells[j]? = some c ∧ VR F O c u := by
  have single : a.one = true → x.oneCell' = true → x.cells.size = a.cells.length ∧ (∀ u ∈ a.cells, u.one = true) ∧ ∀ (j : Nat) (u : AV), a.cells[j]? = some u → ∃ c, x.cells[j]? = some c ∧ VR F O c u := fun h1 h2 => by
    have e1 : a.cells = [a] := by cases a <;> first | rfl | cases h1
    have e2 : x.cells = #[x] := by cases x <;> first | rfl | cases h2
    rw [e1, e2]
    refine ⟨rfl, by simpa using h1, fun j u hj => ?_⟩
    cases j with
    | zero => simp at hj; subst hj; exact ⟨x, rfl, h⟩
    | succ j => simp at hj
  rcases ha with ha | ⟨as, rfl⟩
  · exact single ha (h.oneCell ha)
  · cases h with
    | p h =>
      cases h with
      | agg cs as hl h1 h =>
        refine ⟨by simpa [Value.cells, AV.cells] using hl, h1, fun j u hj => ?_⟩
        have hj' : as[j]? = some u := hj
        have : j < cs.length := by rw [hl]; exact (List.getElem?_eq_some_iff.1 hj').1
        exact ⟨cs[j], by simp [Value.cells, this], .p (h j _ _ (List.getElem?_eq_getElem this) hj')⟩
    | agg cs as hl h1 h =>
      refine ⟨by simpa [Value.cells, AV.cells] using hl, h1, fun j u hj => ?_⟩
      have hj' : as[j]? = some u := hj
      have : j < cs.length := by rw [hl]; exact (List.getElem?_eq_some_iff.1 hj').1
      exact ⟨cs[j], by simp [Value.cells, this], h j _ _ (List.getElem?_eq_getElem this) hj'⟩
/-- A row of the call's own: its type, the cells of an element, the elements, its generation, how many nobody writes any more. -/
structure OB where
  e : TypeId
  k : Nat
  es : List AV
  g : Nat
  fz : Nat
abbrev Hp := List OB
/-- Which blocks are the call's own: from n on, but not those of K, that it keeps. -/
structure Bd where
  n : Nat
  K : Nat → Prop
  ds : List Deferred := []
def Bd.ok (B : Bd) (b : Nat) : Prop := B.n ≤ b ∧ ¬ B.K b
abbrev Bd.of (n : Nat) : Bd := ⟨n, fun _ => False, []⟩
theorem Bd.of_ok {n b : Nat} (h : n ≤ b) : (Bd.of n).ok b := ⟨h, fun h => h⟩
/-- The mark of the rows that are maps. -/
abbrev mapE : TypeId := 4000000000
/-- A map's entry as cells: the key, the value's cells, the stamp. -/
def entC (x : MapEntry) : List Value := x.key :: (x.val.cells.toList ++ [.int .i64 (x.born : Int)])
/-- A map as cells: its clock and whether its values are structs; then the entries. -/
def flatE (ag : Bool) (m c : Nat) (es : Array MapEntry) : Array Value := ((Value.int .i64 (c : Int) :: .bool ag :: List.replicate m (.bool false)) ++ es.toList.flatMap entC).toArray
def valOk (ag : Bool) (m : Nat) (v : Value) : Prop := v.cells.size = m ∧ (if ag = true then ∃ cs, v = .agg cs else v.oneCell' = true)
/-- A map's iterator as cells. -/
def iterC (b since : Nat) (seen : Array Nat) (last : Nat) : Array Value := (Value.map (some b) :: .int .i64 (since : Int) :: .int .i64 (last : Int) :: seen.toList.map fun (s : Nat) => .int .i64 (s : Int)).toArray
/-- What lies in the memory for a row. -/
def ObjIs (o : Option Obj) (e : TypeId) (k n : Nat) (cur : Array Value) : Prop := (e ≠ mapE ∧ o = some (.cells cur e (0, 0))) ∨ (e = mapE ∧ ((∃ ents clock ag m, k = m + 2 ∧ o = some (.map ents clock) ∧ cur = flatE ag m clock ents ∧ ents.size + 1 = n ∧ ∀ x ∈ ents.toList, valOk ag m x.val) ∨ (k = 1 ∧ ∃ m since seen last, o = some (.mapIter (some m) since seen last) ∧ cur = iterC m since seen last ∧ seen.size + 3 = n) ∨ (k = 0 ∧ (∃ c e' fr, o = some (.cells c e' fr)) ∧ cur = #[] ∧ n = 0)))
theorem ObjIs.is {o : Option Obj} {e : TypeId} {k n : Nat} {cur : Array Value} (h : ObjIs o e k n cur) : ∃ x, o = some x := by
  rcases h with ⟨_, h⟩ | ⟨_, ⟨_, _, _, _, _, h, _⟩ | ⟨_, _, _, _, _, h, _⟩ | ⟨_, ⟨_, _, _, h⟩, _⟩⟩ <;> exact ⟨_, h⟩
theorem ObjIs.row {o : Option Obj} {e : TypeId} {k n : Nat} {cur : Array Value} (h : ObjIs o e k n cur) (ne : e ≠ mapE) : o = some (Obj.cells cur e (0, 0)) := by
  rcases h with ⟨_, h⟩ | ⟨h, _⟩
  · exact h
  · exact absurd h ne
/-- A row as it lies in the world. -/
structure Row (B : Bd) (F : Fz) (O : Ow) (w : World) (d : Ds) (ob : OB) : Prop where
  hg : d.g = ob.g
  hk : d.k = ob.k
  hB : B.ok d.b
  cur : ∃ cur, ObjIs (w.heap[d.b]?) ob.e ob.k ob.es.length cur ∧ (ob.e ≠ mapE → cur.size = d.C * ob.k) ∧ ∀ (n j : Nat) (e a : AV), ob.es[n]? = some e → e.cells[j]? = some a → ∃ c, cur[n * ob.k + j]? = some c ∧ VR F O c a
  hC : d.C ≤ maxLen
  hl : ob.e ≠ mapE → ob.es.length ≤ d.C
  hn : ∀ e ∈ ob.es, e.cells.length = ob.k
  h1 : ∀ e ∈ ob.es, ∀ a ∈ e.cells, AV.one a = true
  hf : ∀ o v, F d.b o = some v → o < ob.fz * ob.k
  hz : ob.fz ≤ ob.es.length
theorem Row.curc {B : Bd} {F : Fz} {O : Ow} {w : World} {d : Ds} {ob : OB} (r : Row B F O w d ob) (ne : ob.e ≠ mapE) : ∃ cur, w.heap[d.b]? = some (.cells cur ob.e (0, 0)) ∧ cur.size = d.C * ob.k ∧ ∀ (n j : Nat) (e a : AV), ob.es[n]? = some e → e.cells[j]? = some a → ∃ c, cur[n * ob.k + j]? = some c ∧ VR F O c a := by
  obtain ⟨cur, h1, h2, h3⟩ := r.cur
  exact ⟨cur, h1.row ne, h2 ne, h3⟩
/-- The call's own rows, and what nobody writes any more. -/
structure Own (B : Bd) (w0 : World) (F0 F : Fz) (O : Ow) (H : Hp) (w : World) : Prop where
  len : O.length = H.length
  row : ∀ (i : Nat) (d : Ds) (ob : OB), O[i]? = some d → H[i]? = some ob → Row B F O w d ob
  inj : ∀ (i j : Nat) (d d' : Ds), O[i]? = some d → O[j]? = some d' → d.b = d'.b → i = j
  fr : ∀ b o v, F b o = some v → w.cell? ⟨b, o, none⟩ = some v
  le : F0.le F
  new : ∀ b o v, F b o = some v → F0 b o = some v ∨ B.ok b
  below : Below B.n w0 w
  size : B.n ≤ w.heap.size
  kept : ∀ b, B.K b → w.heap[b]? = w0.heap[b]?
  kb : ∀ b, B.K b → b < w0.heap.size
theorem Row.ds {B : Bd} {F : Fz} {O : Ow} {w : World} {d : Ds} {ob : OB} (h : Row B F O w d ob) (ds : List Deferred) : Row ⟨B.n, B.K, ds⟩ F O w d ob := ⟨h.hg, h.hk, h.hB, h.cur, h.hC, h.hl, h.hn, h.h1, h.hf, h.hz⟩
theorem Own.ds {B : Bd} {w0 w : World} {F0 F : Fz} {O : Ow} {H : Hp} (h : Own B w0 F0 F O H w) (ds : List Deferred) : Own ⟨B.n, B.K, ds⟩ w0 F0 F O H w := ⟨h.len, fun i d ob a b => (h.row i d ob a b).ds ds, h.inj, h.fr, h.le, h.new, h.below, h.size, h.kept, h.kb⟩
theorem Own.get {B : Bd} {w0 w : World} {F0 F : Fz} {O : Ow} {H : Hp} (h : Own B w0 F0 F O H w) {i : Nat} {ob : OB} (hi : H[i]? = some ob) : ∃ d, O[i]? = some d ∧ Row B F O w d ob := by
  have hl : i < O.length := by rw [h.len]; exact (List.getElem?_eq_some_iff.1 hi).1
  exact ⟨O[i], List.getElem?_eq_getElem hl, h.row i _ ob (List.getElem?_eq_getElem hl) hi⟩
theorem Row.lt {B : Bd} {F : Fz} {O : Ow} {w : World} {d : Ds} {ob : OB} (h : Row B F O w d ob) : d.b < w.heap.size := by
  obtain ⟨cur, hc, _⟩ := h.cur
  obtain ⟨x, hc⟩ := hc.is
  rcases Nat.lt_or_ge d.b w.heap.size with hh | hh
  · exact hh
  · rw [Array.getElem?_eq_none hh] at hc; cases hc
theorem lt_of_cell {w : World} {a : Addr} {v : Value} (h : w.cell? a = some v) : a.block < w.heap.size := by
  rcases Nat.lt_or_ge a.block w.heap.size with hh | hh
  · exact hh
  · unfold World.cell? at h; rw [Array.getElem?_eq_none hh] at h; cases h
/-- The world goes on, and keeps all blocks that there were. -/
theorem Own.keep {B : Bd} {w0 w w' : World} {F0 F : Fz} {O : Ow} {H : Hp} (h : Own B w0 F0 F O H w) (hb : Below w.heap.size w w') : Own B w0 F0 F O H w' where
  len := h.len
  row := fun i d ob hd ho => by
    have r := h.row i d ob hd ho
    obtain ⟨cur, h1, h2⟩ := r.cur
    exact { r with cur := ⟨cur, by rw [hb.block _ r.lt]; exact h1, h2⟩ }
  inj := h.inj
  fr := fun b o v hv => by
    have := h.fr b o v hv
    rw [hb.cell (p := ⟨b, o, none⟩) (lt_of_cell this)]
    exact this
  le := h.le
  new := h.new
  below := h.below.trans (hb.mono h.size)
  size := Nat.le_trans h.size hb.size
  kept := fun b hk => by rw [hb.block b (Nat.lt_of_lt_of_le (h.kb b hk) h.below.size)]; exact h.kept b hk
  kb := h.kb
theorem Own.okGe {B : Bd} {w0 w : World} {F0 F : Fz} {O : Ow} {H : Hp} (h : Own B w0 F0 F O H w) {b : Nat} (hb : w.heap.size ≤ b) : B.ok b :=
  ⟨Nat.le_trans h.size hb, fun hk => by have := h.kb b hk; have := h.below.size; omega⟩
/-- A slice of the call's own is written no more. -/
theorem Own.freeze {B : Bd} {w0 w : World} {F0 F : Fz} {O : Ow} {H : Hp} (h : Own B w0 F0 F O H w) {i : Nat} {ob : OB} (hi : H[i]? = some ob) (ne : ob.e ≠ mapE) {n : Nat} (hn : n ≤ ob.es.length) (hp : (ob.es.take n).all AV.isP = true) {x : Value} (hx : VR F O x (.ol i ob.g n)) :
    ∃ F', PV F' x (.sl ob.k (ob.es.take n)) ∧ Own B w0 F0 F' O (H.set i { ob with fz := max ob.fz n }) w ∧ F.le F' := by
  obtain ⟨d, hd, r⟩ := h.get hi
  obtain ⟨cur, hcur, hsz, hcell⟩ := r.curc ne
  have hF' : F.le (fun b o => if b = d.b ∧ o < n * ob.k then w.cell? ⟨b, o, none⟩ else F b o) := fun b o v hv => by
    by_cases hc : b = d.b ∧ o < n * ob.k
    · simp only [if_pos hc]; exact h.fr b o v hv
    · simp only [if_neg hc]; exact hv
  have hxv : n ≤ d.C ∧ x = .slice (some ⟨d.b, 0, none⟩) n d.C := by
    cases hx with
    | p h => cases h
    | ol x i g n d' hd' hg h1 h =>
      rw [hd] at hd'
      cases hd'
      exact h r.hg.symm
  have hcw : ∀ o c, cur[o]? = some c → w.cell? ⟨d.b, o, none⟩ = some c := fun o c hc => by
    simp [World.cell?, hcur, hc]
  refine ⟨_, ?_, ?_, hF'⟩
  · rw [hxv.2]
    refine .sl _ n d.C ob.k (ob.es.take n) (by simp; omega) hxv.1 r.hC (fun e he => r.hn e (List.mem_of_mem_take he)) (fun e he => r.h1 e (List.mem_of_mem_take he)) d.b 0 (fun _ => rfl)
      (fun i j => (w.cell? ⟨d.b, 0 + i * ob.k + j, none⟩).getD undef) ?_ ?_
    · intro i j hin hjk
      have hlt : 0 + i * ob.k + j < n * ob.k := by
        have := Nat.mul_le_mul_right ob.k (show i + 1 ≤ n by omega)
        rw [Nat.add_mul] at this; omega
      simp only [true_and, hlt, if_true]
      have hic : (i * ob.k + j) < cur.size := by
        rw [hsz]
        have := Nat.mul_le_mul_right ob.k hxv.1
        omega
      rw [hcw (0 + i * ob.k + j) cur[i * ob.k + j] (by rw [Nat.zero_add]; exact Array.getElem?_eq_getElem hic)]
      rfl
    · intro i j e a he ha
      have he' : ob.es[i]? = some e := by
        rw [List.getElem?_take] at he
        split at he
        · exact he
        · cases he
      obtain ⟨c, hc, hr⟩ := hcell i j e a he' ha
      rw [hcw (0 + i * ob.k + j) c (by rw [Nat.zero_add]; exact hc)]
      have hep : e.isP = true := (List.all_eq_true.1 hp) e (List.mem_of_getElem? he)
      refine (hr.pvC ?_).mono hF'
      cases e with
      | agg cs =>
        simp only [AV.isP, List.all_eq_true] at hep
        exact hep a (List.mem_of_getElem? ha)
      | _ =>
        have : a ∈ [_] := List.mem_of_getElem? ha
        simp at this
        subst this
        exact hep
  · refine ⟨by simpa using h.len, ?_, h.inj, ?_, Fz.le_trans h.le hF', ?_, h.below, h.size, h.kept, h.kb⟩
    · intro j d' ob' hd' ho'
      rw [List.getElem?_set] at ho'
      split at ho'
      · rename_i hij
        subst hij
        split at ho'
        · rw [hd] at hd'
          cases hd'
          cases ho'
          refine ⟨r.hg, r.hk, r.hB, ⟨cur, .inl ⟨ne, hcur⟩, fun _ => hsz, fun n j e a he ha => ?_⟩, r.hC, r.hl, r.hn, r.h1, ?_, ?_⟩
          · obtain ⟨c, hc, hr⟩ := hcell n j e a he ha
            exact ⟨c, hc, hr.mono hF' (Ow.le_refl O)⟩
          · intro o v hv
            have hm1 : ob.fz * ob.k ≤ max ob.fz n * ob.k := Nat.mul_le_mul_right _ (Nat.le_max_left _ _)
            have hm2 : n * ob.k ≤ max ob.fz n * ob.k := Nat.mul_le_mul_right _ (Nat.le_max_right _ _)
            by_cases hc : d.b = d.b ∧ o < n * ob.k
            · exact Nat.lt_of_lt_of_le hc.2 hm2
            · have hv' : (if d.b = d.b ∧ o < n * ob.k then w.cell? ⟨d.b, o, none⟩ else F d.b o) = some v := hv
              rw [if_neg hc] at hv'
              exact Nat.lt_of_lt_of_le (r.hf o v hv') hm1
          · exact Nat.max_le.2 ⟨r.hz, hn⟩
        · cases ho'
      · rename_i hij
        have r' := h.row j d' ob' hd' ho'
        obtain ⟨cur', hcur', hsz', hcell'⟩ := r'.cur
        refine { r' with cur := ⟨cur', hcur', hsz', fun n j e a he ha => ?_⟩, hf := ?_ }
        · obtain ⟨c, hc, hr⟩ := hcell' n j e a he ha
          exact ⟨c, hc, hr.mono hF' (Ow.le_refl O)⟩
        · intro o v hv
          have hne : d'.b ≠ d.b := fun e => hij (h.inj i j d d' hd hd' e.symm)
          simp only [hne, false_and, if_false] at hv
          exact r'.hf o v hv
    · intro b o v hv
      by_cases hc : b = d.b ∧ o < n * ob.k
      · simp only [if_pos hc] at hv; exact hv
      · simp only [if_neg hc] at hv; exact h.fr b o v hv
    · intro b o v hv
      by_cases hc : b = d.b ∧ o < n * ob.k
      · right; rw [hc.1]; exact r.hB
      · simp only [if_neg hc] at hv; exact h.new b o v hv
theorem Own.freezeA {B : Bd} {w0 w : World} {F0 F : Fz} {O : Ow} {H : Hp} (h : Own B w0 F0 F O H w) {i : Nat} {ob : OB} (hi : H[i]? = some ob) (ne : ob.e ≠ mapE) (hp : ob.es.all AV.isP = true) {x : Value} {e off : Nat} (hx : VR F O x (.oa i ob.g e off)) :
    ∃ F', PV F' x (.ad ob.k ob.es e off) ∧ Own B w0 F0 F' O (H.set i { ob with fz := max ob.fz ob.es.length }) w ∧ F.le F' := by
  obtain ⟨d, hd, r⟩ := h.get hi
  have hxv : x = .pointer (some ⟨d.b, e * d.k + off, none⟩) := by
    cases hx with
    | p h => cases h
    | oa x i g e off d' hd' hg h1 h =>
      rw [hd] at hd'
      cases hd'
      exact h r.hg.symm
  have hy : VR F O (.slice (some ⟨d.b, 0, none⟩) ob.es.length d.C) (.ol i ob.g ob.es.length) := .ol _ i ob.g _ d hd (by rw [r.hg]; omega) ⟨_, _, rfl⟩ fun _ => ⟨r.hl ne, rfl⟩
  obtain ⟨F', p, o, l⟩ := h.freeze hi ne (Nat.le_refl _) (by rw [List.take_length]; exact hp) hy
  rw [List.take_length] at p
  refine ⟨F', ?_, o, l⟩
  rw [hxv, r.hk]
  cases p with
  | sl A n cap k es hn hc hm hk h1 b o' hA f hf hh =>
    have e0 : (⟨d.b, e * ob.k + off, none⟩ : Addr) = ⟨d.b, 0 + e * ob.k + off, none⟩ := by simp
    rw [e0]
    refine .ad d.b 0 ob.k ob.es e off hk h1 f (fun i j hi hj => ?_) hh
    have := hA (by omega)
    cases this
    exact hf i j hi hj
/-- A cell, such that nobody writes it any more. -/
def purC (H : Hp) : AV → Option (AV × Hp)
  | .nl k => some (.sl k [], H)
  | .em _ k => some (.sl k [], H)
  | .ol i g n =>
    match H[i]? with
    | some ob => if (ob.g = g ∧ n ≤ ob.es.length ∧ (ob.es.take n).all AV.isP = true) ∧ (ob.e == 4000000000) = false then some (.sl ob.k (ob.es.take n), H.set i { ob with fz := max ob.fz n }) else none
    | none => none
  | .oa i g e off =>
    match H[i]? with
    | some ob => if (ob.g = g ∧ ob.es.all AV.isP = true) ∧ (ob.e == 4000000000) = false then some (.ad ob.k ob.es e off, H.set i { ob with fz := max ob.fz ob.es.length }) else none
    | none => none
  | a => if a.isC then some (a, H) else none
def purL : Hp → List AV → Option (List AV × Hp)
  | H, [] => some ([], H)
  | H, a :: as =>
    match purC H a with
    | some (a', H') => (match purL H' as with | some (as', H'') => some (a' :: as', H'') | none => none)
    | none => none
def pur (H : Hp) : AV → Option (AV × Hp)
  | .agg cs => (match purL H cs with | some (cs', H') => some (.agg cs', H') | none => none)
  | .fn f cs => (match purL H cs with | some (cs', H') => some (.fn f cs', H') | none => none)
  | a => purC H a
def purA : Hp → List AV → Option (List AV × Hp)
  | H, [] => some ([], H)
  | H, a :: as =>
    match pur H a with
    | some (a', H') => (match purA H' as with | some (as', H'') => some (a' :: as', H'') | none => none)
    | none => none
theorem purC_isC {H : Hp} {a : AV} (h : a.isC = true) : purC H a = some (a, H) := by
  cases a with
  | fn f cs => simp only [purC, h, if_true]
  | _ => first | rfl | cases h
theorem isC_of0 {a : AV} (h : a.isC0 = true) : a.isC = true := by cases a <;> first | rfl | cases h
theorem purL_isC {H : Hp} : ∀ {as : List AV}, as.all AV.isC = true → purL H as = some (as, H)
  | [], _ => rfl
  | a :: as, h => by
    simp only [List.all_cons, Bool.and_eq_true] at h
    simp only [purL, purC_isC h.1, purL_isC h.2]
theorem pur_isP {H : Hp} {a : AV} (h : a.isP = true) : pur H a = some (a, H) := by
  cases a with
  | agg cs => simp only [pur, purL_isC (H := H) (as := cs) h]
  | fn f cs => simp only [pur, purL_isC (H := H) (as := cs) (List.all_eq_true.2 fun a ha => isC_of0 (List.all_eq_true.1 (show cs.all AV.isC0 = true from h) a ha))]
  | v x => rfl
  | sl k es => rfl
  | ad k es i off => rfl
  | _ => cases h
theorem purA_isP {H : Hp} : ∀ {as : List AV}, as.all AV.isP = true → purA H as = some (as, H)
  | [], _ => rfl
  | a :: as, h => by
    simp only [List.all_cons, Bool.and_eq_true] at h
    simp only [purA, pur_isP h.1, purA_isP h.2]
theorem purC_ok {B : Bd} {w0 w : World} {F0 F : Fz} {O : Ow} {H H' : Hp} (h : Own B w0 F0 F O H w) {x : Value} {a a' : AV} (hx : VR F O x a) (hp : purC H a = some (a', H')) :
    ∃ F', PV F' x a' ∧ Own B w0 F0 F' O H' w ∧ F.le F' ∧ a'.one = true := by
  cases a with
  | nl k =>
    simp only [purC, Option.some.injEq, Prod.mk.injEq] at hp
    obtain ⟨rfl, rfl⟩ := hp
    cases hx with
    | p h => cases h
    | nl => exact ⟨F, .sl none 0 0 k [] rfl (Nat.le_refl _) (Nat.zero_le _) (fun e he => by cases he) (fun e he => by cases he) 0 0 (fun h => absurd h (Nat.lt_irrefl _)) (fun _ _ => undef) (fun i j hi => absurd hi (Nat.not_lt_zero _)) (fun i j e a he => by simp at he), h, Fz.le_refl F, rfl⟩
  | em b k =>
    simp only [purC, Option.some.injEq, Prod.mk.injEq] at hp
    obtain ⟨rfl, rfl⟩ := hp
    cases hx with
    | p h => cases h
    | em A c b k hb hm => exact ⟨F, .sl A 0 c k [] rfl (Nat.zero_le _) hm (fun e he => by cases he) (fun e he => by cases he) 0 0 (fun h => absurd h (Nat.lt_irrefl _)) (fun _ _ => undef) (fun i j hi => absurd hi (Nat.not_lt_zero _)) (fun i j e a he => by simp at he), h, Fz.le_refl F, rfl⟩
  | ol i g n =>
    simp only [purC] at hp
    split at hp
    · rename_i ob hi
      split at hp
      · rename_i hc
        obtain ⟨⟨rfl, hn, ht⟩, hne⟩ := hc
        simp only [Option.some.injEq, Prod.mk.injEq] at hp
        obtain ⟨rfl, rfl⟩ := hp
        obtain ⟨F', h1, h2, h3⟩ := h.freeze hi (by simpa using hne) hn ht hx
        exact ⟨F', h1, h2, h3, rfl⟩
      · cases hp
    · cases hp
  | os i g lo n => simp [purC, AV.isC, AV.isC0] at hp
  | v y =>
    simp only [purC, AV.isC, AV.isC0, if_true, Option.some.injEq, Prod.mk.injEq] at hp
    obtain ⟨rfl, rfl⟩ := hp
    exact ⟨F, hx.pvC rfl, h, Fz.le_refl F, rfl⟩
  | sl k es =>
    simp only [purC, AV.isC, AV.isC0, if_true, Option.some.injEq, Prod.mk.injEq] at hp
    obtain ⟨rfl, rfl⟩ := hp
    exact ⟨F, hx.pvC rfl, h, Fz.le_refl F, rfl⟩
  | ad k es i off =>
    simp only [purC, AV.isC, AV.isC0, if_true, Option.some.injEq, Prod.mk.injEq] at hp
    obtain ⟨rfl, rfl⟩ := hp
    exact ⟨F, hx.pvC rfl, h, Fz.le_refl F, rfl⟩
  | agg cs => simp [purC, AV.isC, AV.isC0] at hp
  | tup cs => simp [purC, AV.isC, AV.isC0] at hp
  | oa i g e off =>
    simp only [purC] at hp
    split at hp
    · rename_i ob hi
      split at hp
      · rename_i hc
        obtain ⟨⟨rfl, ht⟩, hne⟩ := hc
        simp only [Option.some.injEq, Prod.mk.injEq] at hp
        obtain ⟨rfl, rfl⟩ := hp
        obtain ⟨F', h1, h2, h3⟩ := h.freezeA hi (by simpa using hne) ht hx
        exact ⟨F', h1, h2, h3, rfl⟩
      · cases hp
    · cases hp
  | fn f cs =>
    simp only [purC] at hp
    split at hp
    · rename_i hc
      cases hp
      exact ⟨F, hx.pvC hc, h, Fz.le_refl F, rfl⟩
    · cases hp
  | io t i g e off => simp [purC, AV.isC, AV.isC0] at hp
  | mp i g => simp [purC, AV.isC, AV.isC0] at hp
  | oc i g n c => simp [purC, AV.isC, AV.isC0] at hp
  | mf nm t i g e off => simp [purC, AV.isC, AV.isC0] at hp
  | bf f i g e off => simp [purC, AV.isC, AV.isC0] at hp
  | ib t f i g e off => simp [purC, AV.isC, AV.isC0] at hp
  | unk => simp [purC, AV.isC, AV.isC0] at hp
theorem purL_ok {B : Bd} {w0 w : World} {F0 : Fz} {O : Ow} : ∀ {as as' : List AV} {F : Fz} {H H' : Hp} {xs : List Value}, Own B w0 F0 F O H w → xs.length = as.length → (∀ (i : Nat) (c : Value) (a : AV), xs[i]? = some c → as[i]? = some a → VR F O c a) → purL H as = some (as', H') →
    ∃ F', (∀ (i : Nat) (c : Value) (a : AV), xs[i]? = some c → as'[i]? = some a → PV F' c a) ∧ as'.length = as.length ∧ (∀ a ∈ as', a.one = true) ∧ Own B w0 F0 F' O H' w ∧ F.le F'
  | [], as', F, H, H', xs, h, hl, hv, hp => by
    simp only [purL, Option.some.injEq, Prod.mk.injEq] at hp
    obtain ⟨rfl, rfl⟩ := hp
    exact ⟨F, fun i c a _ ha => by simp at ha, rfl, (fun a ha => by cases ha), h, Fz.le_refl F⟩
  | a :: as, as', F, H, H', [], h, hl, hv, hp => by simp at hl
  | a :: as, as', F, H, H', x :: xs, h, hl, hv, hp => by
    simp only [purL] at hp
    split at hp
    · rename_i a1 H1 h1
      split at hp
      · rename_i as1 H2 h2
        simp only [Option.some.injEq, Prod.mk.injEq] at hp
        obtain ⟨rfl, rfl⟩ := hp
        obtain ⟨F1, p1, o1, l1, n1⟩ := purC_ok h (hv 0 x a rfl rfl) h1
        obtain ⟨F2, p2, e2, n2, o2, l2⟩ := purL_ok (xs := xs) o1 (by simpa using hl) (fun i c a hc ha => (hv (i + 1) c a hc ha).mono l1 (Ow.le_refl O)) h2
        refine ⟨F2, fun i c a hc ha => ?_, by simp [e2], fun a ha => ?_, o2, Fz.le_trans l1 l2⟩
        · cases i with
          | zero => simp at hc ha; subst hc; subst ha; exact p1.mono l2
          | succ i => exact p2 i c a hc ha
        · rcases List.mem_cons.1 ha with rfl | ha
          · exact n1
          · exact n2 a ha
      · cases hp
    · cases hp
theorem pur_ok {B : Bd} {w0 w : World} {F0 F : Fz} {O : Ow} {H H' : Hp} (h : Own B w0 F0 F O H w) {x : Value} {a a' : AV} (hx : VR F O x a) (hp : pur H a = some (a', H')) :
    ∃ F', PV F' x a' ∧ Own B w0 F0 F' O H' w ∧ F.le F' := by
  by_cases hg : ∃ cs, a = .agg cs
  · obtain ⟨cs, rfl⟩ := hg
    simp only [pur] at hp
    split at hp
    · rename_i cs' H1 h1
      simp only [Option.some.injEq, Prod.mk.injEq] at hp
      obtain ⟨rfl, rfl⟩ := hp
      obtain ⟨xs, hxs, hl, hv⟩ : ∃ xs : List Value, x = .agg xs.toArray ∧ xs.length = cs.length ∧ ∀ (i : Nat) (c : Value) (a : AV), xs[i]? = some c → cs[i]? = some a → VR F O c a := by
        cases hx with
        | p h => cases h with
          | agg xs as hl h1 h => exact ⟨xs, rfl, hl, fun i c a hc ha => .p (h i c a hc ha)⟩
        | agg xs as hl h1 h => exact ⟨xs, rfl, hl, h⟩
      obtain ⟨F', p, e, n, o, l⟩ := purL_ok h hl hv h1
      subst hxs
      exact ⟨F', .agg xs cs' (by omega) n p, o, l⟩
    · cases hp
  · by_cases hg2 : ∃ f cs, a = .fn f cs
    · obtain ⟨f, cs, rfl⟩ := hg2
      simp only [pur] at hp
      split at hp
      · rename_i cs' H1 h1
        simp only [Option.some.injEq, Prod.mk.injEq] at hp
        obtain ⟨rfl, rfl⟩ := hp
        obtain ⟨xs, hxs, hl, hv⟩ : ∃ xs : List Value, x = .func (.func f) #[] xs.toArray ∧ xs.length = cs.length ∧ ∀ (i : Nat) (c : Value) (a : AV), xs[i]? = some c → cs[i]? = some a → VR F O c a := by
          cases hx with
          | p h => cases h with
            | fn f xs as hl h => exact ⟨xs, rfl, hl, fun i c a hc ha => .p (h i c a hc ha)⟩
          | fn f xs as hl h => exact ⟨xs, rfl, hl, h⟩
        obtain ⟨F', p, e, n, o, l⟩ := purL_ok h hl hv h1
        subst hxs
        exact ⟨F', .fn f xs cs' (by omega) p, o, l⟩
      · cases hp
    · have hp' : purC H a = some (a', H') := by
        cases a with
        | agg cs => exact absurd ⟨cs, rfl⟩ hg
        | fn f cs => exact absurd ⟨f, cs, rfl⟩ hg2
        | _ => exact hp
      obtain ⟨F', p, o, l, _⟩ := purC_ok h hx hp'
      exact ⟨F', p, o, l⟩
theorem purA_ok {B : Bd} {w0 w : World} {F0 : Fz} {O : Ow} : ∀ {as as' : List AV} {F : Fz} {H H' : Hp} {xs : List Value}, Own B w0 F0 F O H w → xs.length = as.length → (∀ (i : Nat) (c : Value) (a : AV), xs[i]? = some c → as[i]? = some a → VR F O c a) → purA H as = some (as', H') →
    ∃ F', (∀ (i : Nat) (c : Value) (a : AV), xs[i]? = some c → as'[i]? = some a → PV F' c a) ∧ as'.length = as.length ∧ Own B w0 F0 F' O H' w ∧ F.le F'
  | [], as', F, H, H', xs, h, hl, hv, hp => by
    simp only [purA, Option.some.injEq, Prod.mk.injEq] at hp
    obtain ⟨rfl, rfl⟩ := hp
    exact ⟨F, fun i c a _ ha => by simp at ha, rfl, h, Fz.le_refl F⟩
  | a :: as, as', F, H, H', [], h, hl, hv, hp => by simp at hl
  | a :: as, as', F, H, H', x :: xs, h, hl, hv, hp => by
    simp only [purA] at hp
    split at hp
    · rename_i a1 H1 h1
      split at hp
      · rename_i as1 H2 h2
        simp only [Option.some.injEq, Prod.mk.injEq] at hp
        obtain ⟨rfl, rfl⟩ := hp
        obtain ⟨F1, p1, o1, l1⟩ := pur_ok h (hv 0 x a rfl rfl) h1
        obtain ⟨F2, p2, e2, o2, l2⟩ := purA_ok (xs := xs) o1 (by simpa using hl) (fun i c a hc ha => (hv (i + 1) c a hc ha).mono l1 (Ow.le_refl O)) h2
        refine ⟨F2, fun i c a hc ha => ?_, by simp [e2], o2, Fz.le_trans l1 l2⟩
        cases i with
        | zero => simp at hc ha; subst hc; subst ha; exact p1.mono l2
        | succ i => exact p2 i c a hc ha
      · cases hp
    · cases hp
end Go.Proofs.YtgcnbbjapapnjaaDoor.Sim
