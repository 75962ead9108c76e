/- Operations on plain values. -/
import Derived.Test.YtgcnbbjapapnjaaDoorSimA
namespace Go.Proofs.YtgcnbbjapapnjaaDoor.Sim
open Go.RowKit
set_option linter.unusedVariables false
set_option linter.unusedSimpArgs false

/-- What a run that touches no memory comes to. -/
def pureRun (P : Program) {α : Type} : Sem α → Option α
  | .pure a => some a
  | .program k => pureRun P (k P)
  | .mark _ k => pureRun P k
  | _ => none
theorem pureRun_ok {P : Program} {α : Type} (s : Sem α) {a : α} (h : pureRun P s = some a) (w : World) : s.run P w = .ok a w := by
  induction s with
  | pure b => simp only [pureRun, Option.some.injEq] at h; subst h; rfl
  | program k ih => exact ih P h
  | mark m k ih => exact ih h
  | _ => cases h
def avCell (k : Option Nat) (v : Value) : Option AV :=
  if scal v then some (.v v) else match v, k with
    | .slice none 0 0, some k => some (.nl k)
    | _, _ => none
def avCells : List (Option Nat) → List Value → Option (List AV)
  | [], [] => some []
  | k :: ks, v :: vs =>
    match avCell k v, avCells ks vs with
    | some a, some as => some (a :: as)
    | _, _ => none
  | _, _ => none
def cellKs (P : Program) : Nat → TypeId → List (Option Nat)
  | 0, _ => []
  | d + 1, t =>
    match P.underlying t with
    | some (.struct fs) => fs.toList.flatMap fun f => cellKs P d f.type
    | some (.array n e) => (List.replicate n (cellKs P d e)).flatten
    | some (.slice e) => [(P.info? e).map (·.size)]
    | _ => [none]
def avVal (P : Program) (t : TypeId) : Value → Option AV
  | .agg cs => (match avCells (cellKs P 12 t) cs.toList with | some as => some (.agg as) | none => none)
  | v => avCell ((cellKs P 12 t).headD none) v
theorem avCell_ok {k : Option Nat} {v : Value} {a : AV} (h : avCell k v = some a) (F : Fz) (O : Ow) : VR F O v a ∧ a.one = true := by
  unfold avCell at h
  split at h
  · rename_i hs; cases h; exact ⟨.p (.v v hs), rfl⟩
  · split at h
    · cases h; exact ⟨.nl _, rfl⟩
    · cases h
theorem avCells_ok (F : Fz) (O : Ow) : ∀ {ks : List (Option Nat)} {vs : List Value} {as : List AV}, avCells ks vs = some as → vs.length = as.length ∧ (∀ a ∈ as, a.one = true) ∧ ∀ (i : Nat) (c : Value) (a : AV), vs[i]? = some c → as[i]? = some a → VR F O c a
  | [], [], as, h => by cases h; exact ⟨rfl, fun a ha => (by cases ha), fun i c a hc => by simp at hc⟩
  | [], _ :: _, as, h => by cases h
  | _ :: _, [], as, h => by cases h
  | k :: ks, v :: vs, as, h => by
    simp only [avCells] at h
    split at h
    · rename_i a as' h1 h2
      cases h
      obtain ⟨l, o, r⟩ := avCells_ok F O h2
      obtain ⟨r1, o1⟩ := avCell_ok h1 F O
      refine ⟨by simp [l], fun b hb => ?_, fun i c b hc hb => ?_⟩
      · rcases List.mem_cons.1 hb with rfl | hb
        · exact o1
        · exact o b hb
      · cases i with
        | zero => simp at hc hb; subst hc; subst hb; exact r1
        | succ i => exact r i c b hc hb
    · cases h
theorem avVal_ok {P : Program} {t : TypeId} {v : Value} {a : AV} (h : avVal P t v = some a) (F : Fz) (O : Ow) : VR F O v a ∧ (a.one = true ∨ ∃ cs, a = .agg cs) := by
  cases v with
  | agg cs =>
    simp only [avVal] at h
    split at h
    · rename_i as h1
      cases h
      obtain ⟨l, o, r⟩ := avCells_ok F O h1
      exact ⟨by have := VR.agg (F := F) (O := O) cs.toList as l o r; simpa using this, .inr ⟨as, rfl⟩⟩
    · cases h
  | _ => exact ⟨(avCell_ok (k := (cellKs P 12 t).headD none) h F O).1, .inl (avCell_ok (k := (cellKs P 12 t).headD none) h F O).2⟩
/-- What an operand stands for. -/
inductive AX where
  | t (n : Nat)
  | c (a : AV)
  | g (n : Nat)
def AX.ev (G : Nat → AV) (s : List AV) : AX → AV
  | .t n => s.getD n (.tup [])
  | .c a => a
  | .g n => G n
def cx (P : Program) (ty : TypeId) : Operand → Option AX
  | .tmp t => some (.t t)
  | .const v => (match avVal P ty v with | some a => some (.c a) | none => none)
  | .global g => some (.g g)
  | .func f => some (.c (.v (.func (.func f) #[] #[])))
def cxs (P : Program) : List (TypeId × Operand) → Option (List AX)
  | [] => some []
  | (t, x) :: xs =>
    match cx P t x, cxs P xs with
    | some a, some as => some (a :: as)
    | _, _ => none
/-- A value that leads nowhere, whole. -/
def AV.val : AV → Option Value
  | .v x => some x
  | _ => none
def vals : List AV → Option (List Value)
  | [] => some []
  | .v x :: as => (match vals as with | some xs => some (x :: xs) | none => none)
  | _ :: _ => none
def conc : AV → Option Value
  | .v x => some x
  | .agg cs => (match vals cs with | some xs => some (.agg xs.toArray) | none => none)
  | .nl _ => some (.slice none 0 0)
  | _ => none
theorem vals_ok {F : Fz} {O : Ow} : ∀ {as : List AV} {xs ys : List Value}, vals as = some xs → ys.length = as.length → (∀ (i : Nat) (c : Value) (a : AV), ys[i]? = some c → as[i]? = some a → VR F O c a) → ys = xs
  | [], xs, ys, h, hl, _ => by cases h; exact List.eq_nil_of_length_eq_zero hl
  | a :: as, xs, [], h, hl, _ => by simp at hl
  | a :: as, xs, y :: ys, h, hl, hv => by
    cases a with
    | v x =>
      simp only [vals] at h
      split at h
      · rename_i xs' h'
        cases h
        have h1 := (hv 0 y _ rfl rfl).pvC rfl
        cases h1
        rw [vals_ok h' (by simpa using hl) (fun i c a hc ha => hv (i + 1) c a hc ha)]
      · cases h
    | _ => cases h
theorem conc_ok {F : Fz} {O : Ow} {x y : Value} {a : AV} (h : VR F O x a) (hc : conc a = some y) : x = y := by
  cases a with
  | v z => cases hc; have := h.pvC rfl; cases this; rfl
  | nl k =>
    cases hc
    cases h with
    | p h => cases h
    | nl => rfl
  | agg cs =>
    simp only [conc] at hc
    split at hc
    · rename_i xs hx
      cases hc
      cases h with
      | p h => cases h with
        | agg ys as hl h1 h => rw [vals_ok (F := F) (O := O) hx hl (fun i c a hc ha => .p (h i c a hc ha))]
      | agg ys as hl h1 h => rw [vals_ok hx hl h]
    · cases hc
  | _ => cases hc
def ofVals : List Value → Option (List AV)
  | [] => some []
  | x :: xs => if scal x then (match ofVals xs with | some as => some (.v x :: as) | none => none) else none
def ofVal : Value → Option AV
  | .agg cs => (match ofVals cs.toList with | some as => some (.agg as) | none => none)
  | .tuple cs => (match ofVals cs.toList with | some as => some (.tup as) | none => none)
  | x => if scal x then some (.v x) else none
theorem ofVals_ok {F : Fz} {O : Ow} : ∀ {xs : List Value} {as : List AV}, ofVals xs = some as → xs.length = as.length ∧ (∀ a ∈ as, a.one = true) ∧ ∀ (i : Nat) (c : Value) (a : AV), xs[i]? = some c → as[i]? = some a → PV F c a
  | [], as, h => by cases h; exact ⟨rfl, fun a ha => (by cases ha), fun i c a hc => by simp at hc⟩
  | x :: xs, as, h => by
    simp only [ofVals] at h
    split at h
    · rename_i hs
      split at h
      · rename_i as' h'
        cases h
        obtain ⟨l, o, r⟩ := ofVals_ok (F := F) (O := O) h'
        refine ⟨by simp [l], fun b hb => ?_, fun i c b hc hb => ?_⟩
        · rcases List.mem_cons.1 hb with rfl | hb
          · rfl
          · exact o b hb
        · cases i with
          | zero => simp at hc hb; subst hc; subst hb; exact .v _ hs
          | succ i => exact r i c b hc hb
      · cases h
    · cases h
theorem ofVal_ok {F : Fz} {O : Ow} {x : Value} {a : AV} (h : ofVal x = some a) : VR F O x a := by
  cases x with
  | agg cs =>
    simp only [ofVal] at h
    split at h
    · rename_i as h1
      cases h
      obtain ⟨l, o, r⟩ := ofVals_ok (F := F) (O := O) h1
      have := PV.agg (F := F) cs.toList as l o r
      exact .p (by simpa using this)
    · cases h
  | tuple cs =>
    simp only [ofVal] at h
    split at h
    · rename_i as h1
      cases h
      obtain ⟨l, o, r⟩ := ofVals_ok (F := F) (O := O) h1
      have := PV.tup (F := F) cs.toList as l r
      exact .p (by simpa using this)
    · cases h
  | _ =>
    simp only [ofVal] at h
    split at h
    · rename_i hs; cases h; exact .p (.v _ hs)
    · cases h
/-- Cells that are compared: numbers, texts, truth values. -/
inductive Kd where
  | i
  | s
  | b
def kindOf (P : Program) (t : TypeId) : Option Kd :=
  match P.underlying t with
  | some (.int _) => some .i
  | some .string => some .s
  | some .bool => some .b
  | _ => none
def flatFs (P : Program) (go : TypeId → Option (List Kd)) : Nat → List Field → Option (List Kd)
  | _, [] => some []
  | off, f :: fs =>
    if f.name ≠ "_" ∧ f.offset = off then
      match go f.type, P.info? f.type, P.underlying f.type with
      | some ks1, some inf, some df => if inf.size = ks1.length ∧ ks1.length ≠ 0 then (match flatFs P go (off + ks1.length) fs with | some ks2 => some (ks1 ++ ks2) | none => none) else none
      | _, _, _ => none
    else none
def flatK (P : Program) : Nat → TypeId → Option (List Kd)
  | 0, _ => none
  | d + 1, t =>
    match kindOf P t with
    | some k => some [k]
    | none =>
      match P.underlying t with
      | some (.struct fs) => if P.stoodInHeld t = false then flatFs P (flatK P d) 0 fs.toList else none
      | _ => none
def eqNeg : BinOp → Option Bool
  | .eql => some false
  | .neq => some true
  | _ => none
def eqOf (P : Program) (t : TypeId) : Option (List Kd) :=
  match P.underlying t with
  | some (.struct _) => if P.eqGuardType P.depth t = false then flatK P 8 t else none
  | _ => none
def eqC : Kd → AV → AV → Option Bool
  | .i, .v (.int k a), .v (.int k' b) => if k = k' then some (decide (a = b)) else none
  | .s, .v (.string a), .v (.string b) => some (decide (a = b))
  | .b, .v (.bool a), .v (.bool b) => some (a == b)
  | _, _, _ => none
def eqCs : List Kd → List AV → List AV → Option Bool
  | [], [], [] => some true
  | k :: ks, a :: as, b :: bs => (match eqC k a b, eqCs ks as bs with | some x, some y => some (x && y) | _, _ => none)
  | _, _, _ => none
def eqsA (ng : Bool) (ks : List Kd) : AV → AV → Option AV
  | .agg as, .agg bs => (match eqCs ks as bs with | some r => some (.v (.bool (if ng = true then !r else r))) | none => none)
  | _, _ => none
/-- An operation on plain values. -/
inductive AOp where
  | mv (x : AX)
  | bin (op : BinOp) (t : TypeId) (pt : Bool) (xo yo : Operand) (x y : AX)
  | un (op : UnOp) (x : AX)
  | cv (src dst : TypeId) (x : AX)
  | pick (c a b : AX)
  | ext (x : AX) (i : Nat)
  | new (e : TypeId) (k : Nat) (x : AX)
  | bld (z : List AV) (parts : List (Nat × Nat × AX))
  | bsl (e : TypeId) (k : Nat) (xs : List AX)
  | load (agg : Bool) (n : Nat) (x : AX)
  | store (n : Nat) (x v : AX)
  | nilc (x : AX)
  | fad (off : Nat) (x : AX)
  | fld (agg : Bool) (off n : Nat) (x : AX)
  | iad (k : Nat) (x i : AX)
  | iaa (len k : Nat) (x i : AX)
  | idx (t : TypeId) (x i : AX)
  | ixa (agg : Bool) (len k : Nat) (x i : AX)
  | sls (t : TypeId) (x : AX) (lo hi : Option AX)
  | slc (k : Nat) (x : AX) (lo hi : Option AX)
  | slo (k : Nat) (x i : AX)
  | mks (e : TypeId) (k bytes : Nat) (z : AV) (len cap : AX)
  | app (e : TypeId) (k bytes : Nat) (s x : AX)
  | apf (e : TypeId) (k bytes : Nat) (s x : AX)
  | apz (e : TypeId) (k bytes : Nat) (z : AV) (s n : AX)
  | lns (x : AX)
  | len (x : AX)
  | bi (b : Builtin) (argTypes : Array TypeId) (ty : TypeId) (consts : Array Bool) (xs : List AX)
  | call (f : FuncId) (xs : List AX)
  | callh (f : FuncId) (xs : List AX)
  | callm (f : FuncId) (xs : List AX)
  | callv (x : AX) (xs : List AX)
  | calli (nm : String) (x : AX) (xs : List AX)
  | mki (t : Nat) (x : AX)
  | mkm2 (nm : String) (x : AX)
  | mkb (f : FuncId) (x : AX)
  | mkm (ag : Bool) (m : Nat)
  /-- an iterator over a map; its next step, where the map has no entries -/
  | rgm (x : AX)
  | nxm (x : AX)
  /-- an own place as an untyped pointer -/
  | cup (x : AX)
  /-- .. and back -/
  | cpu (u : TypeId) (x : AX)
  /-- where an own slice's elements begin -/
  | usd (x : AX)
  /-- the text whose bytes lie in an own row: the row is given up -/
  | ust (e : TypeId) (x n : AX)
  /-- a slice of an own array of one-cell elements: the array is frozen -/
  | sla (n : Nat) (x : AX) (lo hi : Option AX)
  /-- the text of a slice of bytes -/
  | sob (x : AX)
  /-- a string's bytes behind a slice of bytes -/
  | aps (e : TypeId) (bytes : Nat) (s x : AX)
  | enm (x : AX)
  | mdl (kd : Kd) (x i : AX)
  /-- the elements of an own slice become zero -/
  | clr (k : Nat) (z : AV) (x : AX)
  | lkp (kd : Kd) (c : Bool) (z : AV) (x i : AX)
  | mup (kd : Kd) (x i v : AX)
  | lnm (x : AX)
  | mkf (f : FuncId) (xs : List AX)
  | eqs (ng : Bool) (ks : List Kd) (x y : AX)
  | cpy (k : Nat) (d x : AX)
  | bad
structure AI where
  dst : Option Nat
  op : AOp
  guard : Option (Nat × Bool)
/-- A place in a row. -/
def rdA (k : Nat) (es : List AV) (i off : Nat) (agg : Bool) (n : Nat) : Option AV :=
  match es[i]? with
  | none => none
  | some e => if agg then (if off + n ≤ k then (if off = 0 ∧ n = k then some (.agg e.cells) else some (.agg ((e.cells.drop off).take n))) else none) else e.cells[off]?
def live (H : Hp) (i g : Nat) : Option OB :=
  match H[i]? with
  | some ob => if ob.g = g then (if (ob.e == 4000000000) = true then none else some ob) else none
  | none => none
/-- A row that is a map. -/
def liveM (H : Hp) (i g : Nat) : Option OB :=
  match H[i]? with
  | some ob => if ob.g = g then (if (ob.e == 4000000000 && Nat.ble 2 ob.k) = true then some ob else none) else none
  | none => none
/-- All but the last, and the last. -/
def unsn : List AV → Option (List AV × AV)
  | [] => none
  | [a] => some ([], a)
  | a :: b :: l => (match unsn (b :: l) with | some (x, y) => some (a :: x, y) | none => none)
def valA (ag : Bool) (vs : List AV) : Option AV := if ag = true then some (.agg vs) else (match vs with | [a] => some a | _ => none)
def valC (ag : Bool) : AV → Option (List AV)
  | .agg cs => if ag = true then some cs else none
  | a => if ag = true then none else some [a]
/-- A map's row: its clock, whether its values are structs, marks, the entries. -/
def rdH : List AV → Option (Int × Bool × List AV × List AV)
  | .agg (.v (.int .i64 c) :: .v (.bool ag) :: r) :: es => some (c, ag, r, es)
  | _ => none
/-- What a map has under a key. -/
def lkA (kd : Kd) (ag : Bool) (key : AV) : List AV → Option (Option AV)
  | [] => some none
  | .agg (k :: r) :: es =>
    match eqC kd key k with
    | some b => if b = true then (match unsn r with | some (vs, _) => (match valA ag vs with | some v => some (some v) | none => none) | none => none) else lkA kd ag key es
    | none => none
  | _ => none
/-- The entries with another value under a key; none within: there is none under it. -/
def ovA (kd : Kd) (key : AV) (vs : List AV) : List AV → Option (Option (List AV))
  | [] => some none
  | .agg (k :: r) :: es =>
    match eqC kd key k with
    | some b => if b = true then (match unsn r with | some (_, s) => some (some (.agg (key :: (vs ++ [s])) :: es)) | none => none) else (match ovA kd key vs es with | some (some es') => some (some (.agg (k :: r) :: es')) | some none => some none | none => none)
    | none => none
  | _ => none
def upA (kd : Kd) (key val : AV) (l : List AV) : Option (List AV) :=
  match rdH l with
  | some (c, ag, r, es) =>
    (match valC ag val with
     | some vs =>
       if vs.length = r.length then
         (match ovA kd key vs es with
          | some (some es') => some (.agg (.v (.int .i64 c) :: .v (.bool ag) :: r) :: es')
          | some none => some (.agg (.v (.int .i64 (c + 1)) :: .v (.bool ag) :: r) :: (es ++ [.agg (key :: (vs ++ [.v (.int .i64 c)]))]))
          | none => none)
       else none
     | none => none)
  | none => none
/-- The entries without a key. -/
def dlA (kd : Kd) (key : AV) : List AV → Option (List AV)
  | [] => some []
  | .agg (k :: r) :: es =>
    match eqC kd key k with
    | some b => if b = true then some es else (match dlA kd key es with | some es' => some (.agg (k :: r) :: es') | none => none)
    | none => none
  | _ => none
def lkpA (H : Hp) (kd : Kd) (c : Bool) (z x key : AV) : Option AV :=
  match x with
  | .mp i g =>
    (match liveM H i g with
     | some ob =>
       (match rdH ob.es with
        | some (_, ag, _, es) =>
          (match lkA kd ag key es with
           | some (some v) => some (if c = true then .tup [v, .v (.bool true)] else v)
           | some none => some (if c = true then .tup [z, .v (.bool false)] else z)
           | none => none)
        | none => none)
     | none => none)
  | .v (.map none) => some (if c = true then .tup [z, .v (.bool false)] else z)
  | _ => none
def isKey (kd : Kd) : AV → Bool
  | .v (.int _ _) => (match kd with | .i => true | _ => false)
  | .v (.string _) => (match kd with | .s => true | _ => false)
  | .v (.bool _) => (match kd with | .b => true | _ => false)
  | _ => false
def mupA (H : Hp) (kd : Kd) (x key val : AV) : Option Hp :=
  match x with
  | .mp i g =>
    (match liveM H i g with
     | some ob => if ob.fz = 0 ∧ isKey kd key = true ∧ (val.cells.all AV.one) = true then (match upA kd key val ob.es with | some es' => some (H.set i { ob with es := es' }) | none => none) else none
     | none => none)
  | _ => none
def lnmA (H : Hp) : AV → Option Nat
  | .mp i g => (match liveM H i g with | some ob => (match ob.es with | _ :: es => some es.length | [] => none) | none => none)
  | _ => none
def mdlA (H : Hp) (kd : Kd) (x key : AV) : Option Hp :=
  match x with
  | .mp i g =>
    (match liveM H i g with
     | some ob => if ob.fz = 0 then (match ob.es with | hd :: es => (match dlA kd key es with | some es' => some (H.set i { ob with es := hd :: es' }) | none => none) | [] => none) else none
     | none => none)
  | _ => none
def loadA (H : Hp) (agg : Bool) (n : Nat) : AV → Option AV
  | .ad k es i off => rdA k es i off agg n
  | .oa i g e off => (match live H i g with | some ob => rdA ob.k ob.es e off agg n | none => none)
  | _ => none
def wrA (old : AV) (off : Nat) (vs : List AV) : AV :=
  match old with
  | .agg cs => .agg (cs.take off ++ vs ++ cs.drop (off + vs.length))
  | _ => vs.headD .unk
def AV.fine : AV → Bool
  | .agg cs => cs.all AV.one
  | a => a.one
def storeA (H : Hp) (n : Nat) (p v : AV) : Option Hp :=
  match p with
  | .oa i g e off =>
    match live H i g with
    | some ob =>
      match ob.es[e]? with
      | some old => if ob.fz ≤ e ∧ off + n ≤ ob.k ∧ v.cells.length = n ∧ v.fine = true ∧ 0 < n then some (H.set i { ob with es := ob.es.set e (wrA old off v.cells) }) else none
      | none => none
    | none => none
  | _ => none
def isPtr (H : Hp) : AV → Bool
  | .ad .. => true
  | .oa i g _ _ => (live H i g).isSome
  | _ => false
def isNilPtr : AV → Bool
  | .v (.pointer none) => true
  | _ => false
/-- Surely the same own place. -/
def samePt (P : Program) (t : TypeId) (H : Hp) (a b : AV) : Bool :=
  isPtr H a && isPtr H b && (match P.underlying t with | some (.pointer e) => (P.info? e).isSome | _ => false) && (match a, b with | .oa i g e off, .oa i' g' e' off' => i == i' && g == g' && e == e' && off == off' | _, _ => false)
def binV (P : Program) (op : BinOp) (t : TypeId) (xo yo : Operand) (x y : Value) : Option Value := pureRun P (do eqGuard op t xo yo x y; binOp op t x y)
def isSliceT (P : Program) (t : TypeId) : Bool := match P.underlying t with | some (.slice _) => true | _ => false
/-- A slice that is not nil, surely. -/
def isRow (H : Hp) : AV → Bool
  | .ol i g _ => (live H i g).isSome
  | .sl _ es => !es.isEmpty
  | .em b _ => !b
  | _ => false
def isNl : AV → Bool
  | .nl _ => true
  | _ => false
/-- A slice that is nil, surely. -/
def isNi : AV → Bool
  | .nl _ => true
  | .em b _ => b
  | _ => false
def nilCmp (H : Hp) (op : BinOp) (a b : AV) : Option AV :=
  if ((isRow H a && isNl b) || (isRow H b && isNl a)) = true then
    (match op with
     | .eql => some (.v (.bool false))
     | .neq => some (.v (.bool true))
     | _ => none)
  else if ((isNi a && isNl b) || (isNi b && isNl a)) = true then
    (match op with
     | .eql => some (.v (.bool true))
     | .neq => some (.v (.bool false))
     | _ => none)
  else none
/-- A function that is not nil, surely. -/
def isFn (H : Hp) : AV → Bool
  | .fn _ _ => true
  | .bf _ i g _ _ => (live H i g).isSome
  | _ => false
def isNoFn : AV → Bool
  | .v .nilFunc => true
  | _ => false
def isFuncT (P : Program) (t : TypeId) : Bool := match P.underlying t with | some (.func ..) => true | _ => false
/-- An interface that is not nil, surely. -/
def isIf (H : Hp) : AV → Bool
  | .io _ i g _ _ => (live H i g).isSome
  | .ib _ _ i g _ _ => (live H i g).isSome
  | _ => false
def isNoIf : AV → Bool
  | .v .nilIface => true
  | _ => false
def isIfT (P : Program) (t : TypeId) : Bool := match P.underlying t with | some (.interface _) => true | _ => false
def ifCmp (H : Hp) (op : BinOp) (a b : AV) : Option AV :=
  if ((isIf H a && isNoIf b) || (isIf H b && isNoIf a)) = true then
    (match op with
     | .eql => some (.v (.bool false))
     | .neq => some (.v (.bool true))
     | _ => none)
  else none
def fnCmp (H : Hp) (op : BinOp) (a b : AV) : Option AV :=
  if ((isFn H a && isNoFn b) || (isFn H b && isNoFn a)) = true then
    (match op with
     | .eql => some (.v (.bool false))
     | .neq => some (.v (.bool true))
     | _ => none)
  else none
def binA (P : Program) (H : Hp) (op : BinOp) (t : TypeId) (pt : Bool) (xo yo : Operand) (a b : AV) : Option AV :=
  if pt = true then
    (match op with
     | .eql => if (isNilPtr a && isNilPtr b) = true then some (.v (.bool true)) else if ((isPtr H a && isNilPtr b) || (isPtr H b && isNilPtr a)) = true then some (.v (.bool false)) else if samePt P t H a b = true then some (.v (.bool true)) else none
     | .neq => if (isNilPtr a && isNilPtr b) = true then some (.v (.bool false)) else if ((isPtr H a && isNilPtr b) || (isPtr H b && isNilPtr a)) = true then some (.v (.bool true)) else if samePt P t H a b = true then some (.v (.bool false)) else none
     | _ => none)
  else
    match conc a, conc b with
    | some x, some y => (match binV P op t xo yo x y with | some v => ofVal v | none => none)
    | _, _ => if isSliceT P t = true then nilCmp H op a b else if isFuncT P t = true then fnCmp H op a b else if isIfT P t = true then ifCmp H op a b else none
def ap1 (f : Value → Option Value) (a : AV) : Option AV :=
  match conc a with
  | some x => (match f x with | some v => ofVal v | none => none)
  | none => none
def ap2 (f : Value → Value → Option Value) (a b : AV) : Option AV :=
  match conc a, conc b with
  | some x, some y => (match f x y with | some v => ofVal v | none => none)
  | _, _ => none
def concs : List AV → Option (List Value)
  | [] => some []
  | a :: as => (match conc a, concs as with | some x, some xs => some (x :: xs) | _, _ => none)
def intA : AV → Option Int
  | .v (.int _ n) => some n
  | _ => none
def partA (agg : Bool) (off n : Nat) : AV → Option AV
  | .agg cs => if agg then (if off + n ≤ cs.length then some (.agg ((cs.drop off).take n)) else none) else cs[off]?
  | _ => none
def nilA (H : Hp) : AV → Option AV
  | .ad k es i off => some (.ad k es i off)
  | .oa i g e off => (match live H i g with | some _ => some (.oa i g e off) | none => none)
  | _ => none
def mk2A (nm : String) : AV → Option AV
  | .io t i g e off => some (.mf nm t i g e off)
  | _ => none
def mkbA (f : FuncId) : AV → Option AV
  | .oa i g e off => some (.bf f i g e off)
  | _ => none
/-- Is a method's receiver a pointer, by the table? -/
def nahF (P : Program) (t : Nat) (nm : String) : Bool :=
  match P.info? t with
  | some inf =>
    (match inf.methods.find? (·.name == nm) with
     | some m => decide (m.path = #[]) && (match m.func with | some (_, true) => true | _ => false)
     | none => false)
  | none => false
def nilB (P : Program) (H : Hp) : AV → Option AV
  | .mf nm t i g e off => (match live H i g with | some _ => if nahF P t nm = true then some (.mf nm t i g e off) else none | none => none)
  | a => nilA H a
def mkiA (t : Nat) : AV → Option AV
  | .oa i g e off => some (.io t i g e off)
  | .bf f i g e off => some (.ib t f i g e off)
  | _ => none
/-- Which method of a type is called. -/
def Mth (P : Program) (t : Nat) (nm : String) (f : FuncId) : Prop := ∀ (x : Value) (args : Array Value) (w : World), (callMethod (.iface t x) nm args).run P w = .ok (.enter f (#[x] ++ args)) w
def moveA (off : Nat) (H : Hp) : AV → Option AV
  | .ad k es i o => some (.ad k es i (o + off))
  | .oa i g e o => (match live H i g with | some _ => some (.oa i g e (o + off)) | none => none)
  | _ => none
def elemA (k : Nat) (H : Hp) (a : AV) (ix : Int) : Option AV :=
  match a with
  | .sl k' es => if k' = k ∧ 0 ≤ ix ∧ ix.toNat < es.length then some (.ad k es ix.toNat 0) else none
  | .ol i g n => (match live H i g with | some ob => if ob.k = k ∧ 0 ≤ ix ∧ ix.toNat < n then some (.oa i g ix.toNat 0) else none | none => none)
  | _ => none
/-- An own slice from a place on, to be copied into. -/
def sloA (k : Nat) (H : Hp) (a : AV) (ix : Int) : Option AV :=
  match a with
  | .ol i g n => (match live H i g with | some ob => if ob.k = k ∧ 0 ≤ ix ∧ ix.toNat ≤ n then some (.os i g ix.toNat n) else none | none => none)
  | _ => none
def lenA (H : Hp) : AV → Option Nat
  | .nl _ => some 0
  | .em _ _ => some 0
  | .sl _ es => some es.length
  | .ol _ _ n => some n
  | .oc _ _ n _ => some n
  | _ => none
def cut (k : Nat) (es : List AV) (lo hi : Int) : Option AV :=
  if 0 ≤ lo ∧ lo ≤ hi ∧ hi.toNat ≤ es.length then some (.sl k ((es.take hi.toNat).drop lo.toNat)) else none
def sliceA (k : Nat) (H : Hp) (a : AV) (lo hi : Option Int) : Option (AV × Hp) :=
  match a with
  | .sl k' es => if k' = k then (match cut k es (lo.getD 0) (hi.getD es.length) with | some r => some (r, H) | none => none) else none
  | .ol i g n =>
    if lo.getD 0 = 0 then (match live H i g with | some _ => if 0 ≤ hi.getD n ∧ (hi.getD n).toNat ≤ n then some (.ol i g (hi.getD n).toNat, H) else none | none => none)
    else (match purC H (.ol i g n) with
      | some (.sl k' es, H') => if k' = k then (match cut k es (lo.getD 0) (hi.getD es.length) with | some r => some (r, H') | none => none) else none
      | _ => none)
  | .nl k' => if k' = k ∧ lo.getD 0 = 0 ∧ hi.getD 0 = 0 then some (.nl k, H) else none
  | _ => none
/-- A slice of an own array. -/
def slaA (n : Nat) (H : Hp) (a : AV) (lo hi : Option Int) : Option (AV × Hp) :=
  match a with
  | .oa i g 0 0 =>
    match live H i g with
    | some ob =>
      match ob.es with
      | [.agg cs] => if ob.k = n ∧ cs.length = n ∧ ob.es.all AV.isP = true ∧ n ≤ maxLen ∧ 0 ≤ lo.getD 0 ∧ lo.getD 0 ≤ hi.getD n ∧ hi.getD n ≤ n then some (.sl 1 ((cs.take (hi.getD n).toNat).drop (lo.getD 0).toNat), H.set i { ob with fz := max ob.fz ob.es.length }) else none
      | _ => none
    | none => none
  | _ => none
def slaE (n : Nat) (H : Hp) (x : AV) (lo hi : Option (Option Int)) : Option (AV × Hp) :=
  match lo, hi with
  | some none, _ | _, some none => none
  | l, h => slaA n H x (l.bind id) (h.bind id)
def bytes8 : List AV → Option (List UInt8)
  | [] => some []
  | .v (.int .u8 z) :: l => if 0 ≤ z ∧ z < 256 then (match bytes8 l with | some b => some (UInt8.ofNat z.toNat :: b) | none => none) else none
  | _ => none
def usdA (H : Hp) (x : AV) : Option AV :=
  match x with
  | .ol i g n =>
    match live H i g with
    | some ob => if 0 < n then some (.oa i g 0 0) else none
    | none => none
  | .nl _ => some (.v (.pointer none))
  | _ => none
def ustA (e : TypeId) (H : Hp) (x n : AV) : Option (AV × Hp) :=
  match n with
  | .v (.int .i64 m) =>
    match x with
    | .v (.pointer none) => if m = 0 then some (.v (.string .empty), H) else none
    | .oa i g 0 0 =>
      match live H i g with
      | some ob => if ob.k = 1 ∧ ob.e = e ∧ ob.fz = 0 ∧ 0 < m ∧ m.toNat ≤ ob.es.length ∧ m ≤ 9223372036854775807 then (match bytes8 (ob.es.take m.toNat) with | some bs => some (.v (.string ⟨bs.toArray⟩), H.set i ⟨mapE, 0, [], g + 1, 0⟩) | none => none) else none
      | none => none
    | _ => none
  | _ => none
def cupA (H : Hp) (x : AV) : Option AV :=
  match x with
  | .v (.pointer none) => some (.v (.pointer none))
  | .oa i g e off =>
    match live H i g with
    | some ob => if e < ob.es.length ∧ off < ob.k then some (.oa i g e off) else none
    | none => none
  | _ => none
def cpuA (P : Program) (u : TypeId) (H : Hp) (x : AV) : Option AV :=
  match x with
  | .v (.pointer none) => some (.v (.pointer none))
  | .oa i g 0 0 =>
    match live H i g with
    | some ob => if ob.e = u ∧ 0 < ob.es.length ∧ 0 < ob.k ∧ P.cellsOf u = ob.k then some (.oa i g 0 0) else none
    | none => none
  | _ => none
/-- The elements that are appended. -/
def srcA (H : Hp) (k : Nat) : AV → Option (List AV × Hp)
  | .nl _ => some ([], H)
  | .em _ _ => some ([], H)
  | .sl k' es => if k' = k then some (es, H) else none
  | .ol i g n => (match live H i g with | some ob => if ob.k = k ∧ n ≤ ob.es.length then some (ob.es.take n, H) else none | none => none)
  | _ => none
def appA (e : TypeId) (k bytes : Nat) (H : Hp) (s x : AV) : Option (AV × Hp) :=
  match srcA H k x with
  | some (news, _) =>
    match s with
    | .nl _ => if news = [] then some (.nl k, H) else if news.length * bytes ≤ 140737488355328 ∧ news.length ≤ maxLen then some (.ol H.length 0 news.length, H ++ [⟨e, k, news, 0, 0⟩]) else none
    | .oc i g n c =>
      match live H i g with
      | some ob => if ob.k = k ∧ ob.e = e ∧ ob.fz ≤ n ∧ n ≤ ob.es.length ∧ (n + news.length) * bytes ≤ 140737488355328 ∧ n + news.length ≤ maxLen then (if n + news.length ≤ c then some (.ol i g (n + news.length), H.set i ⟨e, k, ob.es.take n ++ news, g, ob.fz⟩) else some (.ol H.length 0 (n + news.length), H ++ [⟨e, k, ob.es.take n ++ news, 0, 0⟩])) else none
      | none => none
    | .ol i g n =>
      match live H i g with
      | some ob => if ob.k = k ∧ ob.e = e ∧ ob.fz ≤ n ∧ n ≤ ob.es.length ∧ (n + news.length) * bytes ≤ 140737488355328 ∧ n + news.length ≤ maxLen then some (.ol i (g + 1) (n + news.length), H.set i ⟨e, k, ob.es.take n ++ news, g + 1, ob.fz⟩) else none
      | none => none
    | _ => none
  | none => none
/-- A string's bytes as elements. -/
def bytesA (b : ByteArray) : List AV := b.data.toList.map fun u => .v (.int .u8 (u.toNat : Int))
theorem bytesA_len (b : ByteArray) : (bytesA b).length = b.size := by
  unfold bytesA
  rw [List.length_map, Array.length_toList]
  rfl
def apsA (e : TypeId) (bytes : Nat) (H : Hp) (s x : AV) : Option (AV × Hp) :=
  match x with
  | .v (.string b) =>
    match s with
    | .nl _ => if b.size = 0 then some (.nl 1, H) else if b.size * bytes ≤ 140737488355328 ∧ b.size ≤ maxLen then some (.ol H.length 0 b.size, H ++ [⟨e, 1, bytesA b, 0, 0⟩]) else none
    | .ol i g n =>
      match live H i g with
      | some ob => if ob.k = 1 ∧ ob.e = e ∧ ob.fz ≤ n ∧ n ≤ ob.es.length ∧ (n + b.size) * bytes ≤ 140737488355328 ∧ n + b.size ≤ maxLen then some (.ol i (g + 1) (n + b.size), H.set i ⟨e, 1, ob.es.take n ++ bytesA b, g + 1, ob.fz⟩) else none
      | none => none
    | _ => none
  | _ => none
def numsA : List AV → Option (List Int)
  | [] => some []
  | .v (.int .u8 z) :: l => (match numsA l with | some zs => some (z :: zs) | none => none)
  | _ => none
def strN (ns : List Int) : ByteArray := ns.foldl (fun r n => r.push (UInt8.ofNat n.toNat)) ByteArray.empty
def sobA (H : Hp) (x : AV) : Option AV :=
  match srcA H 1 x with
  | some (news, _) => (match numsA news with | some ns => some (.v (.string (strN ns))) | none => none)
  | none => none
def fillA (cells : List AV) : List (Nat × Nat × AV) → Option (List AV)
  | [] => some cells
  | (off, n, v) :: rest => if v.cells.length = n ∧ off + n ≤ cells.length ∧ v.fine = true then fillA (cells.take off ++ v.cells ++ cells.drop (off + n)) rest else none
/-- Which function a value calls, and what it holds. -/
def fnA : AV → Option (FuncId × List AV)
  | .fn f cs => some (f, cs)
  | .v (.func (.func f) a b) => if a.size = 0 ∧ b.size = 0 then some (f, []) else none
  | _ => none
/-- What an interface holds. -/
def recvA (H : Hp) : AV → Option (Nat × AV)
  | .io t i g e off => (match live H i g with | some _ => some (t, .oa i g e off) | none => none)
  | .ib t f i g e off => (match live H i g with | some _ => some (t, .bf f i g e off) | none => none)
  | _ => none
/-- Which function a value calls, and with what, when it is called with as. -/
def cvA (H : Hp) (a : AV) (as : List AV) : Option (FuncId × List AV) :=
  match a with
  | .bf f i g e off => (match live H i g with | some _ => some (f, .oa i g e off :: as) | none => none)
  | a => (match fnA a with | some (f, cs) => some (f, as ++ cs) | none => none)
theorem cvA_of {H : Hp} {a : AV} {as cs : List AV} {f : FuncId} (h : fnA a = some (f, cs)) : cvA H a as = some (f, as ++ cs) := by
  cases a <;> first | (simp only [cvA, h]; done) | cases h
theorem fnA_fn {f : FuncId} {cs : List AV} : fnA (.fn f cs) = some (f, cs) := rfl
theorem fnA_v {f : FuncId} : fnA (.v (.func (.func f) #[] #[])) = some (f, []) := rfl
def cpyA (k : Nat) (H : Hp) (d x : AV) : Option (AV × Hp) :=
  match srcA H k x with
  | some (news, _) =>
    match d with
    | .ol i g n =>
      match live H i g with
      | some ob => if ob.k = k ∧ ob.fz = 0 ∧ n ≤ ob.es.length then some (.v (.int .i64 (min news.length n : Nat)), H.set i { ob with es := news.take (min news.length n) ++ ob.es.drop (min news.length n) }) else none
      | none => none
    | .os i g lo n =>
      match live H i g with
      | some ob => if ob.k = k ∧ ob.fz = 0 ∧ lo ≤ n ∧ n ≤ ob.es.length then some (.v (.int .i64 (min news.length (n - lo) : Nat)), H.set i { ob with es := ob.es.take lo ++ (news.take (min news.length (n - lo)) ++ ob.es.drop (lo + min news.length (n - lo))) }) else none
      | none => none
    | .sl _ [] => some (.v (.int .i64 0), H)
    | _ => none
  | none => none
def clrA (k : Nat) (z : AV) (H : Hp) : AV → Option Hp
  | .ol i g n =>
    (match live H i g with
     | some ob => if ob.k = k ∧ ob.fz = 0 ∧ 0 < n ∧ n ≤ ob.es.length then some (H.set i { ob with es := List.replicate n z ++ ob.es.drop n }) else none
     | none => none)
  | .nl _ => some H
  | .sl _ [] => some H
  | _ => none
def rgmA (H : Hp) : AV → Option (AV × Hp)
  | .mp i g => (match liveM H i g with
    | some ob => (match rdH ob.es with | some (c, _, _, _) => some (.oa H.length 0 0 0, H ++ [⟨mapE, 1, [.mp i g, .v (.int .i64 c), .v (.int .i64 c)], 0, 0⟩]) | none => none)
    | none => none)
  | _ => none
def seenA : List AV → Option (List Int)
  | [] => some []
  | .v (.int .i64 s) :: l => (match seenA l with | some l' => some (s :: l') | none => none)
  | _ => none
/-- The entries that an iterator has not come to: key, value, stamp. -/
def nxE (ag : Bool) (since : Int) (seen : List Int) : List AV → Option (List (AV × AV × Int))
  | [] => some []
  | .agg (k :: r) :: es =>
    (match unsn r, nxE ag since seen es with
     | some (vs, .v (.int .i64 s)), some l => if s < since then (if seen.contains s = true then some l else (match valA ag vs with | some v => some ((k, v, s) :: l) | none => none)) else none
     | _, _ => none)
  | _ => none
/-- What an iterator's step may come to. -/
def nxmA (H : Hp) : AV → Option (List (AV × Hp))
  | .oa i g 0 0 =>
    (match H[i]? with
     | some ob =>
       if ob.g = g ∧ ob.e = mapE ∧ ob.k = 1 ∧ ob.fz = 0 then
         (match ob.es with
          | .mp j g' :: .v (.int .i64 since) :: .v (.int .i64 last) :: sl =>
            (match liveM H j g', seenA sl with
             | some o2, some seen =>
               (match rdH o2.es with
                | some (c, ag, _, es) =>
                  if since ≤ last then
                    (match nxE ag since seen es with
                     | some [] => some [(.tup [.v (.bool false)], H)]
                     | some l => some (l.map fun p => (.tup [.v (.bool true), p.1, p.2.1], H.set i { ob with es := .mp j g' :: .v (.int .i64 since) :: .v (.int .i64 c) :: (sl ++ [.v (.int .i64 p.2.2)]) }))
                     | none => none)
                  else none
                | none => none)
             | _, _ => none)
          | _ => none)
       else none
     | none => none)
  | _ => none
def fdE (ag : Bool) (s : Int) : List AV → Option AV
  | [] => none
  | .agg (k :: r) :: es =>
    (match unsn r with
     | some (vs, .v (.int .i64 s')) => if s' = s then (match valA ag vs with | some v => some (.tup [k, v]) | none => none) else fdE ag s es
     | _ => none)
  | _ => none
/-- The entry to which an iterator has come. -/
def entA (H : Hp) : AV → Option AV
  | .oa i g 0 0 =>
    (match H[i]? with
     | some ob =>
       if ob.g = g ∧ ob.e = mapE ∧ ob.k = 1 then
         (match ob.es with
          | .mp j g' :: _ :: .v (.int .i64 last) :: sl =>
            (match liveM H j g', unsn sl with
             | some o2, some (_, .v (.int .i64 s)) =>
               (match rdH o2.es with
                | some (c, ag, _, es) => if c = last then fdE ag s es else none
                | none => none)
             | _, _ => none)
          | _ => none)
       else none
     | none => none)
  | _ => none
/-- What an operation comes to. -/
def eff (P : Program) (ev : AX → AV) (H : Hp) : AOp → Option (AV × Hp)
  | .mv x => some (ev x, H)
  | .bin op t pt xo yo x y => (binA P H op t pt xo yo (ev x) (ev y)).map (·, H)
  | .un op x => (ap1 (fun v => pureRun P (Op.unary op v)) (ev x)).map (·, H)
  | .cv s d x => (ap1 (fun v => pureRun P (convert s d v)) (ev x)).map (·, H)
  | .pick c a b => (match ev c with | .v (.bool b') => some (if b' then ev a else ev b, H) | _ => none)
  | .ext x i => (match ev x with | .tup cs => (cs[i]?).map (·, H) | _ => none)
  | .new e k x => if (ev x).cells.length = k ∧ (ev x).fine = true then some (.oa H.length 0 0 0, H ++ [⟨e, k, [ev x], 0, 0⟩]) else none
  | .bld z parts => (fillA z (parts.map fun p => (p.1, p.2.1, ev p.2.2))).map (fun cs => (.agg cs, H))
  | .bsl e k xs => if (xs.map ev).all (fun a => a.cells.length = k && a.fine) && xs.length * k ≤ 16777216 && xs.length ≤ 16777216 then some (.ol H.length 0 xs.length, H ++ [⟨e, k, xs.map ev, 0, 0⟩]) else none
  | .load agg n x => (loadA H agg n (ev x)).map (·, H)
  | .store n x v => (storeA H n (ev x) (ev v)).map (.tup [], ·)
  | .nilc x => (nilB P H (ev x)).map (·, H)
  | .fad off x => (moveA off H (ev x)).map (·, H)
  | .fld agg off n x => (partA agg off n (ev x)).map (·, H)
  | .iad k x i => (match intA (ev i) with | some ix => (elemA k H (ev x) ix).map (·, H) | none => none)
  | .slo k x i => (match intA (ev i) with | some ix => (sloA k H (ev x) ix).map (·, H) | none => none)
  | .iaa len k x i => (match intA (ev i) with | some ix => if 0 ≤ ix ∧ ix.toNat < len then (moveA (ix.toNat * k) H (ev x)).map (·, H) else none | none => none)
  | .idx t x i => (ap2 (fun v j => pureRun P (Instr.index t v j)) (ev x) (ev i)).map (·, H)
  | .ixa agg len k x i => (match intA (ev i) with | some ix => if 0 ≤ ix ∧ ix.toNat < len then (partA agg (ix.toNat * k) k (ev x)).map (·, H) else none | none => none)
  | .sls t x lo hi =>
    (match ev x with
     | .v (.string s) =>
       (match (lo.map ev).map conc, (hi.map ev).map conc with
        | some none, _ | _, some none => none
        | l, h => (match pureRun P (Instr.sliceAt t (.string s) (l.bind id) (h.bind id) none) with | some v => (ofVal v).map (·, H) | none => none))
     | _ => none)
  | .slc k x lo hi =>
    (match (lo.map ev).map intA, (hi.map ev).map intA with
     | some none, _ | _, some none => none
     | l, h => sliceA k H (ev x) (l.bind id) (h.bind id))
  | .mks e k bytes z len cap =>
    (match intA (ev len), intA (ev cap) with
     | some l, some c => if 0 ≤ l ∧ l ≤ c ∧ c.toNat * bytes ≤ 140737488355328 ∧ c.toNat ≤ maxLen then some (.ol H.length 0 l.toNat, H ++ [⟨e, k, List.replicate l.toNat z, 0, 0⟩]) else none
     | _, _ => none)
  | .app e k bytes s x => appA e k bytes H (ev s) (ev x)
  | .apf e k bytes s x => appA e k bytes H (ev s) (ev x)
  | .apz e k bytes z s n =>
    (match ev s, intA (ev n) with
     | .nl _, some m => if 0 < m ∧ m.toNat * bytes ≤ 140737488355328 ∧ m.toNat ≤ maxLen then some (.ol H.length 0 m.toNat, H ++ [⟨e, k, List.replicate m.toNat z, 0, 0⟩]) else none
     | _, _ => none)
  | .lns x => (match ev x with | .v (.string s) => some (.v (.int .i64 s.size), H) | _ => none)
  | .cpy k d x => cpyA k H (ev d) (ev x)
  | .len x => (match lenA H (ev x) with | some n => some (.v (.int .i64 (n : Int)), H) | none => none)
  | .bi b ats ty cs xs => (match concs (xs.map ev) with | some vs => (match pureRun P (builtin b ats ty cs vs.toArray) with | some (.value v) => (ofVal v).map (·, H) | _ => none) | none => none)
  | .mkf f xs => some (.fn f (xs.map ev), H)
  | .eqs ng ks x y => (eqsA ng ks (ev x) (ev y)).map (·, H)
  | .mki t x => (mkiA t (ev x)).map (·, H)
  | .mkm2 nm x => (mk2A nm (ev x)).map (·, H)
  | .mkb f x => (mkbA f (ev x)).map (·, H)
  | .mkm ag m => some (.mp H.length 0, H ++ [⟨mapE, m + 2, [.agg (.v (.int .i64 0) :: .v (.bool ag) :: List.replicate m (.v (.bool false)))], 0, 0⟩])
  | .rgm x => rgmA H (ev x)
  | .cup x => (cupA H (ev x)).map (·, H)
  | .cpu u x => (cpuA P u H (ev x)).map (·, H)
  | .usd x => (usdA H (ev x)).map (·, H)
  | .ust e x n => ustA e H (ev x) (ev n)
  | .sla n x lo hi => slaE n H (ev x) ((lo.map ev).map intA) ((hi.map ev).map intA)
  | .sob x => (sobA H (ev x)).map (·, H)
  | .aps e bytes s x => apsA e bytes H (ev s) (ev x)
  | .clr k z x => (clrA k z H (ev x)).map (.tup [], ·)
  | .nxm x => (match nxmA H (ev x) with | some [p] => some p | _ => none)
  | .enm x => (entA H (ev x)).map (·, H)
  | .mdl kd x i => (mdlA H kd (ev x) (ev i)).map (.tup [], ·)
  | .lkp kd c z x i => (lkpA H kd c z (ev x) (ev i)).map (·, H)
  | .mup kd x i v => (mupA H kd (ev x) (ev i) (ev v)).map (.tup [], ·)
  | .lnm x => (match lnmA H (ev x) with | some n => some (.v (.int .i64 (n : Int)), H) | none => none)
  | .call .. | .callh .. | .callm .. | .callv .. | .calli .. | .bad => none
end Go.Proofs.YtgcnbbjapapnjaaDoor.Sim
