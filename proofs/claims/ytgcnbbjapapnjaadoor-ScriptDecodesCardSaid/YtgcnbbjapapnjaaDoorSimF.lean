/- A program's operations as operations on plain values, and that each does the same. -/
import Derived.Test.YtgcnbbjapapnjaaDoorSimE
import Derived.Laws.Tables
namespace Go.Proofs.YtgcnbbjapapnjaaDoor.Sim
open Go.RowKit
set_option linter.unusedVariables false
set_option linter.unusedSimpArgs false
def copParts (P : Program) (fs : Array Field) : List (Nat × Operand) → Option (List (Nat × Nat × AX))
  | [] => some []
  | (i, x) :: rest =>
    match fs[i]? with
    | some f =>
      match P.info? f.type, cx P f.type x, copParts P fs rest with
      | some fi, some a, some qs => some ((f.offset, fi.size, a) :: qs)
      | _, _, _ => none
    | none => none
def copRow (P : Program) (e : TypeId) : Nat → List (Nat × Operand) → Option (List AX)
  | _, [] => some []
  | s, (i, x) :: rest =>
    if i = s then
      match cx P e x, copRow P e (s + 1) rest with
      | some a, some as => some (a :: as)
      | _, _ => none
    else none
def cxo (P : Program) (t : TypeId) : Option Operand → Option (Option AX)
  | none => some none
  | some x => (match cx P t x with | some a => some (some a) | none => none)
/-- A function without a body that gives back its argument. -/
def isNoEsc (P : Program) (f : FuncId) : Bool :=
  match P.funcs[f]? with
  | some fn => fn.body.isNone && fn.name == "internal/abi.NoEscape" && (Extern.findNext fn).isNone
  | none => false
theorem noEsc_run {P : Program} {f : FuncId} (h : isNoEsc P f = true) (v : Value) (w : World) : (callFunc f #[v]).run P w = .ok (.value v) w := by
  unfold isNoEsc at h
  split at h
  · rename_i fn hf
    simp only [Bool.and_eq_true, beq_iff_eq] at h
    obtain ⟨⟨h1, h2⟩, h3⟩ := h
    have he : Extern.find fn = some Extern.AbiNoEscape.same := by
      unfold Extern.find
      rw [h2]
      rfl
    rw [run_callFunc_extern hf (by rw [h2]; rfl) h1 (Option.isNone_iff_eq_none.1 h3) he]
    rfl
  · cases h
def hasBody (P : Program) (f : FuncId) : Bool :=
  match P.funcs[f]? with
  | some fn => fn.body.isSome && fn.name != "runtime.NumGoroutine"
  | none => false
def Ok1 (α : Type) := Option α
/-- What is known of a type, that is no mark. -/
def infoE (P : Program) (e : TypeId) : Option TypeInfo := if (e == 4000000000) = true then none else P.info? e
theorem infoE_ok {P : Program} {e : TypeId} {i : TypeInfo} (h : infoE P e = some i) : e ≠ mapE ∧ P.info? e = some i := by
  unfold infoE at h
  split at h
  · cases h
  · rename_i hn; exact ⟨by simpa using hn, h⟩
/-- A type's zero value. -/
def zvO (P : Program) (e : TypeId) : Option AV := match P.info? e with | some inf => (match inf.zero with | some z => avVal P e z | none => none) | none => none
/-- The operation, where it is one of those that are served; the calls of hs may change what is handed to them. -/
def copOp (P : Program) (hs : List FuncId) (o : Oper) : Option AOp :=
  match o.op with
  | .move x | .assign x => (match cx P o.type x with | some a => some (.mv a) | none => none)
  | .pick c a b => (match cx P 0 c, cx P o.type a, cx P o.type b with | some c, some a, some b => some (.pick c a b) | _, _, _ => none)
  | .alloc e => (match infoE P e with | some i => (match i.zero with | some z => (match avVal P e z with | some a => some (.new e i.size (.c a)) | none => none) | none => none) | none => none)
  | .box e x => (match infoE P e, cx P e x with | some i, some a => some (.new e i.size a) | _, _ => none)
  | .build t parts =>
    (match P.underlying t, P.info? t with
     | some (.struct fs), some i =>
       (match i.zero with
        | some z => (match avVal P t z, copParts P fs parts.toList, fs.toList.mapM (fun f => (P.info? f.type).map fun i => (f.offset, i.size)) with | some (.agg zc), some qs, some _ => some (.bld zc qs) | _, _, _ => none)
        | none => none)
     | _, _ => none)
  | .buildSlice t len parts =>
    (match P.underlying t with
     | some (.slice e) =>
       (match infoE P e, copRow P e 0 parts.toList with
        | some i, some as => (match i.zero with | some _ => if len = parts.size then some (.bsl e i.size as) else none | none => none)
        | _, _ => none)
     | _ => none)
  | .load t x => (match P.info? t, P.underlying t, cx P 0 x with | some i, some d, some a => some (.load (isAggD d) i.size a) | _, _, _ => none)
  | .store t x v => (match P.info? t, cx P 0 x, cx P t v with | some i, some a, some b => some (.store i.size a b) | _, _, _ => none)
  | .nilCheck x => (match cx P 0 x with | some a => some (.nilc a) | none => none)
  | .binOp op t x y u => (match cx P t x, cx P u y with | some a, some b => (match eqNeg op, eqOf P t with | some ng, some ks => some (.eqs ng ks a b) | _, _ => some (.bin op t (match P.underlying t with | some (.pointer _) => true | _ => false) x y a b)) | _, _ => none)
  | .unOp op t x => (match cx P t x with | some a => some (.un op a) | none => none)
  | .convert s d x =>
    (match P.underlying s, P.underlying d with
     | some (.slice e), some .string => (match P.underlying e with | some (.int .u8) => (match cx P s x with | some a => some (.sob a) | none => none) | _ => none)
     | some (.pointer t), some .unsafePointer => (match P.info? t, cx P s x with | some j, some a => if j.size ≠ 0 then some (.cup a) else none | _, _ => none)
     | some .unsafePointer, some (.pointer u) => (match P.info? u, cx P s x with | some _, some a => some (.cpu u a) | _, _ => none)
     | _, _ => (match cx P s x with | some a => some (.cv s d a) | none => none))
  | .makeSlice t l c =>
    (match P.underlying t with
     | some (.slice e) =>
       (match infoE P e, cx P 0 l, cx P 0 c with
        | some i, some l, some c => (match i.zero with | some z => (match avVal P e z with | some za => if za.cells.length = i.size ∧ za.fine = true then some (.mks e i.size i.bytes za l c) else none | none => none) | none => none)
        | _, _, _ => none)
     | _ => none)
  | .slice t x lo hi none =>
    (match P.underlying t with
     | some .string => (match cx P t x, cxo P 0 lo, cxo P 0 hi with | some a, some l, some h => some (.sls t a l h) | _, _, _ => none)
     | some (.slice e) => (match P.info? e, cx P t x, cxo P 0 lo, cxo P 0 hi with | some i, some a, some l, some h => some (.slc i.size a l h) | _, _, _, _ => none)
     | some (.array n e) => (match P.info? e, cx P 0 x, cxo P 0 lo, cxo P 0 hi with | some i, some a, some l, some h => if i.size = 1 then some (.sla n a l h) else none | _, _, _, _ => none)
     | _ => none)
  | .fieldAddr s x f =>
    (match P.underlying s with
     | some (.struct fs) => (match fs[f]? with | some fd => (match P.info? fd.type, cx P 0 x with | some fi, some a => if fi.size = 0 then none else some (.fad fd.offset a) | _, _ => none) | none => none)
     | _ => none)
  | .field t x f =>
    (match P.underlying t with
     | some (.struct fs) => (match fs[f]? with | some fd => (match P.info? fd.type, P.underlying fd.type, cx P t x with | some fi, some d, some a => some (.fld (isAggD d) fd.offset fi.size a) | _, _, _ => none) | none => none)
     | _ => none)
  | .indexAddr t x i =>
    (match P.underlying t with
     | some (.slice e) => (match P.info? e, cx P t x, cx P 0 i with | some ei, some a, some b => some (.iad ei.size a b) | _, _, _ => none)
     | some (.array n e) => (match P.info? e, cx P 0 x, cx P 0 i with | some ei, some a, some b => some (.iaa n ei.size a b) | _, _, _ => none)
     | _ => none)
  | .index t x i =>
    (match P.underlying t with
     | some .string => (match cx P t x, cx P 0 i with | some a, some b => some (.idx t a b) | _, _ => none)
     | some (.array n e) => (match P.info? e, P.underlying e, cx P t x, cx P 0 i with | some ei, some d, some a, some b => some (.ixa (isAggD d) n ei.size a b) | _, _, _, _ => none)
     | _ => none)
  | .range t x => (match P.underlying t with | some (.map _ _) => (match cx P t x with | some a => some (.rgm a) | none => none) | _ => none)
  | .next x false => (match cx P 0 x with | some a => some (.nxm a) | none => none)
  | .makeMap t none => (match P.underlying t with | some (.map _ e) => (match zvO P e with | some (.agg cs) => some (.mkm true cs.length) | some _ => some (.mkm false 1) | none => none) | _ => none)
  | .entry x => (match cx P 0 x with | some a => some (.enm a) | none => none)
  | .lookup t x i c =>
    (match P.underlying t with
     | some (.map k e) =>
       (match kindOf P k, P.info? e, cx P t x, cx P k i with
        | some kd, some inf, some a, some b => (match inf.zero with | some z => (match avVal P e z with | some za => some (.lkp kd c za a b) | none => none) | none => none)
        | _, _, _, _ => none)
     | _ => none)
  | .mapUpdate t x i v =>
    (match P.underlying t with
     | some (.map k e) => (match kindOf P k, cx P t x, cx P k i, cx P e v with | some kd, some a, some b, some c => some (.mup kd a b c) | _, _, _, _ => none)
     | _ => none)
  | .makeInterface t x => (match P.underlying t with | some (.pointer _) => (match cx P 0 x with | some a => some (.mki t a) | none => none) | some (.func ..) => (match cx P 0 x with | some a => some (.mki t a) | none => none) | _ => none)
  | .makeFunc (.method nm) first cap => (match first.toList, cap.size with | [x], 0 => (match cx P 0 x with | some a => some (.mkm2 nm a) | none => none) | _, _ => none)
  | .extract x i => (match cx P 0 x with | some a => some (.ext a i) | none => none)
  | .makeFunc (.func f) first cap => if first.size = 0 then (match cxs P ((cap.toList.map fun _ => (0 : TypeId)).zip cap.toList) with | some as => some (.mkf f as) | none => none) else (match first.toList, cap.size with | [x], 0 => (match cx P 0 x with | some a => some (.mkb f a) | none => none) | _, _ => none)
  | .call c =>
    match c.callee with
    | .value (.tmp t) => (match cxs P (c.argTypes.toList.zip c.args.toList) with | some as => if c.argTypes.size = c.args.size then some (.callv (.t t) as) else none | none => none)
    | .value (.func f) => if hasBody P f then (match cxs P (c.argTypes.toList.zip c.args.toList) with | some as => if c.argTypes.size = c.args.size then some (if hs.contains f then .callh f as else if hs.contains (f + 1000000) then .callm f as else .call f as) else none | none => none)
      else if isNoEsc P f then (match c.argTypes.toList, c.args.toList with | [t], [x] => (match cx P t x with | some a => some (.mv a) | none => none) | _, _ => none) else none
    | .builtin .append =>
      (match c.argTypes.toList, c.args.toList with
       | [t, u], [s, x] =>
         if t = u then
           (match P.underlying t with
            | some (.slice e) => (match infoE P e, cx P t s, cx P t x with | some i, some a, some b => (match i.zero with | some z => if z.cells.size = i.size ∧ 0 < i.size then some (.app e i.size i.bytes a b) else none | none => none) | _, _, _ => none)
            | _ => none)
         else
           (match P.underlying t, P.underlying u with
            | some (.slice e), some (.int _) => (match infoE P e, cx P t s, cx P u x with | some i, some a, some b => (match i.zero with | some z => (match avVal P e z with | some za => if za.cells.length = i.size ∧ za.fine = true ∧ 0 < i.size then some (.apz e i.size i.bytes za a b) else none | none => none) | none => none) | _, _, _ => none)
            | some (.slice e), some .string => (match infoE P e, cx P t s, cx P u x with | some i, some a, some b => (match i.zero with | some z => if z.cells.size = 1 ∧ i.size = 1 then some (.aps e i.bytes a b) else none | none => none) | _, _, _ => none)
            | _, _ => none)
       | _, _ => none)
    | .builtin .copy =>
      (match c.argTypes.toList, c.args.toList with
       | [t, u], [d, x] =>
         if t = u then
           (match P.underlying t with
            | some (.slice e) => (match P.info? e, cx P t d, cx P t x with | some i, some a, some b => if 0 < i.size then some (.cpy i.size a b) else none | _, _, _ => none)
            | _ => none)
         else none
       | _, _ => none)
    | .builtin .unsafeSliceData =>
      (match c.argTypes.toList, c.args.toList with
       | [t], [x] => (match cx P t x with | some a => some (.usd a) | none => none)
       | _, _ => none)
    | .builtin .unsafeString =>
      (match c.argTypes.toList, c.args.toList with
       | [t, u], [x, n] =>
         (match P.underlying t with
          | some (.pointer e) => (match cx P t x, cx P u n with | some a, some b => if P.cellsOf e = 1 then some (.ust e a b) else none | _, _ => none)
          | _ => none)
       | _, _ => none)
    | .builtin .clear =>
      (match c.argTypes.toList, c.args.toList with
       | [t], [x] =>
         (match P.underlying t with
          | some (.slice e) => (match infoE P e, cx P t x with | some i, some a => (match i.zero with | some z => (match avVal P e z with | some za => if za.cells.length = i.size ∧ za.fine = true ∧ 0 < i.size then some (.clr i.size za a) else none | none => none) | none => none) | _, _ => none)
          | _ => none)
       | _, _ => none)
    | .builtin .delete =>
      (match c.argTypes.toList, c.args.toList with
       | [t, _], [x, i] =>
         (match P.underlying t with
          | some (.map k _) => (match kindOf P k, cx P t x, cx P k i with | some kd, some a, some b => some (.mdl kd a b) | _, _, _ => none)
          | _ => none)
       | _, _ => none)
    | .builtin .len =>
      (match c.argTypes.toList, c.args.toList with
       | [t], [x] => (match P.underlying t, cx P t x with | some .string, some a => some (.lns a) | some (.slice _), some a => some (.len a) | some (.map _ _), some a => some (.lnm a) | _, _ => none)
       | _, _ => none)
    | .builtin b => (match cxs P (c.argTypes.toList.zip c.args.toList) with | some as => if c.argTypes.size = c.args.size then some (.bi b c.argTypes o.type (c.args.map fun | .const _ => true | _ => false) as) else none | none => none)
    | .invoke rc nm => (match cx P 0 rc, cxs P (c.argTypes.toList.zip c.args.toList) with | some x, some as => if c.argTypes.size = c.args.size then some (.calli nm x as) else none | _, _ => none)
    | _ => none
  | _ => none
/-- An operation that is not served is never to be done. -/
def copOpB (P : Program) (hs : List FuncId) (o : Oper) : AOp := (copOp P hs o).getD .bad
/-- What the run of an operation comes to. -/
def Good (P : Program) (B : Bd) (w0 : World) (F0 F : Fz) (O : Ow) (w : World) (s : Sem Next) (r : AV) (H' : Hp) : Prop :=
  ∃ nx w', s.run P w = .ok nx w' ∧ ∃ x, (nx = .value x ∨ (nx = .skip ∧ x = undef)) ∧ Out B w0 F0 F O r H' x w'
section
variable {P : Program} {B : Bd} {w0 w : World} {F0 F : Fz} {O : Ow} {H : Hp}
theorem good_v {s : Sem Value} {x : Value} {w' : World} {r : AV} {H' : Hp} (h : s.run P w = .ok x w') (ho : Out B w0 F0 F O r H' x w') : Good P B w0 F0 F O w (do pure (.value (← s))) r H' :=
  ⟨.value x, w', by simp [h], x, .inl rfl, ho⟩
theorem ap1_ok {f : Value → Sem Value} (h : Own B w0 F0 F O H w) {x : Value} {a r : AV} (hx : VR F O x a) (he : ap1 (fun v => pureRun P (f v)) a = some r) : ∃ y, (f x).run P w = .ok y w ∧ VR F O y r := by
  unfold ap1 at he
  split at he
  · rename_i v hc
    obtain rfl := conc_ok hx hc
    split at he
    · rename_i u hu
      exact ⟨u, pureRun_ok _ hu w, ofVal_ok he⟩
    · cases he
  · cases he
theorem ap2_ok {f : Value → Value → Sem Value} (h : Own B w0 F0 F O H w) {x y : Value} {a b r : AV} (hx : VR F O x a) (hy : VR F O y b) (he : ap2 (fun v u => pureRun P (f v u)) a b = some r) : ∃ z, (f x y).run P w = .ok z w ∧ VR F O z r := by
  unfold ap2 at he
  split at he
  · rename_i v u hc hd
    obtain rfl := conc_ok hx hc
    obtain rfl := conc_ok hy hd
    split at he
    · rename_i u hu
      exact ⟨u, pureRun_ok _ hu w, ofVal_ok he⟩
    · cases he
  · cases he
theorem isPtr_ok (h : Own B w0 F0 F O H w) {x : Value} {a : AV} (hx : VR F O x a) (hp : isPtr H a = true) : ∃ ad, x = .pointer (some ad) := by
  cases a with
  | ad k es i off => have := hx.pvC rfl; cases this; exact ⟨_, rfl⟩
  | oa i g e off =>
    simp only [isPtr, Option.isSome_iff_exists] at hp
    obtain ⟨ob, hl⟩ := hp
    obtain ⟨d, _, _, _, rfl⟩ := h.oa hx hl
    exact ⟨_, rfl⟩
  | _ => cases hp
theorem isNil_ok {x : Value} {a : AV} (hx : VR F O x a) (hp : isNilPtr a = true) : x = .pointer none := by
  cases a with
  | v y =>
    have := hx.pvC rfl
    cases this
    cases x with
    | pointer q => cases q with
      | none => rfl
      | some q => cases hp
    | _ => cases hp
  | _ => cases hp
theorem eq_ptr {t e : TypeId} (ht : P.underlying t = some (.pointer e)) (ad : Addr) : (Op.equal t (.pointer (some ad)) (.pointer none)).run P w = .ok false w ∧ (Op.equal t (.pointer none) (.pointer (some ad))).run P w = .ok false w := by
  constructor
  · rw [show Op.equal t (.pointer (some ad)) (.pointer none) = Op.equalIn (9999 + 1) t (.pointer (some ad)) (.pointer none) from rfl, Op.equalIn]
    simp only [Sem.run_bind, run_underlying ht, Result.andThen_ok]
    rfl
  · rw [show Op.equal t (.pointer none) (.pointer (some ad)) = Op.equalIn (9999 + 1) t (.pointer none) (.pointer (some ad)) from rfl, Op.equalIn]
    simp only [Sem.run_bind, run_underlying ht, Result.andThen_ok]
    rfl
theorem bin_ptr {op : BinOp} {t e : TypeId} (ht : P.underlying t = some (.pointer e)) {xo yo : Operand} (ad : Addr) {x y : Value} (hxy : (x = .pointer (some ad) ∧ y = .pointer none) ∨ (y = .pointer (some ad) ∧ x = .pointer none)) :
    (do eqGuard .eql t xo yo x y; binOp .eql t x y : Sem Value).run P w = .ok (.bool false) w ∧ (do eqGuard .neq t xo yo x y; binOp .neq t x y : Sem Value).run P w = .ok (.bool true) w := by
  have h1 := (eq_ptr (P := P) (w := w) ht ad).1
  have h2 := (eq_ptr (P := P) (w := w) ht ad).2
  rcases hxy with ⟨rfl, rfl⟩ | ⟨rfl, rfl⟩
  · constructor
    · show (do eqGuard .eql t xo yo (.pointer (some ad)) (.pointer none); (do pure (.bool (← Op.equal t (.pointer (some ad)) (.pointer none))) : Sem Value) : Sem Value).run P w = _
      generalize Op.equal t (.pointer (some ad)) (.pointer none) = q at *
      simp [eqGuard, h1]
    · show (do eqGuard .neq t xo yo (.pointer (some ad)) (.pointer none); (do pure (.bool (!(← Op.equal t (.pointer (some ad)) (.pointer none)))) : Sem Value) : Sem Value).run P w = _
      generalize Op.equal t (.pointer (some ad)) (.pointer none) = q at *
      simp [eqGuard, h1]
  · constructor
    · show (do eqGuard .eql t xo yo (.pointer none) (.pointer (some ad)); (do pure (.bool (← Op.equal t (.pointer none) (.pointer (some ad)))) : Sem Value) : Sem Value).run P w = _
      generalize Op.equal t (.pointer none) (.pointer (some ad)) = q at *
      simp [eqGuard, h2]
    · show (do eqGuard .neq t xo yo (.pointer none) (.pointer (some ad)); (do pure (.bool (!(← Op.equal t (.pointer none) (.pointer (some ad))))) : Sem Value) : Sem Value).run P w = _
      generalize Op.equal t (.pointer none) (.pointer (some ad)) = q at *
      simp [eqGuard, h2]
theorem same_same {t e : TypeId} (ht : P.underlying t = some (.pointer e)) {i : TypeInfo} (hi : P.info? e = some i) (ad : Addr) {xo yo : Operand} :
    (do eqGuard .eql t xo yo (.pointer (some ad)) (.pointer (some ad)); binOp .eql t (.pointer (some ad)) (.pointer (some ad)) : Sem Value).run P w = .ok (.bool true) w ∧ (do eqGuard .neq t xo yo (.pointer (some ad)) (.pointer (some ad)); binOp .neq t (.pointer (some ad)) (.pointer (some ad)) : Sem Value).run P w = .ok (.bool false) w := by
  have h1 : (Op.equal t (.pointer (some ad)) (.pointer (some ad))).run P w = .ok true w := by
    rw [show Op.equal t (.pointer (some ad)) (.pointer (some ad)) = Op.equalIn (9999 + 1) t (.pointer (some ad)) (.pointer (some ad)) from rfl, Op.equalIn]
    simp only [Sem.run_bind, run_underlying ht, Result.andThen_ok]
    by_cases hz : i.size = 0 <;> simp [sizeOf, typeInfo, hi, hz, sameAddr]
  constructor
  · show (do eqGuard .eql t xo yo (.pointer (some ad)) (.pointer (some ad)); (do pure (.bool (← Op.equal t (.pointer (some ad)) (.pointer (some ad)))) : Sem Value) : Sem Value).run P w = _
    generalize Op.equal t (.pointer (some ad)) (.pointer (some ad)) = q at *
    simp [eqGuard, h1]
  · show (do eqGuard .neq t xo yo (.pointer (some ad)) (.pointer (some ad)); (do pure (.bool (!(← Op.equal t (.pointer (some ad)) (.pointer (some ad))))) : Sem Value) : Sem Value).run P w = _
    generalize Op.equal t (.pointer (some ad)) (.pointer (some ad)) = q at *
    simp [eqGuard, h1]
theorem nil_nil {t e : TypeId} (ht : P.underlying t = some (.pointer e)) {xo yo : Operand} :
    (do eqGuard .eql t xo yo (.pointer none) (.pointer none); binOp .eql t (.pointer none) (.pointer none) : Sem Value).run P w = .ok (.bool true) w ∧ (do eqGuard .neq t xo yo (.pointer none) (.pointer none); binOp .neq t (.pointer none) (.pointer none) : Sem Value).run P w = .ok (.bool false) w := by
  have h1 : (Op.equal t (.pointer none) (.pointer none)).run P w = .ok true w := by
    rw [show Op.equal t (.pointer none) (.pointer none) = Op.equalIn (9999 + 1) t (.pointer none) (.pointer none) from rfl, Op.equalIn]
    simp only [Sem.run_bind, run_underlying ht, Result.andThen_ok]
    rfl
  constructor
  · show (do eqGuard .eql t xo yo (.pointer none) (.pointer none); (do pure (.bool (← Op.equal t (.pointer none) (.pointer none))) : Sem Value) : Sem Value).run P w = _
    generalize Op.equal t (.pointer none) (.pointer none) = q at *
    simp [eqGuard, h1]
  · show (do eqGuard .neq t xo yo (.pointer none) (.pointer none); (do pure (.bool (!(← Op.equal t (.pointer none) (.pointer none)))) : Sem Value) : Sem Value).run P w = _
    generalize Op.equal t (.pointer none) (.pointer none) = q at *
    simp [eqGuard, h1]
theorem isRow_ok (h : Own B w0 F0 F O H w) {x : Value} {a : AV} (hx : VR F O x a) (hp : isRow H a = true) : ∃ ad n c, x = .slice (some ad) n c := by
  cases a with
  | ol i g n =>
    simp only [isRow, Option.isSome_iff_exists] at hp
    obtain ⟨ob, hl⟩ := hp
    obtain ⟨d, _, _, _, _, rfl⟩ := h.ol hx hl
    exact ⟨_, _, _, rfl⟩
  | sl k es =>
    have := hx.pvC rfl
    cases this with
    | sl A n cap _ _ hn hc hm hk h1 b o hA f hf hv =>
      have : 0 < es.length := by
        cases es with
        | nil => simp [isRow] at hp
        | cons _ _ => simp
      exact ⟨_, _, _, by rw [hA (by omega)]⟩
  | em b k =>
    cases hx with
    | p h => cases h
    | em A c b k hb hm =>
      simp only [isRow] at hp
      rw [hp] at hb
      obtain ⟨ad, rfl⟩ := Option.isSome_iff_exists.1 hb
      exact ⟨ad, 0, c, rfl⟩
  | _ => cases hp
theorem isNi_ok {x : Value} {a : AV} (hx : VR F O x a) (hp : isNi a = true) : ∃ c, x = .slice none 0 c := by
  cases a with
  | nl k => cases hx with
    | p h => cases h
    | nl => exact ⟨0, rfl⟩
  | em b k =>
    cases hx with
    | p h => cases h
    | em A c b k hb hm =>
      simp only [isNi] at hp
      subst hp
      cases A with
      | none => exact ⟨c, rfl⟩
      | some ad => simp at hb
  | _ => cases hp
theorem isNl_ok {x : Value} {a : AV} (hx : VR F O x a) (hp : isNl a = true) : x = .slice none 0 0 := by
  cases a with
  | nl k => cases hx with
    | p h => cases h
    | nl => rfl
  | _ => cases hp
theorem eq_sl {t e : TypeId} (ht : P.underlying t = some (.slice e)) (ad : Addr) (n c : Nat) : (Op.equal t (.slice (some ad) n c) (.slice none 0 0)).run P w = .ok false w ∧ (Op.equal t (.slice none 0 0) (.slice (some ad) n c)).run P w = .ok false w := by
  constructor
  · rw [show Op.equal t (.slice (some ad) n c) (.slice none 0 0) = Op.equalIn (9999 + 1) t (.slice (some ad) n c) (.slice none 0 0) from rfl, Op.equalIn]
    simp only [Sem.run_bind, run_underlying ht, Result.andThen_ok]
    rfl
  · rw [show Op.equal t (.slice none 0 0) (.slice (some ad) n c) = Op.equalIn (9999 + 1) t (.slice none 0 0) (.slice (some ad) n c) from rfl, Op.equalIn]
    simp only [Sem.run_bind, run_underlying ht, Result.andThen_ok]
    rfl
theorem bin_sl {t e : TypeId} (ht : P.underlying t = some (.slice e)) {xo yo : Operand} (ad : Addr) (n c : Nat) {x y : Value} (hxy : (x = .slice (some ad) n c ∧ y = .slice none 0 0) ∨ (y = .slice (some ad) n c ∧ x = .slice none 0 0)) :
    (do eqGuard .eql t xo yo x y; binOp .eql t x y : Sem Value).run P w = .ok (.bool false) w ∧ (do eqGuard .neq t xo yo x y; binOp .neq t x y : Sem Value).run P w = .ok (.bool true) w := by
  have h1 := (eq_sl (P := P) (w := w) ht ad n c).1
  have h2 := (eq_sl (P := P) (w := w) ht ad n c).2
  rcases hxy with ⟨rfl, rfl⟩ | ⟨rfl, rfl⟩
  · constructor
    · show (do eqGuard .eql t xo yo (.slice (some ad) n c) (.slice none 0 0); (do pure (.bool (← Op.equal t (.slice (some ad) n c) (.slice none 0 0))) : Sem Value) : Sem Value).run P w = _
      generalize Op.equal t (.slice (some ad) n c) (.slice none 0 0) = q at *
      simp [eqGuard, h1]
    · show (do eqGuard .neq t xo yo (.slice (some ad) n c) (.slice none 0 0); (do pure (.bool (!(← Op.equal t (.slice (some ad) n c) (.slice none 0 0)))) : Sem Value) : Sem Value).run P w = _
      generalize Op.equal t (.slice (some ad) n c) (.slice none 0 0) = q at *
      simp [eqGuard, h1]
  · constructor
    · show (do eqGuard .eql t xo yo (.slice none 0 0) (.slice (some ad) n c); (do pure (.bool (← Op.equal t (.slice none 0 0) (.slice (some ad) n c))) : Sem Value) : Sem Value).run P w = _
      generalize Op.equal t (.slice none 0 0) (.slice (some ad) n c) = q at *
      simp [eqGuard, h2]
    · show (do eqGuard .neq t xo yo (.slice none 0 0) (.slice (some ad) n c); (do pure (.bool (!(← Op.equal t (.slice none 0 0) (.slice (some ad) n c)))) : Sem Value) : Sem Value).run P w = _
      generalize Op.equal t (.slice none 0 0) (.slice (some ad) n c) = q at *
      simp [eqGuard, h2]
theorem bin_sn {op : BinOp} {t e : TypeId} (ht : P.underlying t = some (.slice e)) {xo yo : Operand} (c d : Nat) :
    (do eqGuard .eql t xo yo (.slice none 0 c) (.slice none 0 d); binOp .eql t (.slice none 0 c) (.slice none 0 d) : Sem Value).run P w = .ok (.bool true) w ∧
    (do eqGuard .neq t xo yo (.slice none 0 c) (.slice none 0 d); binOp .neq t (.slice none 0 c) (.slice none 0 d) : Sem Value).run P w = .ok (.bool false) w := by
  have h1 : (Op.equal t (.slice none 0 c) (.slice none 0 d)).run P w = .ok true w := by
    rw [show Op.equal t (.slice none 0 c) (.slice none 0 d) = Op.equalIn (9999 + 1) t (.slice none 0 c) (.slice none 0 d) from rfl, Op.equalIn]
    simp only [Sem.run_bind, run_underlying ht, Result.andThen_ok]
    rfl
  constructor
  · show (do eqGuard .eql t xo yo (.slice none 0 c) (.slice none 0 d); (do pure (.bool (← Op.equal t (.slice none 0 c) (.slice none 0 d))) : Sem Value) : Sem Value).run P w = _
    generalize Op.equal t (.slice none 0 c) (.slice none 0 d) = q at *
    simp [eqGuard, h1]
  · show (do eqGuard .neq t xo yo (.slice none 0 c) (.slice none 0 d); (do pure (.bool (!(← Op.equal t (.slice none 0 c) (.slice none 0 d)))) : Sem Value) : Sem Value).run P w = _
    generalize Op.equal t (.slice none 0 c) (.slice none 0 d) = q at *
    simp [eqGuard, h1]
theorem isFn_ok (h : Own B w0 F0 F O H w) {x : Value} {a : AV} (hx : VR F O x a) (hp : isFn H a = true) : ∃ f p q, x = .func f p q := by
  cases a with
  | fn f cs =>
    cases hx with
    | p h => cases h with
      | fn f xs as hl h => exact ⟨_, _, _, rfl⟩
    | fn f xs as hl h => exact ⟨_, _, _, rfl⟩
  | bf f i g e off =>
    simp only [isFn, Option.isSome_iff_exists] at hp
    obtain ⟨ob, hl⟩ := hp
    obtain ⟨y, e, _⟩ := h.bf hx hl
    exact ⟨_, _, _, e⟩
  | _ => cases hp
theorem isNoFn_ok {x : Value} {a : AV} (hx : VR F O x a) (hp : isNoFn a = true) : x = .nilFunc := by
  cases a with
  | v y =>
    have := hx.pvC rfl
    cases this
    cases x with
    | nilFunc => rfl
    | _ => cases hp
  | _ => cases hp
theorem bin_fn {op : BinOp} {t : TypeId} {ps rs : Array TypeId} {vd : Bool} (ht : P.underlying t = some (.func ps rs vd)) {xo yo : Operand} (f : Fn) (p q : Array Value) {x y : Value} (hxy : (x = .func f p q ∧ y = .nilFunc) ∨ (y = .func f p q ∧ x = .nilFunc)) :
    (do eqGuard .eql t xo yo x y; binOp .eql t x y : Sem Value).run P w = .ok (.bool false) w ∧ (do eqGuard .neq t xo yo x y; binOp .neq t x y : Sem Value).run P w = .ok (.bool true) w := by
  have h1 : (Op.equal t (.func f p q) .nilFunc).run P w = .ok false w := by
    rw [show Op.equal t (.func f p q) .nilFunc = Op.equalIn (9999 + 1) t (.func f p q) .nilFunc from rfl, Op.equalIn]
    simp only [Sem.run_bind, run_underlying ht, Result.andThen_ok]
    rfl
  have h2 : (Op.equal t .nilFunc (.func f p q)).run P w = .ok false w := by
    rw [show Op.equal t .nilFunc (.func f p q) = Op.equalIn (9999 + 1) t .nilFunc (.func f p q) from rfl, Op.equalIn]
    simp only [Sem.run_bind, run_underlying ht, Result.andThen_ok]
    rfl
  rcases hxy with ⟨rfl, rfl⟩ | ⟨rfl, rfl⟩
  · constructor
    · show (do eqGuard .eql t xo yo (.func f p q) .nilFunc; (do pure (.bool (← Op.equal t (.func f p q) .nilFunc)) : Sem Value) : Sem Value).run P w = _
      generalize Op.equal t (.func f p q) .nilFunc = r at *
      simp [eqGuard, h1]
    · show (do eqGuard .neq t xo yo (.func f p q) .nilFunc; (do pure (.bool (!(← Op.equal t (.func f p q) .nilFunc))) : Sem Value) : Sem Value).run P w = _
      generalize Op.equal t (.func f p q) .nilFunc = r at *
      simp [eqGuard, h1]
  · constructor
    · show (do eqGuard .eql t xo yo .nilFunc (.func f p q); (do pure (.bool (← Op.equal t .nilFunc (.func f p q))) : Sem Value) : Sem Value).run P w = _
      generalize Op.equal t .nilFunc (.func f p q) = r at *
      simp [eqGuard, h2]
    · show (do eqGuard .neq t xo yo .nilFunc (.func f p q); (do pure (.bool (!(← Op.equal t .nilFunc (.func f p q)))) : Sem Value) : Sem Value).run P w = _
      generalize Op.equal t .nilFunc (.func f p q) = r at *
      simp [eqGuard, h2]
theorem isIf_ok (h : Own B w0 F0 F O H w) {x : Value} {a : AV} (hx : VR F O x a) (hp : isIf H a = true) : ∃ t y, x = .iface t y := by
  cases a with
  | io t i g e off =>
    simp only [isIf, Option.isSome_iff_exists] at hp
    obtain ⟨ob, hl⟩ := hp
    obtain ⟨y, e, _⟩ := h.io hx hl
    exact ⟨_, _, e⟩
  | ib t f i g e off =>
    simp only [isIf, Option.isSome_iff_exists] at hp
    obtain ⟨ob, hl⟩ := hp
    obtain ⟨y, e, _⟩ := h.ib hx hl
    exact ⟨_, _, e⟩
  | _ => cases hp
theorem isNoIf_ok {x : Value} {a : AV} (hx : VR F O x a) (hp : isNoIf a = true) : x = .nilIface := by
  cases a with
  | v y =>
    have := hx.pvC rfl
    cases this
    cases x with
    | nilIface => rfl
    | _ => cases hp
  | _ => cases hp
theorem bin_if {op : BinOp} {t : TypeId} {ms} (ht : P.underlying t = some (.interface ms)) {xo yo : Operand} (tt : TypeId) (v : Value) {x y : Value} (hxy : (x = .iface tt v ∧ y = .nilIface) ∨ (y = .iface tt v ∧ x = .nilIface)) :
    (do eqGuard .eql t xo yo x y; binOp .eql t x y : Sem Value).run P w = .ok (.bool false) w ∧ (do eqGuard .neq t xo yo x y; binOp .neq t x y : Sem Value).run P w = .ok (.bool true) w := by
  have h1 : (Op.equal t (.iface tt v) .nilIface).run P w = .ok false w := by
    rw [show Op.equal t (.iface tt v) .nilIface = Op.equalIn (9999 + 1) t (.iface tt v) .nilIface from rfl, Op.equalIn]
    simp only [Sem.run_bind, run_underlying ht, Result.andThen_ok]
    rfl
  have h2 : (Op.equal t .nilIface (.iface tt v)).run P w = .ok false w := by
    rw [show Op.equal t .nilIface (.iface tt v) = Op.equalIn (9999 + 1) t .nilIface (.iface tt v) from rfl, Op.equalIn]
    simp only [Sem.run_bind, run_underlying ht, Result.andThen_ok]
    rfl
  rcases hxy with ⟨rfl, rfl⟩ | ⟨rfl, rfl⟩
  · constructor
    · show (do eqGuard .eql t xo yo (.iface tt v) .nilIface; (do pure (.bool (← Op.equal t (.iface tt v) .nilIface)) : Sem Value) : Sem Value).run P w = _
      generalize Op.equal t (.iface tt v) .nilIface = r at *
      simp [eqGuard, h1]
    · show (do eqGuard .neq t xo yo (.iface tt v) .nilIface; (do pure (.bool (!(← Op.equal t (.iface tt v) .nilIface))) : Sem Value) : Sem Value).run P w = _
      generalize Op.equal t (.iface tt v) .nilIface = r at *
      simp [eqGuard, h1]
  · constructor
    · show (do eqGuard .eql t xo yo .nilIface (.iface tt v); (do pure (.bool (← Op.equal t .nilIface (.iface tt v))) : Sem Value) : Sem Value).run P w = _
      generalize Op.equal t .nilIface (.iface tt v) = r at *
      simp [eqGuard, h2]
    · show (do eqGuard .neq t xo yo .nilIface (.iface tt v); (do pure (.bool (!(← Op.equal t .nilIface (.iface tt v)))) : Sem Value) : Sem Value).run P w = _
      generalize Op.equal t .nilIface (.iface tt v) = r at *
      simp [eqGuard, h2]
theorem bin_ok (h : Own B w0 F0 F O H w) {op : BinOp} {t : TypeId} {pt : Bool} (hpt : pt = true → ∃ e, P.underlying t = some (.pointer e)) {xo yo : Operand} {x y : Value} {a b r : AV} (hx : VR F O x a) (hy : VR F O y b) (he : binA P H op t pt xo yo a b = some r) : ∃ z, (do eqGuard op t xo yo x y; binOp op t x y : Sem Value).run P w = .ok z w ∧ VR F O z r := by
  unfold binA at he
  split at he
  · rename_i hp
    obtain ⟨e', ht⟩ := hpt hp
    have hxy : ((isPtr H a && isNilPtr b) || (isPtr H b && isNilPtr a)) = true → ∃ ad, (x = .pointer (some ad) ∧ y = .pointer none) ∨ (y = .pointer (some ad) ∧ x = .pointer none) := fun hq => by
      simp only [Bool.or_eq_true, Bool.and_eq_true] at hq
      rcases hq with ⟨h1, h2⟩ | ⟨h1, h2⟩
      · obtain ⟨ad, e⟩ := isPtr_ok h hx h1
        exact ⟨ad, .inl ⟨e, isNil_ok hy h2⟩⟩
      · obtain ⟨ad, e⟩ := isPtr_ok h hy h1
        exact ⟨ad, .inr ⟨e, isNil_ok hx h2⟩⟩
    have hsm : samePt P t H a b = true → ∃ ad i, x = .pointer (some ad) ∧ y = .pointer (some ad) ∧ P.info? e' = some i := fun hq => by
      unfold samePt at hq
      rw [ht] at hq
      simp only [Bool.and_eq_true] at hq
      obtain ⟨⟨⟨h1, h2⟩, h3⟩, h4⟩ := hq
      obtain ⟨i, hi⟩ := Option.isSome_iff_exists.1 h3
      cases a with
      | oa i1 g1 e1 o1 =>
        cases b with
        | oa i2 g2 e2 o2 =>
          simp only [Bool.and_eq_true, beq_iff_eq] at h4
          obtain ⟨⟨⟨rfl, rfl⟩, rfl⟩, rfl⟩ := h4
          simp only [isPtr, Option.isSome_iff_exists] at h1
          obtain ⟨ob, hl⟩ := h1
          obtain ⟨d, hd, _, _, rfl⟩ := h.oa hx hl
          obtain ⟨d', hd', _, _, rfl⟩ := h.oa hy hl
          rw [hd] at hd'
          cases hd'
          exact ⟨_, i, rfl, rfl, hi⟩
        | _ => cases h4
      | _ => cases h4
    have hnn : (isNilPtr a && isNilPtr b) = true → x = .pointer none ∧ y = .pointer none := fun hq => by
      simp only [Bool.and_eq_true] at hq
      exact ⟨isNil_ok hx hq.1, isNil_ok hy hq.2⟩
    split at he
    · split at he
      · rename_i hq
        cases he
        obtain ⟨rfl, rfl⟩ := hnn hq
        exact ⟨_, (nil_nil ht).1, .p (.v _ rfl)⟩
      · split at he
        · rename_i hq
          cases he
          obtain ⟨ad, hh⟩ := hxy hq
          exact ⟨_, (bin_ptr (op := .eql) ht ad hh).1, .p (.v _ rfl)⟩
        · split at he
          · rename_i hq
            cases he
            obtain ⟨ad, i, rfl, rfl, hi⟩ := hsm hq
            exact ⟨_, (same_same ht hi ad).1, .p (.v _ rfl)⟩
          · cases he
    · split at he
      · rename_i hq
        cases he
        obtain ⟨rfl, rfl⟩ := hnn hq
        exact ⟨_, (nil_nil ht).2, .p (.v _ rfl)⟩
      · split at he
        · rename_i hq
          cases he
          obtain ⟨ad, hh⟩ := hxy hq
          exact ⟨_, (bin_ptr (op := .neq) ht ad hh).2, .p (.v _ rfl)⟩
        · split at he
          · rename_i hq
            cases he
            obtain ⟨ad, i, rfl, rfl, hi⟩ := hsm hq
            exact ⟨_, (same_same ht hi ad).2, .p (.v _ rfl)⟩
          · cases he
    · cases he
  · split at he
    · rename_i v u hc hd
      obtain rfl := conc_ok hx hc
      obtain rfl := conc_ok hy hd
      split at he
      · rename_i z hz
        exact ⟨z, pureRun_ok _ hz w, ofVal_ok he⟩
      · cases he
    · split at he
      · rename_i hs
        have ht : ∃ e, P.underlying t = some (.slice e) := by
          unfold isSliceT at hs
          split at hs
          · exact ⟨_, by assumption⟩
          · cases hs
        obtain ⟨e, ht⟩ := ht
        unfold nilCmp at he
        split at he
        · rename_i hq
          have hxy : ∃ ad n c, (x = .slice (some ad) n c ∧ y = .slice none 0 0) ∨ (y = .slice (some ad) n c ∧ x = .slice none 0 0) := by
            simp only [Bool.or_eq_true, Bool.and_eq_true] at hq
            rcases hq with ⟨h1, h2⟩ | ⟨h1, h2⟩
            · obtain ⟨ad, n, c, e⟩ := isRow_ok h hx h1
              exact ⟨ad, n, c, .inl ⟨e, isNl_ok hy h2⟩⟩
            · obtain ⟨ad, n, c, e⟩ := isRow_ok h hy h1
              exact ⟨ad, n, c, .inr ⟨e, isNl_ok hx h2⟩⟩
          obtain ⟨ad, n, c, hxy⟩ := hxy
          split at he
          · cases he; exact ⟨_, (bin_sl ht ad n c hxy).1, .p (.v _ rfl)⟩
          · cases he; exact ⟨_, (bin_sl ht ad n c hxy).2, .p (.v _ rfl)⟩
          · cases he
        · split at he
          · rename_i hq
            have hxy : ∃ c d, x = .slice none 0 c ∧ y = .slice none 0 d := by
              simp only [Bool.or_eq_true, Bool.and_eq_true] at hq
              rcases hq with ⟨h1, h2⟩ | ⟨h1, h2⟩
              · obtain ⟨c, e⟩ := isNi_ok hx h1
                exact ⟨c, _, e, isNl_ok hy h2⟩
              · obtain ⟨c, e⟩ := isNi_ok hy h1
                exact ⟨_, c, isNl_ok hx h2, e⟩
            obtain ⟨c, d, rfl, rfl⟩ := hxy
            split at he
            · cases he; exact ⟨_, (bin_sn (op := .eql) ht c d).1, .p (.v _ rfl)⟩
            · cases he; exact ⟨_, (bin_sn (op := .neq) ht c d).2, .p (.v _ rfl)⟩
            · cases he
          · cases he
      · split at he
        · rename_i hs
          have ht : ∃ ps rs vd, P.underlying t = some (.func ps rs vd) := by
            unfold isFuncT at hs
            split at hs
            · exact ⟨_, _, _, by assumption⟩
            · cases hs
          obtain ⟨ps, rs, vd, ht⟩ := ht
          unfold fnCmp at he
          split at he
          · rename_i hq
            have hxy : ∃ f p q, (x = .func f p q ∧ y = .nilFunc) ∨ (y = .func f p q ∧ x = .nilFunc) := by
              simp only [Bool.or_eq_true, Bool.and_eq_true] at hq
              rcases hq with ⟨h1, h2⟩ | ⟨h1, h2⟩
              · obtain ⟨f, p, q, e⟩ := isFn_ok h hx h1
                exact ⟨f, p, q, .inl ⟨e, isNoFn_ok hy h2⟩⟩
              · obtain ⟨f, p, q, e⟩ := isFn_ok h hy h1
                exact ⟨f, p, q, .inr ⟨e, isNoFn_ok hx h2⟩⟩
            obtain ⟨f, p, q, hxy⟩ := hxy
            split at he
            · cases he; exact ⟨_, (bin_fn (op := .eql) ht f p q hxy).1, .p (.v _ rfl)⟩
            · cases he; exact ⟨_, (bin_fn (op := .neq) ht f p q hxy).2, .p (.v _ rfl)⟩
            · cases he
          · cases he
        · split at he
          · rename_i hs
            have ht : ∃ ms, P.underlying t = some (.interface ms) := by
              unfold isIfT at hs
              split at hs
              · exact ⟨_, by assumption⟩
              · cases hs
            obtain ⟨ms, ht⟩ := ht
            unfold ifCmp at he
            split at he
            · rename_i hq
              have hxy : ∃ tt v, (x = .iface tt v ∧ y = .nilIface) ∨ (y = .iface tt v ∧ x = .nilIface) := by
                simp only [Bool.or_eq_true, Bool.and_eq_true] at hq
                rcases hq with ⟨h1, h2⟩ | ⟨h1, h2⟩
                · obtain ⟨tt, v, e⟩ := isIf_ok h hx h1
                  exact ⟨tt, v, .inl ⟨e, isNoIf_ok hy h2⟩⟩
                · obtain ⟨tt, v, e⟩ := isIf_ok h hy h1
                  exact ⟨tt, v, .inr ⟨e, isNoIf_ok hx h2⟩⟩
              obtain ⟨tt, v, hxy⟩ := hxy
              split at he
              · cases he; exact ⟨_, (bin_if (op := .eql) ht tt v hxy).1, .p (.v _ rfl)⟩
              · cases he; exact ⟨_, (bin_if (op := .neq) ht tt v hxy).2, .p (.v _ rfl)⟩
              · cases he
            · cases he
          · cases he
theorem part_ok {t : TypeId} {inf : TypeInfo} {d : TypeDesc} (hi : P.info? t = some inf) (hd : P.underlying t = some d) {x : Value} {a r : AV} {off : Nat} (hx : VR F O x a) (hr : partA (isAggD d) off inf.size a = some r) :
    ∃ cs, x = .agg cs ∧ ∃ y, (part t cs off).run P w = .ok y w ∧ VR F O y r := by
  cases a with
  | agg as =>
    obtain ⟨xs, rfl, hl, h1, hv⟩ : ∃ xs : List Value, x = .agg xs.toArray ∧ xs.length = as.length ∧ (∀ a ∈ as, AV.one a = true) ∧ ∀ (i : Nat) (c : Value) (a : AV), xs[i]? = some c → as[i]? = some a → VR F O c a := by
      cases hx with
      | p h => cases h with
        | agg xs as hl h1 h => exact ⟨xs, rfl, hl, h1, fun i c a hc ha => .p (h i c a hc ha)⟩
      | agg xs as hl h1 h => exact ⟨xs, rfl, hl, h1, h⟩
    refine ⟨_, rfl, ?_⟩
    simp only [partA] at hr
    simp only [part, Sem.run_bind, run_isAgg hd, Result.andThen_ok]
    cases hag : isAggD d
    · simp only [hag, Bool.false_eq_true, if_false] at hr ⊢
      have hlt : off < xs.length := by rw [hl]; exact (List.getElem?_eq_some_iff.1 hr).1
      refine ⟨xs[off], ?_, hv off _ r (List.getElem?_eq_getElem hlt) hr⟩
      simp [hlt]
    · simp only [hag, if_true] at hr ⊢
      split at hr
      · rename_i hle
        cases hr
        simp only [Sem.run_bind, run_size hi, Result.andThen_ok]
        refine ⟨.agg ((xs.drop off).take inf.size).toArray, ?_, .agg _ _ (by simp; omega) (fun a ha => h1 a (List.mem_of_mem_drop (List.mem_of_mem_take ha))) fun i c a hc ha => ?_⟩
        · simp only [Sem.run_pure]
          congr 2
          apply Array.ext'
          simp [List.take_drop]
        · rw [List.getElem?_take] at hc ha
          split at hc
          · rename_i hlt
            rw [if_pos hlt, List.getElem?_drop] at ha
            rw [List.getElem?_drop] at hc
            exact hv _ c a hc ha
          · cases hc
      · cases hr
  | _ => cases hr
theorem move_ok (h : Own B w0 F0 F O H w) {x : Value} {a r : AV} {off : Nat} (hx : VR F O x a) (hr : moveA off H a = some r) : ∃ ad : Addr, x = .pointer (some ad) ∧ ad.spot = none ∧ VR F O (.pointer (some (ad.add off))) r := by
  cases a with
  | ad k es i o =>
    cases hr
    have := hx.pvC rfl
    cases this with
    | ad b o' _ _ _ _ hk h1 f hf hc =>
      refine ⟨_, rfl, rfl, .p ?_⟩
      rw [addr_add, Nat.add_assoc]
      exact .ad b o' k es i (o + off) hk h1 f hf hc
  | oa i g e o =>
    simp only [moveA] at hr
    split at hr
    · rename_i ob hl
      cases hr
      obtain ⟨d, hd, hio, r, rfl⟩ := h.oa hx hl
      refine ⟨_, rfl, rfl, ?_⟩
      rw [addr_add]
      have hg := (live_ok hl).2
      exact .oa _ i g e (o + off) d hd (by rw [r.hg]; omega) rfl fun _ => by rw [r.hk, Nat.add_assoc]
    · cases hr
  | _ => cases hr
theorem mki_ok (h : Own B w0 F0 F O H w) {x : Value} {a r : AV} {t : Nat} (hx : VR F O x a) (hr : mkiA t a = some r) : VR F O (.iface t x) r := by
  cases a with
  | oa i g e o =>
    cases hr
    cases hx with
    | p h => cases h
    | oa _ _ _ _ _ d hd hg h1 hh => exact .io _ t i g e o d hd hg rfl fun e' => by rw [hh e']
  | bf f i g e o =>
    cases hr
    cases hx with
    | p h => cases h
    | bf _ _ _ _ _ _ d hd hg h1 hh => exact .ib _ t f i g e o d hd hg rfl fun e' => by rw [hh e']
  | _ => cases hr
theorem nil_ok (h : Own B w0 F0 F O H w) {x : Value} {a r : AV} (hx : VR F O x a) (hr : nilA H a = some r) : r = a ∧ ∃ ad, x = .pointer (some ad) := by
  cases a with
  | ad k es i o => cases hr; have := hx.pvC rfl; cases this; exact ⟨rfl, _, rfl⟩
  | oa i g e o =>
    simp only [nilA] at hr
    split at hr
    · rename_i ob hl
      cases hr
      obtain ⟨d, hd, hio, r, rfl⟩ := h.oa hx hl
      exact ⟨rfl, _, rfl⟩
    · cases hr
  | _ => cases hr
theorem mk2_ok {x : Value} {a r : AV} {nm : String} (hx : VR F O x a) (hr : mk2A nm a = some r) : VR F O (.func (.method nm) #[x] #[]) r := by
  cases a with
  | io t i g e off =>
    cases hr
    cases hx with
    | p h => cases h
    | io _ _ _ _ _ _ d hd hg h1 hh => exact .mf _ nm t i g e off d hd hg rfl fun e' => by rw [hh e']
  | _ => cases hr
theorem mkb_ok {x : Value} {a r : AV} {f : FuncId} (hx : VR F O x a) (hr : mkbA f a = some r) : VR F O (.func (.func f) #[x] #[]) r := by
  cases a with
  | oa i g e off =>
    cases hr
    cases hx with
    | p h => cases h
    | oa _ _ _ _ _ d hd hg h1 hh => exact .bf _ f i g e off d hd hg rfl fun e' => by rw [hh e']
  | _ => cases hr
theorem run_nah {t : Nat} {nm : String} (h : nahF P t nm = true) (v : Value) (w : World) : (nilAhead (P.types.size + Made.depth) t v nm).run P w = .ok (some false) w := by
  unfold nahF at h
  split at h
  · rename_i inf hi
    split at h
    · rename_i m hm
      rw [Bool.and_eq_true, decide_eq_true_eq] at h
      obtain ⟨hp, hf⟩ := h
      split at hf
      · rename_i f hf'
        have hd0 : 0 < Made.depth := by decide
        have hpos : ∃ k, P.types.size + Made.depth = k + 1 := ⟨P.types.size + Made.depth - 1, by omega⟩
        obtain ⟨k, hk⟩ := hpos
        rw [hk]
        simp [nilAhead, typeInfo, program, Sem.run, Sem.run_bind, hi, hm, hp, followBlind, hf']
      · cases hf
    · cases h
  · cases h
/-- What is checked not to be nil. -/
theorem nilB_ok (h : Own B w0 F0 F O H w) {x : Value} {a r : AV} (hx : VR F O x a) (hr : nilB P H a = some r) : r = a ∧ ((∃ ad, x = .pointer (some ad)) ∨ ∃ nm t v, x = .func (.method nm) #[.iface t v] #[] ∧ nahF P t nm = true) := by
  cases a with
  | mf nm t i g e off =>
    simp only [nilB] at hr
    split at hr
    · rename_i ob hl
      split at hr
      · rename_i hn
        cases hr
        obtain ⟨hi, hg⟩ := live_ok hl
        obtain ⟨d, hd, r⟩ := h.get hi
        cases hx with
        | p h => cases h
        | mf _ _ _ _ _ _ _ d' hd' hg' h1 hh =>
          rw [hd] at hd'
          cases hd'
          exact ⟨rfl, .inr ⟨nm, t, _, hh (by rw [r.hg, hg]), hn⟩⟩
      · cases hr
    · cases hr
  | _ =>
    obtain ⟨e, ad, hx'⟩ := nil_ok h hx hr
    exact ⟨e, .inl ⟨ad, hx'⟩⟩
theorem int_ok {x : Value} {a : AV} {n : Int} (hx : VR F O x a) (hn : intA a = some n) : ∃ k, x = .int k n := by
  cases a with
  | v y =>
    have := hx.pvC rfl
    cases this
    cases x <;> first | (cases hn; exact ⟨_, rfl⟩) | cases hn
  | _ => cases hn
theorem elem_ok (h : Own B w0 F0 F O H w) {x : Value} {a r : AV} {k : Nat} {ix : Int} (hx : VR F O x a) (hr : elemA k H a ix = some r) :
    ∃ ad n c, x = .slice (some ad) n c ∧ 0 ≤ ix ∧ ix < n ∧ VR F O (.pointer (some (ad.add (ix.toNat * k)))) r := by
  cases a with
  | sl k' es =>
    simp only [elemA] at hr
    split at hr
    · rename_i hc
      obtain ⟨rfl, h0, hlt⟩ := hc
      cases hr
      have := hx.pvC rfl
      cases this with
      | sl A n cap _ _ hn hc hm hk h1 b o hA f hf hv =>
        subst hn
        refine ⟨⟨b, o, none⟩, es.length, cap, by rw [hA (by omega)], h0, by omega, .p ?_⟩
        rw [addr_add]
        exact .ad b o k' es ix.toNat 0 hk h1 f hf hv
    · cases hr
  | ol i g n =>
    simp only [elemA] at hr
    split at hr
    · rename_i ob hl
      split at hr
      · rename_i hc
        obtain ⟨rfl, h0, hlt⟩ := hc
        cases hr
        obtain ⟨d, hd, hio, r, hnC, rfl⟩ := h.ol hx hl
        refine ⟨_, n, d.C, rfl, h0, by omega, ?_⟩
        rw [addr_add, Nat.zero_add]
        have hg := (live_ok hl).2
        exact .oa _ i g ix.toNat 0 d hd (by rw [r.hg]; omega) rfl fun _ => by rw [r.hk, Nat.add_zero]
      · cases hr
    · cases hr
  | _ => cases hr
theorem len_ok (h : Own B w0 F0 F O H w) {x : Value} {a : AV} {n : Nat} (hx : VR F O x a) (hr : lenA H a = some n) : ∃ A c, x = .slice A n c := by
  cases a with
  | nl k => cases hr; cases hx with
    | p h => cases h
    | nl => exact ⟨_, _, rfl⟩
  | em b k => cases hr; cases hx with
    | p h => cases h
    | em A c => exact ⟨_, _, rfl⟩
  | sl k es =>
    cases hr
    have := hx.pvC rfl
    cases this with
    | sl A n cap _ _ hn hc hm hk h1 b o hA f hf hv => subst hn; exact ⟨A, cap, rfl⟩
  | ol i g m =>
    cases hr
    cases hx with
    | p h => cases h
    | ol _ _ _ _ d hd hg h1 hh => exact h1
  | oc i g m c =>
    cases hr
    cases hx with
    | p h => cases h
    | oc _ _ _ _ _ d hd hg h1 hh => exact h1
  | _ => cases hr
/-- A piece of a slice that nobody writes any more. -/
theorem cut_ok {x : Value} {k : Nat} {es : List AV} {lo hi : Int} {r : AV} (hx : PV F x (.sl k es)) (hr : cut k es lo hi = some r) :
    ∃ A n c, x = .slice A n c ∧ 0 ≤ lo ∧ lo ≤ hi ∧ hi ≤ n ∧ n ≤ c ∧ n = es.length ∧ PV F (.slice (if c = lo.toNat then A else A.map (·.add (lo.toNat * k))) (hi.toNat - lo.toNat) (c - lo.toNat)) r := by
  unfold cut at hr
  split at hr
  · rename_i hc
    obtain ⟨h0, hlh, hle⟩ := hc
    cases hr
    cases hx with
    | sl A n cap _ _ hn hcap hm hk h1 b o hA f hf hv =>
      subst hn
      refine ⟨A, es.length, cap, rfl, h0, hlh, by omega, hcap, rfl, .sl _ _ _ k _ (by simp; omega) (by omega) (by omega) (fun e he => hk e (List.mem_of_mem_take (List.mem_of_mem_drop he))) (fun e he => h1 e (List.mem_of_mem_take (List.mem_of_mem_drop he))) b (o + lo.toNat * k) (fun hpos => ?_)
        (fun i j => f (lo.toNat + i) j) (fun i j hi hj => ?_) (fun i j e a he ha => ?_)⟩
      · rw [if_neg (by omega), hA (by omega), Option.map_some, addr_add]
      · have := hf (lo.toNat + i) j (by omega) hj
        rw [← this]
        congr 1
        rw [Nat.add_mul]
        omega
      · rw [List.getElem?_drop, List.getElem?_take] at he
        split at he
        · exact hv _ j e a he ha
        · cases he
  · cases hr
end
end Go.Proofs.YtgcnbbjapapnjaaDoor.Sim
