/- Operations by evaluation: what they ask comes as obligations. -/
import Derived.Test.YtgcnbbjapapnjaaDoorSimR
namespace Go.Proofs.YtgcnbbjapapnjaaDoor.Sim
open Go.RowKit
set_option linter.unusedVariables false
set_option linter.unusedSimpArgs false
/-- A number of 64 bits. -/
inductive ObI (x : Int) (k : Int → Prop) : Prop
  | mk (z : Int) (hz : x = z) (h1 : -9223372036854775808 ≤ z) (h2 : z ≤ 9223372036854775807) (hk : k z) : ObI x k
  | wr (hk : k (IntKind.i64.wrap x)) : ObI x k
inductive ObZ (x : Int) (k : Int → Prop) : Prop
  | mk (z : Int) (hz : x = z) (hk : k z) : ObZ x k
/-- A question. -/
inductive ObB (p : Prop) (t f : Prop) : Prop
  | mk (ht : p → t) (hf : ¬ p → f) : ObB p t f
inductive ObT (b : Bool) (t f : Prop) : Prop
  | mk (ht : b = true → t) (hf : b = false → f) : ObT b t f
inductive ObN (p : Prop) (k : Prop) : Prop
  | mk (hp : p) (hk : k) : ObN p k
inductive ObD (b : Bool) (k : Prop) : Prop
  | mk (hb : b = true) (hk : k) : ObD b k
/-- An element of a list. -/
inductive ObR (es : List AV) (i : Nat) (k : AV → Prop) : Prop
  | mk (e : AV) (he : es[i]? = some e) (hk : k e) : ObR es i k
/-- A number that is a place. -/
inductive ObX (x : Int) (n : Nat) (k : Nat → Prop) : Prop
  | mk (i : Nat) (hx : x = i) (hi : i < n) (hk : k i) : ObX x n k
/-- A number that is a bound. -/
inductive ObY (x : Int) (n : Nat) (k : Nat → Prop) : Prop
  | mk (i : Nat) (hx : x = i) (hi : i ≤ n) (hk : k i) : ObY x n k
inductive ObL (n : Nat) (k : Nat → Prop) : Prop
  | mk (m : Nat) (h : n = m) (hk : k m) : ObL n k
inductive ObU (es : List AV) (k : List AV → Prop) : Prop
  | mk (es' : List AV) (h : es = es') (hk : k es') : ObU es k
inductive ObS (s : ByteArray) (k : ByteArray → Prop) : Prop
  | mk (s' : ByteArray) (h : s = s') (hk : k s') : ObS s k
inductive ObC (P : Program) (G : Nat → AV) (f : FuncId) (as : List AV) (k : AV → Prop) : Prop
  | mk (r : AV) (h : PC P G f as r) (hk : k r) : ObC P G f as k
inductive ObH (P : Program) (G : Nat → AV) (f : FuncId) (as : List AV) (H : Hp) (k : AV → Hp → Prop) : Prop
  | mk (r : AV) (H' : Hp) (h : HC P G f as H r H') (hk : k r H') : ObH P G f as H k
inductive ObM (P : Program) (G : Nat → AV) (f : FuncId) (as : List AV) (H : Hp) (k : AV → Hp → Prop) : Prop
  | mk (r : AV) (Bs : Hp) (h : ∀ H2 : Hp, (Bs ≠ [] → H2.length = H.length) → HC P G f as H2 r (H2 ++ Bs)) (hk : k r (H ++ Bs)) : ObM P G f as H k
inductive ObE (x : Option (AV × Hp)) (k : AV → Hp → Prop) : Prop
  | mk (r : AV) (H' : Hp) (h : x = some (r, H')) (hk : k r H') : ObE x k
/-- A slot's value. -/
def gK : List AV → Nat → (AV → Prop) → Prop
  | [], _, k => k (.tup [])
  | a :: _, 0, k => k a
  | _ :: s, n + 1, k => gK s n k
theorem gK_eq : ∀ (s : List AV) (n : Nat) (k : AV → Prop), gK s n k = k (s.getD n (.tup []))
  | [], _, _ => rfl
  | _ :: _, 0, _ => rfl
  | _ :: s, n + 1, k => by rw [gK, gK_eq s n k]; simp
/-- A list with another value in one place. -/
def pK : List AV → Nat → AV → (List AV → Prop) → Prop
  | [], _, _, k => k []
  | _ :: s, 0, r, k => k (r :: s)
  | a :: s, n + 1, r, k => pK s n r (fun s' => k (a :: s'))
theorem pK_eq : ∀ (s : List AV) (n : Nat) (r : AV) (k : List AV → Prop), pK s n r k = k (s.set n r)
  | [], _, _, _ => rfl
  | _ :: _, 0, _, _ => rfl
  | a :: s, n + 1, r, k => by rw [pK, pK_eq s n r]; rfl
section
variable (G : Nat → AV)
def eK (s : List AV) : AX → (AV → Prop) → Prop
  | .t n, k => gK s n k
  | .c a, k => k a
  | .g n, k => k (G n)
theorem eK_eq (s : List AV) (x : AX) (k : AV → Prop) : eK G s x k = k (x.ev G s) := by
  cases x with
  | t n => exact gK_eq s n k
  | c a => rfl
  | g n => rfl
def esK (s : List AV) : List AX → (List AV → Prop) → Prop
  | [], k => k []
  | x :: xs, k => eK G s x (fun a => esK s xs (fun as => k (a :: as)))
theorem esK_eq (s : List AV) : ∀ (xs : List AX) (k : List AV → Prop), esK G s xs k = k (xs.map (AX.ev G s))
  | [], _ => rfl
  | x :: xs, k => by rw [esK, eK_eq, esK_eq s xs]; rfl
end
/-- A cell of a list that is written out. -/
def nK : List AV → Nat → (AV → Prop) → Prop
  | [], _, _ => False
  | a :: _, 0, k => k a
  | _ :: s, n + 1, k => nK s n k
theorem nK_ok : ∀ {s : List AV} {n : Nat} {k : AV → Prop}, nK s n k → ∃ a, s[n]? = some a ∧ k a
  | [], _, _, h => h.elim
  | a :: _, 0, _, h => ⟨a, rfl, h⟩
  | _ :: s, n + 1, _, h => by obtain ⟨a, h1, h2⟩ := nK_ok (s := s) h; exact ⟨a, by simpa using h1, h2⟩
/-- Cells from one on, so many, of a list that is written out. -/
def tK : List AV → Nat → (List AV → Prop) → Prop
  | _, 0, k => k []
  | [], _ + 1, k => k []
  | a :: s, n + 1, k => tK s n (fun t => k (a :: t))
theorem tK_eq : ∀ (s : List AV) (n : Nat) (k : List AV → Prop), tK s n k = k (s.take n)
  | _, 0, _ => by simp [tK]
  | [], _ + 1, _ => by simp [tK]
  | a :: s, n + 1, k => by rw [tK, tK_eq s n]; rfl
def dK : List AV → Nat → (List AV → Prop) → Prop
  | s, 0, k => k s
  | [], _ + 1, k => k []
  | _ :: s, n + 1, k => dK s n k
theorem dK_eq : ∀ (s : List AV) (n : Nat) (k : List AV → Prop), dK s n k = k (s.drop n)
  | _, 0, _ => by simp [dK]
  | [], _ + 1, _ => by simp [dK]
  | _ :: s, n + 1, k => by rw [dK, dK_eq s n]; rfl
/-- Values laid over cells from one on. -/
def oK : List AV → Nat → List AV → (List AV → Prop) → Prop
  | s, _, [], k => k s
  | s, n, v :: vs, k => pK s n v (fun s' => oK s' (n + 1) vs k)
theorem oK_eq : ∀ (vs s : List AV) (n : Nat) (k : List AV → Prop), n + vs.length ≤ s.length → oK s n vs k = k (s.take n ++ vs ++ s.drop (n + vs.length))
  | [], s, n, k, h => by simp [oK]
  | v :: vs, s, n, k, h => by
    simp only [List.length_cons] at h
    rw [oK, pK_eq, oK_eq vs _ _ _ (by simp; omega)]
    congr 1
    have e1 : (s.set n v).take (n + 1) = s.take n ++ [v] := by
      rw [List.take_add_one, List.take_set, List.getElem?_set_self (by omega), List.set_eq_of_length_le (by simp; omega)]
      simp
    have e2 : (s.set n v).drop (n + 1 + vs.length) = s.drop (n + (v :: vs).length) := by
      rw [List.drop_set_of_lt (by omega)]; congr 1; simp; omega
    rw [e1, e2]; simp
/-- A row that is added behind, and its number. -/
def aK : Hp → List Nat → OB → (Nat → Hp → Prop) → Prop
  | [], n :: _, o, k => k n [o]
  | o' :: H, _ :: ns, o, k => aK H ns o (fun n H' => k n (o' :: H'))
  | _, [], _, _ => False
def nums : List Nat := [0, 1, 2, 3, 4, 5, 6, 7, 8, 9, 10, 11, 12, 13, 14, 15, 16, 17, 18, 19, 20, 21, 22, 23, 24, 25, 26, 27, 28, 29, 30, 31]
theorem aK_aux : ∀ (H : Hp) (m : Nat) (ns : List Nat) (o : OB) (k : Nat → Hp → Prop), (∀ (i n : Nat), ns[i]? = some n → n = m + i) → aK H ns o k → k (m + H.length) (H ++ [o])
  | [], m, n :: ns, o, k, hn, h => by have : n = m := hn 0 n rfl; subst this; exact h
  | o' :: H, m, n :: ns, o, k, hn, h => by
    have := aK_aux H (m + 1) ns o _ (fun i q hq => by have := hn (i + 1) q (by simpa using hq); omega) h
    simpa [Nat.add_assoc, Nat.add_comm, Nat.add_left_comm] using this
  | [], _, [], _, _, _, h => h.elim
  | _ :: _, _, [], _, _, _, h => h.elim
theorem aK_ok {H : Hp} {o : OB} {k : Nat → Hp → Prop} (h : aK H nums o k) : k H.length (H ++ [o]) := by
  have := aK_aux H 0 nums o k (fun i n hn => by
    simp only [nums] at hn
    rcases i with _|_|_|_|_|_|_|_|_|_|_|_|_|_|_|_|_|_|_|_|_|_|_|_|_|_|_|_|_|_|_|_|i <;> simp at hn <;> omega) h
  simpa using this
/-- A row that lives. -/
def rK : Hp → Nat → (OB → Prop) → Prop
  | [], _, _ => False
  | o :: _, 0, k => k o
  | _ :: H, n + 1, k => rK H n k
theorem rK_ok : ∀ {H : Hp} {n : Nat} {k : OB → Prop}, rK H n k → ∃ o, H[n]? = some o ∧ k o
  | [], _, _, h => h.elim
  | o :: _, 0, _, h => ⟨o, rfl, h⟩
  | _ :: H, n + 1, _, h => by obtain ⟨a, h1, h2⟩ := rK_ok (H := H) h; exact ⟨a, by simpa using h1, h2⟩
def rpK : Hp → Nat → OB → (Hp → Prop) → Prop
  | [], _, _, k => k []
  | _ :: s, 0, r, k => k (r :: s)
  | a :: s, n + 1, r, k => rpK s n r (fun s' => k (a :: s'))
theorem rpK_eq : ∀ (s : Hp) (n : Nat) (r : OB) (k : Hp → Prop), rpK s n r k = k (s.set n r)
  | [], _, _, _ => rfl
  | _ :: _, 0, _, _ => rfl
  | a :: s, n + 1, r, k => by rw [rpK, rpK_eq s n r]; rfl
theorem beqN (a b : Nat) : (a == b) = Nat.beq a b := by
  cases h : Nat.beq a b with
  | true => simp [Nat.eq_of_beq_eq_true h]
  | false => have := Nat.ne_of_beq_eq_false h; simp [this]
/-- The live row of a generation, its parts. -/
def lK (H : Hp) (i g : Nat) (k : TypeId → Nat → List AV → Nat → Prop) : Prop :=
  rK H i (fun o => match o with | ⟨e, kk, es, g', fz⟩ => (match Nat.beq e 4000000000 with | true => False | false => ObN (g' = g) (k e kk es fz)))
theorem lK_ok {H : Hp} {i g : Nat} {k : TypeId → Nat → List AV → Nat → Prop} (h : lK H i g k) : ∃ o, live H i g = some o ∧ H[i]? = some o ∧ k o.e o.k o.es o.fz ∧ o.g = g := by
  obtain ⟨o, h1, h2⟩ := rK_ok h
  obtain ⟨e, kk, es, g', fz⟩ := o
  simp only at h2
  split at h2
  · exact h2.elim
  · rename_i hb
    obtain ⟨h3, h4⟩ := h2
    have hb' : (e == 4000000000) = false := (beqN e _).trans hb
    exact ⟨_, by simp only [live, h1, h3, hb', if_true, Bool.false_eq_true, if_false], h1, h4, h3⟩
/-- A map's row of a generation, its elements. -/
def lMK (H : Hp) (i g : Nat) (k : Nat → List AV → Nat → Prop) : Prop :=
  rK H i (fun o => match o with | ⟨e, kk, es, g', fz⟩ => (match Nat.beq e 4000000000 && Nat.ble 2 kk with | false => False | true => ObN (g' = g) (k kk es fz)))
theorem lMK_ok {H : Hp} {i g : Nat} {k : Nat → List AV → Nat → Prop} (h : lMK H i g k) : ∃ o, liveM H i g = some o ∧ H[i]? = some o ∧ k o.k o.es o.fz ∧ o.g = g ∧ o.e = mapE := by
  obtain ⟨o, h1, h2⟩ := rK_ok h
  obtain ⟨e, kk, es, g', fz⟩ := o
  simp only at h2
  split at h2
  · exact h2.elim
  · rename_i hb
    obtain ⟨h3, h4⟩ := h2
    have hb' : (e == 4000000000 && Nat.ble 2 kk) = true := by rw [beqN]; exact hb
    have hb2 := hb'
    rw [Bool.and_eq_true] at hb2
    exact ⟨_, by simp only [liveM, h1, h3, hb', if_true], h1, h4, h3, by simpa using hb2.1⟩
end Go.Proofs.YtgcnbbjapapnjaaDoor.Sim
