/- Plain mathematics of keys: eight digits of base 256, and their order. -/
import Derived.Test.YtoeddlcidbmppaaOrdPlain
import Derived.Laws.BytesArg
namespace Go.Proofs.Ytoeddlcidbmppaa.Co
open Go.Proofs.Ytoeddlcidbmppaa.Ord (cmp less)
set_option linter.unusedVariables false
/-- The last k digits of n, base 256, the highest one first. -/
def low (n : Nat) : Nat → List Nat
  | 0 => []
  | k + 1 => (n / 256 ^ k % 256) :: low n k
theorem low_len (n k : Nat) : (low n k).length = k := by
  induction k with
  | zero => rfl
  | succ k ih => simp [low, ih]
theorem low_lt (n k : Nat) : ∀ d ∈ low n k, d < 256 := by
  induction k with
  | zero => simp [low]
  | succ k ih =>
    intro d hd
    rcases List.mem_cons.1 hd with rfl | hd
    · exact Nat.mod_lt _ (by omega)
    · exact ih d hd
def val (l : List Nat) : Nat := l.foldl (fun a d => 256 * a + d) 0
theorem val_snoc (l : List Nat) (d : Nat) : val (l ++ [d]) = 256 * val l + d := by simp [val, List.foldl_append]
theorem foldl_from (l : List Nat) (a : Nat) : l.foldl (fun a d => 256 * a + d) a = a * 256 ^ l.length + val l := by
  unfold val
  induction l generalizing a with
  | nil => simp
  | cons d l ih =>
    rw [List.foldl_cons, List.foldl_cons, ih, ih (256 * 0 + d), List.length_cons, Nat.pow_succ]
    rw [Nat.mul_zero, Nat.zero_add, Nat.add_mul, Nat.add_assoc]
    congr 1
    rw [Nat.mul_comm 256 a, Nat.mul_assoc, Nat.mul_comm 256]
theorem val_cons (d : Nat) (l : List Nat) : val (d :: l) = d * 256 ^ l.length + val l := by
  show (d :: l).foldl _ 0 = _
  rw [List.foldl_cons, foldl_from]
  simp
theorem val_low (n k : Nat) : val (low n k) = n % 256 ^ k := by
  induction k with
  | zero => simp [low, val, Nat.mod_one]
  | succ k ih => rw [low, val_cons, ih, low_len, Nat.mod_pow_succ, Nat.mul_comm, Nat.add_comm]
theorem val_lt (l : List Nat) (h : ∀ d ∈ l, d < 256) : val l < 256 ^ l.length := by
  induction l with
  | nil => simp [val]
  | cons d l ih =>
    have h1 := h d (by simp)
    have h2 := ih fun x hx => h x (by simp [hx])
    rw [val_cons, List.length_cons, Nat.pow_succ]
    have : (d + 1) * 256 ^ l.length ≤ 256 * 256 ^ l.length := Nat.mul_le_mul_right _ (by omega)
    rw [Nat.add_mul, Nat.one_mul] at this
    omega
theorem low_val (l : List Nat) (h : ∀ d ∈ l, d < 256) (n : Nat) (hn : n % 256 ^ l.length = val l) : low n l.length = l := by
  induction l with
  | nil => rfl
  | cons d l ih =>
    have h1 := h d (by simp)
    have h2 : ∀ x ∈ l, x < 256 := fun x hx => h x (by simp [hx])
    have h3 := val_lt l h2
    rw [val_cons, List.length_cons, Nat.mod_pow_succ] at hn
    have hp : 0 < 256 ^ l.length := Nat.pow_pos (by omega)
    have hm : n % 256 ^ l.length < 256 ^ l.length := Nat.mod_lt _ hp
    have e1 : n % 256 ^ l.length = val l := by
      have := congrArg (· % 256 ^ l.length) hn
      simp only [Nat.add_mul_mod_self_left, Nat.mul_add_mod_self_right, Nat.mod_mod, Nat.mod_eq_of_lt h3] at this
      exact this
    have e2 : n / 256 ^ l.length % 256 = d := by
      rw [e1, Nat.add_comm, Nat.mul_comm] at hn
      exact Nat.eq_of_mul_eq_mul_right hp (Nat.add_right_cancel hn)
    rw [List.length_cons, low, e2, ih h2 e1]
/-- Lists of digits compared. -/
def lcmp : List Nat → List Nat → Bool
  | _, [] => false
  | [], _ :: _ => true
  | a :: x, b :: y => decide (a < b) || (decide (a = b) && lcmp x y)
theorem lcmp_val (l m : List Nat) (hl : ∀ d ∈ l, d < 256) (hm : ∀ d ∈ m, d < 256) (h : l.length = m.length) : lcmp l m = decide (val l < val m) := by
  induction l generalizing m with
  | nil =>
    cases m with
    | nil => simp [lcmp]
    | cons b m => simp at h
  | cons a l ih =>
    cases m with
    | nil => simp at h
    | cons b m =>
      have h' : l.length = m.length := by simpa using h
      have la := val_lt l fun x hx => hl x (by simp [hx])
      have lb := val_lt m fun x hx => hm x (by simp [hx])
      rw [lcmp, ih m (fun x hx => hl x (by simp [hx])) (fun x hx => hm x (by simp [hx])) h', val_cons, val_cons, h']
      rw [h'] at la
      generalize 256 ^ m.length = p at *
      by_cases h1 : a < b
      · have : (a + 1) * p ≤ b * p := Nat.mul_le_mul_right _ h1
        rw [Nat.add_mul, Nat.one_mul] at this
        have h2 : a * p + val l < b * p + val m := by omega
        simp [h1, h2]
      · by_cases h2 : a = b
        · subst h2; simp
        · have : (b + 1) * p ≤ a * p := Nat.mul_le_mul_right _ (by omega)
          rw [Nat.add_mul, Nat.one_mul] at this
          have h3 : ¬ a * p + val l < b * p + val m := by omega
          simp [h1, h2, h3]
def bytes (l : List Nat) : ByteArray := ⟨(l.map UInt8.ofNat).toArray⟩
theorem bytes_size (l : List Nat) : (bytes l).size = l.length := by simp [bytes, ByteArray.size]
theorem ofNat_inj {a b : Nat} (ha : a < 256) (hb : b < 256) : UInt8.ofNat a = UInt8.ofNat b ↔ a = b := by
  constructor
  · intro h
    have := congrArg UInt8.toNat h
    simpa [Nat.mod_eq_of_lt ha, Nat.mod_eq_of_lt hb] using this
  · rintro rfl; rfl
theorem ofNat_lt {a b : Nat} (ha : a < 256) (hb : b < 256) : UInt8.ofNat a < UInt8.ofNat b ↔ a < b := by
  rw [UInt8.lt_iff_toNat_lt]
  simp [Nat.mod_eq_of_lt ha, Nat.mod_eq_of_lt hb]
theorem less_digits (l m : List Nat) (hl : ∀ d ∈ l, d < 256) (hm : ∀ d ∈ m, d < 256) : Op.bytesLess (l.map UInt8.ofNat) (m.map UInt8.ofNat) = lcmp l m := by
  induction l generalizing m with
  | nil => cases m <;> rfl
  | cons a l ih =>
    cases m with
    | nil => rfl
    | cons b m =>
      have ha := hl a (by simp)
      have hb := hm b (by simp)
      rw [List.map_cons, List.map_cons, Op.bytesLess, lcmp, ih m (fun x hx => hl x (by simp [hx])) (fun x hx => hm x (by simp [hx]))]
      rw [decide_eq_decide.2 (ofNat_lt ha hb)]
      congr 2
      by_cases e : a = b
      · subst e; simp
      · have : ¬ UInt8.ofNat a = UInt8.ofNat b := fun h => e ((ofNat_inj ha hb).1 h)
        simp [e, this]
/-- The order of the model's texts is the chapter's. -/
theorem bytesLess_less (a b : List UInt8) : Op.bytesLess a b = less a b := by
  induction a generalizing b with
  | nil => cases b <;> simp [Op.bytesLess, less, cmp]
  | cons x a ih =>
    cases b with
    | nil => simp [Op.bytesLess, less, cmp]
    | cons y b =>
      rw [Op.bytesLess, ih b]
      unfold less
      rw [show cmp (x :: a) (y :: b) = if x = y then cmp a b else if x < y then -1 else 1 from rfl]
      by_cases h1 : x = y
      · subst h1; simp
      · by_cases h2 : x < y
        · simp [h1, h2]
        · simp [h1, h2]
end Go.Proofs.Ytoeddlcidbmppaa.Co
