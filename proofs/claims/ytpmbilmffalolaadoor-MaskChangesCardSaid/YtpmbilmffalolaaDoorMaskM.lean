/- Plain mathematics of masks: numbers of 32 bits as sets. -/
import Derived.Lib.TrailingZeros
namespace Go.Proofs.YtpmbilmffalolaaDoor.Mk
set_option linter.unusedVariables false
set_option linter.unusedSimpArgs false

/-- The numbers below n that are in the mask. -/
def upTo (m n : Nat) : List Nat := (List.range n).filter fun k => m.testBit k
def all (m : Nat) : List Nat := upTo m 32
theorem upTo_succ (m n : Nat) : upTo m (n + 1) = upTo m n ++ if m.testBit n then [n] else [] := by
  unfold upTo
  rw [List.range_succ, List.filter_append]
  cases h : m.testBit n <;> simp [h]
theorem mem_upTo {m n k : Nat} : k ∈ upTo m n ↔ k < n ∧ m.testBit k = true := by
  unfold upTo; simp
theorem mem_all {m k : Nat} : k ∈ all m ↔ k < 32 ∧ m.testBit k = true := mem_upTo
theorem upTo_len (m n : Nat) : (upTo m n).length ≤ n := by
  unfold upTo
  have := List.length_filter_le (fun k => m.testBit k) (List.range n)
  simpa using this
theorem sorted (m n : Nat) : (upTo m n).Pairwise (· < ·) := by
  unfold upTo
  exact List.Pairwise.filter _ List.pairwise_lt_range
theorem bit_div (m k : Nat) : m.testBit k = decide (m / 2 ^ k % 2 = 1) := Nat.testBit_eq_decide_div_mod_eq
/-- How many of the mask's numbers are below i. -/
def place (m : Nat) (i : Int) : Nat := (all m).countP fun k : Nat => decide ((k : Int) < i)
def clamp (i : Int) : Nat := (min (max i 0) 32).toNat
theorem clamp_le (i : Int) : clamp i ≤ 32 := by unfold clamp; omega
theorem lt_clamp (i : Int) (k : Nat) (hk : k < 32) : k < clamp i ↔ (k : Int) < i := by unfold clamp; omega
theorem all_low (m c : Nat) : all (m &&& (2 ^ c - 1)) = (all m).filter fun k => decide (k < c) := by
  unfold all upTo
  rw [List.filter_filter]
  congr 1
  funext k
  rw [Nat.testBit_and, Nat.testBit_two_pow_sub_one, Bool.and_comm]
theorem place_low (m : Nat) (i : Int) : (all (m &&& (2 ^ clamp i - 1))).length = place m i := by
  rw [all_low]
  unfold place
  rw [List.countP_eq_length_filter]
  congr 1
  refine List.filter_congr fun k hk => ?_
  exact decide_eq_decide.2 (lt_clamp i k (mem_all.1 hk).1)
/-- The mask of some numbers, as far as n. -/
def mk (l : List Int) : Nat → Nat
  | 0 => 0
  | n + 1 => mk l n + if (n : Int) ∈ l then 2 ^ n else 0
theorem mk_lt (l : List Int) (n : Nat) : mk l n < 2 ^ n := by
  induction n with
  | zero => simp [mk]
  | succ n ih => unfold mk; rw [Nat.pow_succ]; split <;> omega
theorem two_pow_add (n x : Nat) (h : x < 2 ^ n) : 2 ^ n + x = 2 ^ n ||| x := by
  have := Nat.two_pow_add_eq_or_of_lt h 1
  simpa using this
theorem mk_bit (l : List Int) (n j : Nat) : (mk l n).testBit j = (decide (j < n) && decide ((j : Int) ∈ l)) := by
  induction n with
  | zero => simp [mk]
  | succ n ih =>
    unfold mk
    by_cases h : (n : Int) ∈ l
    · rw [if_pos h, Nat.add_comm, two_pow_add _ _ (mk_lt l n), Nat.testBit_or, ih, Nat.testBit_two_pow]
      by_cases e : n = j
      · subst e; simp [h]
      · by_cases g : j < n
        · have : j < n + 1 := by omega
          simp [g, this, e]
        · have : ¬ j < n + 1 := by omega
          simp [g, this, e]
    · rw [if_neg h, Nat.add_zero, ih]
      by_cases e : n = j
      · subst e; simp [h]
      · by_cases g : j < n
        · have : j < n + 1 := by omega
          simp [g, this]
        · have : ¬ j < n + 1 := by omega
          simp [g, this]
def ints (l : List Nat) : List Int := l.map Int.ofNat
theorem mem_ints {l : List Nat} {k : Nat} : ((k : Int) ∈ ints l) ↔ k ∈ l := by
  unfold ints
  rw [List.mem_map]
  constructor
  · rintro ⟨a, ha, e⟩
    have : a = k := Int.ofNat.inj e
    exact this ▸ ha
  · exact fun h => ⟨k, h, rfl⟩
theorem ints_len (l : List Nat) : (ints l).length = l.length := by simp [ints]
theorem big (m : Nat) (hm : m < 4294967296) (j : Nat) (hj : ¬ j < 32) : m.testBit j = false :=
  Nat.testBit_lt_two_pow (Nat.lt_of_lt_of_le hm (Nat.pow_le_pow_right (n := 2) (by omega) (show 32 ≤ j by omega)))
theorem mk_all (m : Nat) (hm : m < 4294967296) : mk (ints (all m)) 32 = m := by
  refine Nat.eq_of_testBit_eq fun j => ?_
  rw [mk_bit]
  by_cases hj : j < 32
  · cases h : m.testBit j
    · have : ¬ (j : Int) ∈ ints (all m) := by rw [mem_ints, mem_all, h]; simp
      simp [hj, this]
    · have : (j : Int) ∈ ints (all m) := by rw [mem_ints, mem_all, h]; exact ⟨hj, rfl⟩
      simp [hj, this]
  · rw [big m hm j hj]; simp [hj]

theorem mk_with (m : Nat) (hm : m < 4294967296) (i : Int) :
    mk (ints (all m) ++ [i]) 32 = if 0 ≤ i ∧ i < 32 then m ||| 2 ^ i.toNat else m := by
  refine Nat.eq_of_testBit_eq fun j => ?_
  rw [mk_bit]
  by_cases hi : 0 ≤ i ∧ i < 32
  · obtain ⟨k, rfl⟩ := Int.eq_ofNat_of_zero_le hi.1
    rw [if_pos hi, Nat.testBit_or, Nat.testBit_two_pow]
    have hk : k < 32 := by omega
    by_cases hj : j < 32
    · by_cases e : k = j
      · subst e; simp [hj]
      · have : ((j : Int) ∈ ints (all m) ++ [(k : Int)]) ↔ m.testBit j = true := by
          rw [List.mem_append, mem_ints, mem_all]; simp [hj]; omega
        simp [hj, this, e]
    · rw [big m hm j hj]
      have : ¬ k = j := by omega
      simp [hj, this]
  · rw [if_neg hi]
    by_cases hj : j < 32
    · have : ((j : Int) ∈ ints (all m) ++ [i]) ↔ m.testBit j = true := by
        rw [List.mem_append, mem_ints, mem_all]; simp [hj]; omega
      simp [hj, this]
    · rw [big m hm j hj]; simp [hj]

theorem mk_without (m : Nat) (hm : m < 4294967296) (i : Int) :
    mk ((ints (all m)).filter fun k => decide (k ≠ i)) 32 = if 0 ≤ i ∧ i < 32 then m &&& (4294967295 - 2 ^ i.toNat) else m := by
  refine Nat.eq_of_testBit_eq fun j => ?_
  rw [mk_bit]
  have hmem : ((j : Int) ∈ (ints (all m)).filter fun k => decide (k ≠ i)) ↔ ((j < 32 ∧ m.testBit j = true) ∧ ¬ (j : Int) = i) := by
    rw [List.mem_filter, mem_ints, mem_all]; simp
  by_cases hi : 0 ≤ i ∧ i < 32
  · obtain ⟨k, rfl⟩ := Int.eq_ofNat_of_zero_le hi.1
    rw [if_pos hi]
    have hk : k < 32 := by omega
    have hp : 2 ^ k < 2 ^ 32 := Nat.pow_lt_pow_right (by omega) hk
    have e0 : 4294967295 - 2 ^ k = 2 ^ 32 - (2 ^ k + 1) := by omega
    rw [show ((k : Int)).toNat = k by omega, e0, Nat.testBit_and, Nat.testBit_two_pow_sub_succ hp, Nat.testBit_two_pow]
    by_cases hj : j < 32
    · by_cases e : k = j
      · subst e
        have : ¬ ((k : Int) ∈ (ints (all m)).filter fun x => decide (x ≠ (k : Int))) := by rw [hmem]; simp
        simp [hj, this]
      · have : ((j : Int) ∈ (ints (all m)).filter fun x => decide (x ≠ (k : Int))) ↔ m.testBit j = true := by rw [hmem]; simp [hj]; omega
        simp only [hj, this, e]; simp
    · rw [big m hm j hj]; simp [hj]
  · rw [if_neg hi]
    by_cases hj : j < 32
    · have : ((j : Int) ∈ (ints (all m)).filter fun x => decide (x ≠ i)) ↔ m.testBit j = true := by rw [hmem]; simp [hj]; omega
      simp only [hj, this]; simp
    · rw [big m hm j hj]; simp [hj]
/-- The first number of the mask that is above i. -/
def next (m : Nat) (i : Int) : Option Nat := (all m).find? fun k : Nat => decide (i < (k : Int))
theorem find_filter {l : List Nat} {p : Nat → Bool} : (l.filter p).head? = l.find? p := by
  rw [List.head?_filter]
theorem all_high (m c : Nat) (hc : c ≤ 32) : all (m &&& (4294967295 - (2 ^ c - 1))) = (all m).filter fun k => decide (c ≤ k) := by
  unfold all upTo
  rw [List.filter_filter]
  refine List.filter_congr fun k hk => ?_
  have hk : k < 32 := by simpa using hk
  have hp : 2 ^ c ≤ 2 ^ 32 := Nat.pow_le_pow_right (by omega) hc
  have h0 : 0 < 2 ^ c := Nat.two_pow_pos c
  have e0 : 4294967295 - (2 ^ c - 1) = 2 ^ 32 - ((2 ^ c - 1) + 1) := by omega
  rw [e0, Nat.testBit_and, Nat.testBit_two_pow_sub_succ (by omega), Nat.testBit_two_pow_sub_one]
  by_cases g : k < c
  · have : ¬ c ≤ k := by omega
    simp [g, this]
  · have : c ≤ k := by omega
    simp [g, this, hk]
theorem next_high (m : Nat) (i : Int) : (all (m &&& (4294967295 - (2 ^ clamp (min i 32 + 1) - 1)))).head? = next m i := by
  rw [all_high m _ (clamp_le _), find_filter]
  unfold next
  have : ∀ l : List Nat, (∀ k ∈ l, k < 32) → l.find? (fun k => decide (clamp (min i 32 + 1) ≤ k)) = l.find? (fun k : Nat => decide (i < (k : Int))) := by
    intro l
    induction l with
    | nil => intro _; rfl
    | cons a l ih =>
      intro h
      have ha := h a (by simp)
      have e : decide (clamp (min i 32 + 1) ≤ a) = decide (i < (a : Int)) := decide_eq_decide.2 (by unfold clamp; omega)
      rw [List.find?_cons, List.find?_cons, e, ih fun k hk => h k (by simp [hk])]
  exact this _ fun k hk => (mem_all.1 hk).1
theorem head_ctz (m : Nat) (h0 : m ≠ 0) (hm : m < 4294967296) : (all m).head? = some (Go.Lib.ctz 32 m) := by
  obtain ⟨q, hq, hk⟩ := Go.Lib.ctzFrom_spec 32 m (by omega) hm
  have e : Go.Lib.ctz 32 m = Go.Lib.ctzFrom 32 m := by simp [Go.Lib.ctz, h0]
  rw [e]
  generalize Go.Lib.ctzFrom 32 m = k at *
  have hb : m.testBit k = true := by
    rw [bit_div, hq, Nat.mul_comm, Nat.mul_div_cancel _ (Nat.two_pow_pos k)]
    simp
  have hlow : ∀ j, j < k → m.testBit j = false := by
    intro j hj
    rw [bit_div]
    have : m / 2 ^ j = 2 * (2 ^ (k - j - 1) * (2 * q + 1)) := by
      rw [hq, show (2 : Nat) ^ k = 2 ^ j * (2 * 2 ^ (k - j - 1)) by rw [← Nat.pow_succ', ← Nat.pow_add]; congr 1; omega, Nat.mul_assoc, Nat.mul_div_cancel_left _ (Nat.two_pow_pos j), Nat.mul_assoc]
    rw [this]
    simp
  have h1 : upTo m (k + 1) = [k] := by
    rw [upTo_succ, hb]
    have : upTo m k = [] := by
      rw [List.eq_nil_iff_forall_not_mem]
      intro j hj
      have := mem_upTo.1 hj
      rw [hlow j this.1] at this
      exact absurd this.2 (by simp)
    rw [this]; rfl
  have h2 : ∀ d, (upTo m (k + 1 + d)).head? = some k := by
    intro d
    induction d with
    | zero => rw [Nat.add_zero, h1]; rfl
    | succ d ih => rw [← Nat.add_assoc, upTo_succ, List.head?_append, ih]; rfl
  have := h2 (32 - (k + 1))
  rwa [show k + 1 + (32 - (k + 1)) = 32 by omega] at this
theorem all_zero : all 0 = [] := by decide
theorem all_ne (m : Nat) (h0 : m ≠ 0) (hm : m < 4294967296) : all m ≠ [] := by
  intro h
  have := head_ctz m h0 hm
  rw [h] at this
  cases this
/-- Behind a number of the mask comes the next one of the list. -/
theorem next_at (m : Nat) (pre rest : List Nat) (i : Nat) (h : all m = pre ++ i :: rest) : next m i = rest.head? := by
  have hs := sorted m 32
  unfold next
  rw [show upTo m 32 = all m from rfl] at hs
  rw [h] at hs ⊢
  rw [List.pairwise_append] at hs
  obtain ⟨_, h2, h3⟩ := hs
  rw [List.pairwise_cons] at h2
  have hp : pre.find? (fun k : Nat => decide ((i : Int) < (k : Int))) = none := by
    rw [List.find?_eq_none]
    intro x hx
    have := h3 x hx i (by simp)
    simp; omega
  rw [List.find?_append, hp]
  have hi : decide ((i : Int) < (i : Int)) = false := by simp
  rw [List.find?_cons, hi]
  cases rest with
  | nil => rfl
  | cons a r =>
    have := h2.1 a (by simp)
    have ha : decide ((i : Int) < (a : Int)) = true := by simp; omega
    rw [List.find?_cons, ha]; rfl
/-- A byte's ones. -/
def pc (b : Nat) : Nat := ((List.range 8).filter fun k => b.testBit k).length
theorem pc_at (m s : Nat) : ((List.range 8).filter fun k => m.testBit (s + k)).length = pc (m / 2 ^ s % 256) := by
  unfold pc
  congr 1
  refine List.filter_congr fun k hk => ?_
  have hk : k < 8 := by simpa using hk
  rw [show (256 : Nat) = 2 ^ 8 from rfl, Nat.testBit_mod_two_pow, Nat.testBit_div_two_pow]
  simp [hk, Nat.add_comm]
theorem range32 : List.range 32 = List.range 8 ++ ((List.range 8).map (8 + ·) ++ ((List.range 8).map (16 + ·) ++ (List.range 8).map (24 + ·))) := by decide
theorem pop_all (m : Nat) : (all m).length = pc (m / 16777216 % 256) + pc (m / 65536 % 256) + pc (m / 256 % 256) + pc (m % 256) := by
  have h0 := pc_at m 0
  have h1 := pc_at m 8
  have h2 := pc_at m 16
  have h3 := pc_at m 24
  unfold all upTo
  rw [range32]
  simp only [List.filter_append, List.length_append, List.filter_map, List.length_map]
  have g0 : ((List.range 8).filter fun k => m.testBit k).length = pc (m % 256) := by simpa using h0
  have g1 : ((List.range 8).filter ((fun k => m.testBit k) ∘ fun x => 8 + x)).length = pc (m / 256 % 256) := h1
  have g2 : ((List.range 8).filter ((fun k => m.testBit k) ∘ fun x => 16 + x)).length = pc (m / 65536 % 256) := h2
  have g3 : ((List.range 8).filter ((fun k => m.testBit k) ∘ fun x => 24 + x)).length = pc (m / 16777216 % 256) := h3
  rw [g0, g1, g2, g3]
  omega
theorem pc_le (b : Nat) : pc b ≤ 8 := upTo_len b 8
end Go.Proofs.YtpmbilmffalolaaDoor.Mk
