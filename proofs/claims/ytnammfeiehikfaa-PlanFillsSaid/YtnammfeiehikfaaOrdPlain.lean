/- Plain facts on byte lists: the order of texts, their common beginning. -/
namespace Go.Proofs.Ytnammfeiehikfaa.Ord
def com : List UInt8 → List UInt8 → Nat
  | x :: xs, y :: ys => if x = y then com xs ys + 1 else 0
  | _, _ => 0
def cmp : List UInt8 → List UInt8 → Int
  | [], [] => 0
  | [], _ :: _ => -1
  | _ :: _, [] => 1
  | x :: xs, y :: ys => if x = y then cmp xs ys else if x < y then -1 else 1
def less (a b : List UInt8) : Bool := cmp a b == -1

theorem com_le_left (a b : List UInt8) : com a b ≤ a.length := by
  induction a generalizing b with
  | nil => simp [com]
  | cons x xs ih => cases b with
    | nil => simp [com]
    | cons y ys => simp only [com]; split <;> simp; exact ih ys
theorem com_le_right (a b : List UInt8) : com a b ≤ b.length := by
  induction a generalizing b with
  | nil => simp [com]
  | cons x xs ih => cases b with
    | nil => simp [com]
    | cons y ys => simp only [com]; split <;> simp; exact ih ys
theorem com_eq (a b : List UInt8) (n : Nat) (h : ∀ j, j < n → a[j]? = b[j]?) (ha : n ≤ a.length) (hb : n ≤ b.length) (hn : a[n]? ≠ b[n]? ∨ a.length = n ∨ b.length = n) : com a b = n := by
  induction a generalizing b n with
  | nil => simp at ha; subst ha; simp [com]
  | cons x xs ih => cases b with
    | nil => simp at hb; subst hb; simp [com]
    | cons y ys =>
      cases n with
      | zero => simp [com] at hn ⊢; exact hn
      | succ m =>
        have h0 := h 0 (by omega)
        simp at h0
        subst h0
        simp only [com, if_true]
        have := ih ys m (fun j hj => by have := h (j+1) (by omega); simpa using this) (by simpa using ha) (by simpa using hb) (by simpa using hn)
        omega
theorem com_at (a b : List UInt8) (ha : com a b < a.length) (hb : com a b < b.length) : a[com a b]'ha ≠ b[com a b]'hb := by
  induction a generalizing b with
  | nil => simp at ha
  | cons x xs ih => cases b with
    | nil => simp at hb
    | cons y ys =>
      by_cases hxy : x = y
      · subst hxy
        simp [com] at ha hb ⊢
        exact ih ys ha hb
      · simp [com, hxy]
theorem cmp_com (a b : List UInt8) : cmp a b = if com a b = a.length then (if com a b = b.length then 0 else -1) else if com a b = b.length then 1 else if (a.getD (com a b) 0) < (b.getD (com a b) 0) then -1 else 1 := by
  induction a generalizing b with
  | nil => cases b <;> simp [cmp, com]
  | cons x xs ih => cases b with
    | nil => simp [cmp, com]
    | cons y ys =>
      by_cases hxy : x = y
      · subst hxy
        simp [cmp, com, ih ys]
      · simp [cmp, com, hxy]
theorem cmp_self (a : List UInt8) : cmp a a = 0 := by
  induction a with
  | nil => rfl
  | cons x xs ih => simp [cmp, ih]
theorem cmp_anti (a b : List UInt8) : cmp b a = - cmp a b := by
  induction a generalizing b with
  | nil => cases b <;> simp [cmp]
  | cons x xs ih => cases b with
    | nil => simp [cmp]
    | cons y ys =>
      by_cases hxy : x = y
      · subst hxy; simp [cmp, ih ys]
      · have hyx : ¬ y = x := fun h => hxy h.symm
        simp only [cmp, hxy, hyx, if_false]
        by_cases hlt : x < y
        · have : ¬ y < x := by simp [UInt8.lt_iff_toNat_lt] at *; omega
          simp [hlt, this]
        · have : y < x := by
            have : x.toNat ≠ y.toNat := fun h => hxy (UInt8.toNat_inj.1 h)
            simp [UInt8.lt_iff_toNat_lt] at *; omega
          simp [hlt, this]
theorem cmp_cases (a b : List UInt8) : cmp a b = -1 ∨ cmp a b = 0 ∨ cmp a b = 1 := by
  rw [cmp_com]; split <;> split <;> simp
  split
  · exact Or.inl (by assumption)
  · exact Or.inr (by simp_all)
theorem cmp_zero (a b : List UInt8) : cmp a b = 0 ↔ a = b := by
  induction a generalizing b with
  | nil => cases b <;> simp [cmp]
  | cons x xs ih => cases b with
    | nil => simp [cmp]
    | cons y ys =>
      by_cases hxy : x = y
      · subst hxy; simp [cmp, ih ys]
      · simp only [cmp, hxy, if_false]; split <;> simp [hxy]
theorem cmp_trans (a b c : List UInt8) (h1 : cmp a b ≤ 0) (h2 : cmp b c ≤ 0) : cmp a c ≤ 0 ∧ (cmp a b < 0 ∨ cmp b c < 0 → cmp a c < 0) := by
  induction a generalizing b c with
  | nil => cases b <;> cases c <;> simp_all [cmp]
  | cons x xs ih => cases b with
    | nil => simp [cmp] at h1
    | cons y ys => cases c with
      | nil => simp [cmp] at h2
      | cons z zs =>
        by_cases hxy : x = y
        · subst hxy
          by_cases hyz : x = z
          · subst hyz
            simp [cmp] at h1 h2 ⊢
            exact ih ys zs h1 h2
          · simp only [cmp, hyz, if_false, if_true] at h2 ⊢
            split <;> simp_all
        · by_cases hyz : y = z
          · subst hyz
            simp only [cmp, hxy, if_false, if_true] at h1 ⊢
            split <;> simp_all
          · simp only [cmp, hxy, hyz, if_false] at h1 h2
            by_cases l1 : x < y
            · by_cases l2 : y < z
              · have l3 : x < z := by simp [UInt8.lt_iff_toNat_lt] at *; omega
                have l4 : ¬ x = z := fun h => by subst h; simp at l3
                simp [cmp, l3, l4]
              · simp [l2] at h2
            · simp [l1] at h1
theorem cmp_snoc0 (s t : List UInt8) : (cmp s t ≤ 0 ∧ cmp t (s ++ [0]) < 0) ↔ s = t := by
  induction s generalizing t with
  | nil =>
    cases t with
    | nil => simp [cmp]
    | cons y ys =>
      simp only [List.nil_append, cmp]
      by_cases hy : y = 0
      · subst hy; cases ys <;> simp [cmp]
      · have : ¬ y < 0 := by simp [UInt8.lt_iff_toNat_lt]
        simp [hy, this]
  | cons x xs ih => cases t with
    | nil => simp [cmp]
    | cons y ys =>
      by_cases hxy : x = y
      · subst hxy; simp [cmp]; exact ih ys
      · have hyx : ¬ y = x := fun h => hxy h.symm
        simp only [List.cons_append, cmp, hxy, hyx, if_false]
        constructor
        · rintro ⟨h1, h2⟩
          by_cases l1 : x < y
          · by_cases l2 : y < x
            · simp [UInt8.lt_iff_toNat_lt] at *; omega
            · simp [l2] at h2
          · simp [l1] at h1
        · intro h; simp at h; exact absurd h.1 hxy
theorem less_take_le (a b : List UInt8) (i : Nat) (hi : i ≤ com a b) : less a (b.take i) = false := by
  induction a generalizing b i with
  | nil => simp [com] at hi; subst hi; simp [less, cmp]
  | cons x xs ih => cases b with
    | nil => simp [less, cmp]
    | cons y ys => cases i with
      | zero => simp [less, cmp]
      | succ k =>
        by_cases hxy : x = y
        · subst hxy
          simp [com] at hi
          simpa [less, cmp] using ih ys k hi
        · simp [com, hxy] at hi
theorem less_take_succ (a b : List UInt8) (h : cmp a b < 0) : less a (b.take (com a b + 1)) = true := by
  induction a generalizing b with
  | nil => cases b with
    | nil => simp [cmp] at h
    | cons y ys => simp [less, com, cmp]
  | cons x xs ih => cases b with
    | nil => simp [cmp] at h
    | cons y ys =>
      by_cases hxy : x = y
      · subst hxy
        simp [cmp] at h
        simpa [less, cmp, com] using ih ys h
      · simp only [cmp, hxy, if_false] at h
        by_cases l : x < y
        · simp [less, cmp, com, hxy, l]
        · simp [l] at h
theorem com_lt_of_neg (a b : List UInt8) (h : cmp a b < 0) : com a b < b.length := by
  have h1 := com_le_right a b
  rcases Nat.lt_or_ge (com a b) b.length with h2 | h2
  · exact h2
  · have h3 : com a b = b.length := by omega
    rw [cmp_com, if_pos h3, if_pos h3] at h
    split at h <;> simp at h
theorem less_take_ge (a b : List UInt8) (h : ¬ cmp a b < 0) (i : Nat) : less a (b.take i) = false := by
  induction a generalizing b i with
  | nil => cases b with
    | nil => simp [less, cmp]
    | cons y ys => simp [cmp] at h
  | cons x xs ih => cases b with
    | nil => simp [less, cmp]
    | cons y ys => cases i with
      | zero => simp [less, cmp]
      | succ k =>
        by_cases hxy : x = y
        · subst hxy
          simp [cmp] at h
          simpa [less, cmp] using ih ys (by omega) k
        · simp only [cmp, hxy, if_false] at h
          by_cases l : x < y
          · simp [l] at h
          · simp [less, cmp, hxy, l]
theorem short (a b c : List UInt8) (h1 : cmp a c < 0) (h2 : cmp c b ≤ 0) : com a b + 1 ≤ c.length := by
  induction a generalizing b c with
  | nil => cases c with
    | nil => simp [cmp] at h1
    | cons z zs => simp [com]
  | cons x xs ih => cases c with
    | nil => simp [cmp] at h1
    | cons z zs => cases b with
      | nil => simp [com]
      | cons y ys =>
        by_cases hxy : x = y
        · subst hxy
          by_cases hxz : x = z
          · subst hxz
            simp [cmp, com] at h1 h2 ⊢
            exact ih ys zs h1 h2
          · have hzx : ¬ z = x := fun h => hxz h.symm
            simp only [cmp, hxz, hzx, if_false] at h1 h2
            by_cases l1 : x < z
            · have : ¬ z < x := by simp [UInt8.lt_iff_toNat_lt] at *; omega
              simp [this] at h2
            · simp [l1] at h1
        · simp [com, hxy]
theorem mid_after (a b : List UInt8) (h : cmp a b < 0) : cmp a (b.take (com a b + 1)) < 0 := by
  have := less_take_succ a b h
  unfold less at this
  have e : cmp a (b.take (com a b + 1)) = -1 := by simpa using this
  omega
theorem take_le (b : List UInt8) (n : Nat) : cmp (b.take n) b ≤ 0 := by
  induction b generalizing n with
  | nil => simp [cmp]
  | cons y ys ih => cases n with
    | zero => simp [cmp]
    | succ k => simpa [cmp] using ih k
end Go.Proofs.Ytnammfeiehikfaa.Ord
