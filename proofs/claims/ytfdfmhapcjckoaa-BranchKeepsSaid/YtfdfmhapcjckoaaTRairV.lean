/- Bindings: two parts in order are merged, by halves; by evaluation. -/
import Derived.Test.YtfdfmhapcjckoaaTRairF
import Derived.Test.YtfdfmhapcjckoaaTSimVf
namespace Go.Proofs.Ytfdfmhapcjckoaa.Sim.Pr7
open Go.RowKit
set_option maxRecDepth 100000
set_option linter.unusedSimpArgs false
set_option linter.unusedVariables false
theorem sle_at {A : List Pr} (h : SLe A) {i j : Nat} (hij : i ≤ j) (hj : j < A.length) : cB (A[i]'(by omega)).1 (A[j]).1 ≤ 0 := by
  by_cases e : i = j
  · subst e; rw [cB_self]; omega
  · exact List.pairwise_iff_getElem.1 h i j (by omega) hj (by omega)
theorem hc_row {G : Nat → AV} {f : FuncId} {xs : List AV} {D D' E E' : List Pr} {g : Nat} {r : AV} (h : HC Try.prog G f xs [rw0 D g] r [rw0 E g]) (e1 : D = D') (e2 : E = E') : HC Try.prog G f xs [rw0 D' g] r [rw0 E' g] := by
  subst e1; subst e2; exact h
theorem okl_perm {D D' : List Pr} (h : Okl D) (hl : D'.length = D.length) (hm : ∀ x ∈ D', x ∈ D) : Okl D' := ⟨by rw [hl]; exact h.len, fun p hp => h.sz p (hm p hp)⟩
theorem mem_take_at {L : List Pr} {n : Nat} {x : Pr} (h : x ∈ L.take n) : ∃ i, ∃ hi : i < L.length, i < n ∧ L[i] = x := by
  obtain ⟨i, hi, rfl⟩ := List.mem_take_iff_getElem.1 h
  exact ⟨i, by omega, by omega, rfl⟩
theorem mem_drop_at {L : List Pr} {n : Nat} {x : Pr} (h : x ∈ L.drop n) : ∃ i, ∃ hi : i < L.length, n ≤ i ∧ L[i] = x := by
  obtain ⟨i, hi, rfl⟩ := List.mem_drop_iff_getElem.1 h
  exact ⟨n + i, by omega, by omega, rfl⟩
theorem sym_cut {A B : List Pr} {a s mid m : Nat} (sA : SLe A) (sB : SLe B) (h1 : a ≤ s) (h2 : s ≤ m) (h3 : s ≤ mid) (hA : a + A.length = m) (hb : mid ≤ s + B.length)
    (hlo : a < s → mid < s + B.length → ∀ x y, A[s - 1 - a]? = some x → B[mid - s]? = some y → ¬ cB y.1 x.1 < 0)
    (hhi : s < m → s < mid → ∀ x y, A[s - a]? = some x → B[mid - 1 - s]? = some y → cB y.1 x.1 < 0) :
    ssort (A ++ B) = ssort (A.take (s - a) ++ B.take (mid - s)) ++ ssort (A.drop (s - a) ++ B.drop (mid - s)) ∧ (∀ x ∈ A.drop (s - a), ∀ y ∈ B.take (mid - s), cB y.1 x.1 < 0) := by
  have g1 : ∀ x ∈ A.drop (s - a), ∀ y ∈ B.take (mid - s), cB y.1 x.1 < 0 := fun x hx y hy => by
    obtain ⟨i, hi, hi2, rfl⟩ := mem_drop_at hx
    obtain ⟨j, hj, hj2, rfl⟩ := mem_take_at hy
    have k1 : s - a < A.length := by omega
    have k2 : mid - 1 - s < B.length := by omega
    have := hhi (by omega) (by omega) _ _ (List.getElem?_eq_getElem k1) (List.getElem?_eq_getElem k2)
    have c1 := sle_at sA (i := s - a) (j := i) (by omega) hi
    have c2 := sle_at sB (i := j) (j := mid - 1 - s) (by omega) k2
    exact cB_lt1 (cB_lt2 c2 this) c1
  refine ⟨?_, g1⟩
  have e1 := List.take_append_drop (s - a) A
  have e2 := List.take_append_drop (mid - s) B
  have := ssort_merge (A1 := A.take (s - a)) (A2 := A.drop (s - a)) (B1 := B.take (mid - s)) (B2 := B.drop (mid - s)) (by rw [e1]; exact sA) (by rw [e2]; exact sB) g1 (fun x hx y hy => by
    obtain ⟨i, hi, hi2, rfl⟩ := mem_take_at hx
    obtain ⟨j, hj, hj2, rfl⟩ := mem_drop_at hy
    have k1 : s - 1 - a < A.length := by omega
    have k2 : mid - s < B.length := by omega
    have := hlo (by omega) (by omega) _ _ (List.getElem?_eq_getElem k1) (List.getElem?_eq_getElem k2)
    have c1 := sle_at sA (i := i) (j := s - 1 - a) (by omega) k1
    have c2 := sle_at sB (i := mid - s) (j := j) (by omega) hj
    refine cB_le c1 (cB_le ?_ c2)
    rw [cB_anti (B[mid - s]).1]; omega)
  rwa [e1, e2] at this
theorem ssort_nil1 {X Y : List Pr} (h : X = [] ∨ Y = []) (hX : SLe X) (hY : SLe Y) : ssort (X ++ Y) = X ++ Y := by
  rcases h with rfl | rfl
  · exact ssort_of hY
  · rw [List.append_nil]; exact ssort_of hX
/-- What two halves that are cut come to. -/
theorem sym_all {G : Nat → AV} {g n : Nat} {P A B R : List Pr} {N a m b s mid e : Nat}
    (ih : ∀ (P A B R : List Pr) (N a m b : Nat), A.length + B.length ≤ n → (P ++ (A ++ (B ++ R))).length = N → P.length = a → a + A.length = m → m + B.length = b → 0 < A.length → 0 < B.length → SLe A → SLe B → Okl (P ++ (A ++ (B ++ R))) →
      HC Try.prog G 68 [.ol 0 g N, I a, I m, I b, cF] [rw0 (P ++ (A ++ (B ++ R))) g] (.tup []) [rw0 (P ++ (ssort (A ++ B) ++ R)) g])
    (hn : A.length + B.length ≤ n + 1) (hN : (P ++ (A ++ (B ++ R))).length = N) (hP : P.length = a) (hA : a + A.length = m) (hB : m + B.length = b) (sA : SLe A) (sB : SLe B) (hok : Okl (P ++ (A ++ (B ++ R))))
    (h1 : a ≤ s) (h2 : s ≤ m) (h3 : s ≤ mid) (hb : mid ≤ s + B.length) (he : e + s = mid + m) (hmb : mid < b) (ham : a < mid)
    (hlo : a < s → mid < s + B.length → ∀ x y, A[s - 1 - a]? = some x → B[mid - s]? = some y → ¬ cB y.1 x.1 < 0)
    (hhi : s < m → s < mid → ∀ x y, A[s - a]? = some x → B[mid - 1 - s]? = some y → cB y.1 x.1 < 0) :
    ∃ D1 D2 D3 : List Pr, D3 = P ++ (ssort (A ++ B) ++ R) ∧ D1.length = N ∧ D2.length = N ∧
      (s < m → m < e → HC Try.prog G 69 [.ol 0 g N, I s, I m, I e, cF] [rw0 (P ++ (A ++ (B ++ R))) g] (.tup []) [rw0 D1 g]) ∧ (¬ (s < m ∧ m < e) → P ++ (A ++ (B ++ R)) = D1) ∧
      (a < s → s < mid → HC Try.prog G 68 [.ol 0 g N, I a, I s, I mid, cF] [rw0 D1 g] (.tup []) [rw0 D2 g]) ∧ (¬ (a < s ∧ s < mid) → D1 = D2) ∧
      (mid < e → e < b → HC Try.prog G 68 [.ol 0 g N, I mid, I e, I b, cF] [rw0 D2 g] (.tup []) [rw0 D3 g]) ∧ (¬ (mid < e ∧ e < b) → D2 = D3) := by
  obtain ⟨c1, c2⟩ := sym_cut sA sB h1 h2 h3 hA hb hlo hhi
  have eA := List.take_append_drop (s - a) A
  have eB := List.take_append_drop (mid - s) B
  have lA1 : (A.take (s - a)).length = s - a := by simp; omega
  have lA2 : (A.drop (s - a)).length = m - s := by simp; omega
  have lB1 : (B.take (mid - s)).length = mid - s := by simp; omega
  have lB2 : (B.drop (mid - s)).length = b - e := by simp; omega
  have sA1 : SLe (A.take (s - a)) := List.Pairwise.sublist (List.take_sublist ..) sA
  have sA2 : SLe (A.drop (s - a)) := List.Pairwise.sublist (List.drop_sublist ..) sA
  have sB1 : SLe (B.take (mid - s)) := List.Pairwise.sublist (List.take_sublist ..) sB
  have sB2 : SLe (B.drop (mid - s)) := List.Pairwise.sublist (List.drop_sublist ..) sB
  rw [c1]
  generalize A.take (s - a) = A1 at *
  generalize A.drop (s - a) = A2 at *
  generalize B.take (mid - s) = B1 at *
  generalize B.drop (mid - s) = B2 at *
  clear hlo hhi c1
  subst eA
  subst eB
  simp only [List.length_append] at hn hA hB hN hb
  have hm1 : ∀ x, x ∈ P ++ (A1 ++ (B1 ++ (A2 ++ (B2 ++ R)))) → x ∈ P ++ ((A1 ++ A2) ++ ((B1 ++ B2) ++ R)) := fun x hx => by
    simp only [List.mem_append] at hx ⊢
    rcases hx with h | h | h | h | h | h <;> simp [h]
  have hm2 : ∀ x, x ∈ (P ++ ssort (A1 ++ B1)) ++ (A2 ++ (B2 ++ R)) → x ∈ P ++ ((A1 ++ A2) ++ ((B1 ++ B2) ++ R)) := fun x hx => by
    simp only [List.mem_append, ssort_mem] at hx ⊢
    rcases hx with (h | h | h) | h | h | h <;> simp [h]
  have ok1 : Okl (P ++ (A1 ++ (B1 ++ (A2 ++ (B2 ++ R))))) := okl_perm hok (by simp; omega) hm1
  have ok2 : Okl ((P ++ ssort (A1 ++ B1)) ++ (A2 ++ (B2 ++ R))) := okl_perm hok (by simp [ssort_len]; omega) hm2
  refine ⟨P ++ (A1 ++ (B1 ++ (A2 ++ (B2 ++ R)))), P ++ (ssort (A1 ++ B1) ++ (A2 ++ (B2 ++ R))), _, rfl, by simp; omega, by simp [ssort_len]; omega, fun k1 k2 => ?_, fun hk => ?_, fun k1 k2 => ?_, fun hk => ?_, fun k1 k2 => ?_, fun hk => ?_⟩
  · have hr := rot_list (P := P ++ A1) (A := A2) (B := B1) (R := B2 ++ R)
    have e1 : (P ++ A1).length = s := by simp; omega
    have e2 : (P ++ A1).length + A2.length = m := by simp; omega
    have e3 : (P ++ A1).length + A2.length + B1.length = e := by simp; omega
    rw [e3, e2, e1] at hr
    have hlN : (P ++ (A1 ++ A2 ++ (B1 ++ B2 ++ R))).length = N := by simp; omega
    have := rot45 G (P ++ (A1 ++ A2 ++ (B1 ++ B2 ++ R))) g s m e hok.len k1 k2 (by rw [hlN]; omega) cF
    rw [hlN] at this
    refine hc_row this rfl ?_
    have e4 : P ++ (A1 ++ A2 ++ (B1 ++ B2 ++ R)) = P ++ A1 ++ (A2 ++ (B1 ++ (B2 ++ R))) := by simp
    rw [e4, hr]; simp
  · have : A2 = [] ∨ B1 = [] := by
      by_cases hh : s < m
      · right; exact List.length_eq_zero_iff.1 (by omega)
      · left; exact List.length_eq_zero_iff.1 (by omega)
    rcases this with rfl | rfl <;> simp
  · exact ih P A1 B1 (A2 ++ (B2 ++ R)) N a s mid (by omega) (by simp; omega) hP (by omega) (by omega) (by omega) (by omega) sA1 sB1 ok1
  · rw [ssort_nil1 _ sA1 sB1]
    · simp
    · by_cases hh : a < s
      · right; exact List.length_eq_zero_iff.1 (by omega)
      · left; exact List.length_eq_zero_iff.1 (by omega)
  · have := ih (P ++ ssort (A1 ++ B1)) A2 B2 R N mid e b (by omega) (by simp [ssort_len]; omega) (by simp [ssort_len]; omega) (by omega) (by omega) (by omega) (by omega) sA2 sB2 ok2
    exact hc_row this (by simp) (by simp)
  · rw [ssort_nil1 (X := A2) _ sA2 sB2]
    · simp
    · by_cases hh : mid < e
      · right; exact List.length_eq_zero_iff.1 (by omega)
      · left; exact List.length_eq_zero_iff.1 (by omega)
theorem eVu {H : Hp} {k : KK} {n : Nat} (h : n ≤ 9223372036854775807) (hk : k (.v (.int .u64 (n : Int))) H) : ObE ((ap1 (fun v => pureRun Try.prog (convert 3 76 v)) (.v (.int .i64 (n : Int)))).map (·, H)) k :=
  ⟨_, _, by simp only [ap1, conc, cVu (show (0 : Int) ≤ (n : Int) by omega) (show (n : Int) ≤ 9223372036854775807 by omega)]; rfl, hk⟩
theorem eVi {H : Hp} {k : KK} {n : Nat} (h : n ≤ 9223372036854775807) (hk : k (.v (.int .i64 (n : Int))) H) : ObE ((ap1 (fun v => pureRun Try.prog (convert 76 3 v)) (.v (.int .u64 (n : Int)))).map (·, H)) k :=
  ⟨_, _, by simp only [ap1, conc, cVi (show (0 : Int) ≤ (n : Int) by omega) (show (n : Int) ≤ 9223372036854775807 by omega)]; rfl, hk⟩
theorem eShr {H : Hp} {k : KK} {n : Nat} {t : TypeId} {xo yo : Operand} (hk : k (.v (.int .u64 ((n / 2 : Nat) : Int))) H) : ObE ((binA Try.prog H .shr t false xo yo (.v (.int .u64 (n : Int))) (.v (.int .u64 1))).map (·, H)) k := by
  have := shr1 (P := Try.prog) (t := t) (xo := xo) (yo := yo) (i := n) (j := 0)
  rw [show ((n : Int) + ((0 : Nat) : Int)) = (n : Int) by simp, Nat.add_zero] at this
  exact ⟨_, _, by simp only [binA, conc, this, Bool.false_eq_true, if_false]; rfl, hk⟩
set_option maxHeartbeats 40000000 in
theorem sym44 (G : Nat → AV) (g : Nat) : ∀ (n : Nat) (P A B R : List Pr) (N a m b : Nat), A.length + B.length ≤ n → (P ++ (A ++ (B ++ R))).length = N → P.length = a → a + A.length = m → m + B.length = b → 0 < A.length → 0 < B.length → SLe A → SLe B → Okl (P ++ (A ++ (B ++ R))) →
    HC Try.prog G 68 [.ol 0 g N, I a, I m, I b, cF] [rw0 (P ++ (A ++ (B ++ R))) g] (.tup []) [rw0 (P ++ (ssort (A ++ B) ++ R)) g]
  | 0, P, A, B, R, N, a, m, b, hn, _, _, _, _, hA0, _, _, _, _ => by omega
  | n + 1, P, A, B, R, N, a, m, b, hn, hN, hP, hA, hB, hA0, hB0, sA, sB, hok => by
    by_cases hA1 : A.length = 1
    · obtain ⟨x, rfl⟩ := List.length_eq_one_iff.1 hA1
      exact symL G g P B R x N a m b hN hP (by simpa using hA) hB sB hok
    by_cases hB1 : B.length = 1
    · obtain ⟨x, rfl⟩ := List.length_eq_one_iff.1 hB1
      exact symR G g P A R x N a m b hN hP hA (by omega) (by simpa using hB) sA hok
    have hlen := hok.len
    rw [hN] at hlen
    have hbN : b ≤ N := by rw [← hN]; simp; omega
    have hsA : ∀ p ∈ A, p.1.size ≤ 9223372036854775807 := fun p hp => (hok.sz p (by simp [hp])).1
    have hsB : ∀ p ∈ B, p.1.size ≤ 9223372036854775807 := fun p hp => (hok.sz p (by simp [hp])).1
    obtain ⟨mid, hmid⟩ : ∃ mid, mid = (a + b) / 2 := ⟨_, rfl⟩
    obtain ⟨s0, hs0⟩ : ∃ s0, s0 = if mid < m then mid + m - b else a := ⟨_, rfl⟩
    obtain ⟨r0, hr0⟩ : ∃ r0, r0 = if mid < m then mid else m := ⟨_, rfl⟩
    have hsr : a ≤ s0 ∧ s0 ≤ r0 ∧ r0 ≤ m ∧ r0 ≤ mid ∧ mid + m ≤ b + s0 ∧ (s0 = a ∨ mid + m = b + s0) ∧ (r0 = m ∨ r0 = mid) ∧ mid < b ∧ a < mid := by
      rw [hs0, hr0]; split <;> omega
    obtain ⟨sr1, sr2, sr3, sr4, sr5, sr6, sr7, sr8, sr9⟩ := hsr
    have ema : ¬ ((m : Int) - (a : Int) = 1) := by omega
    have ebm : ¬ ((b : Int) - (m : Int) = 1) := by omega
    have hm := hmid.symm
    -- the two places that are looked at
    have hq : ∀ c, s0 ≤ c → c < r0 → ∃ x y : Pr, A[c - a]? = some x ∧ B[mid - 1 - c]? = some y ∧ ((P ++ (A ++ (B ++ R))).map pA)[c]? = some (.agg [S x.1, S x.2]) ∧ ((P ++ (A ++ (B ++ R))).map pA)[mid + m - 1 - c]? = some (.agg [S y.1, S y.2]) ∧ x.1.size ≤ 9223372036854775807 ∧ y.1.size ≤ 9223372036854775807 := fun c c1 c2 => by
      have i1 : c - a < A.length := by omega
      have i2 : mid - 1 - c < B.length := by omega
      refine ⟨A[c - a], B[mid - 1 - c], List.getElem?_eq_getElem i1, List.getElem?_eq_getElem i2, pAq ?_, pAq ?_, hsA _ (List.getElem_mem i1), hsB _ (List.getElem_mem i2)⟩
      · have := gdA (P := P) (A := A) (R := B ++ R) (k := c) (by omega) (by omega)
        rw [this]; congr 2; omega
      · have := gdA (P := P ++ A) (A := B) (R := R) (k := mid + m - 1 - c) (by simp; omega) (by simp; omega)
        rw [List.append_assoc] at this
        rw [this]; congr 2; simp; omega
    -- of two such the one further on is smaller
    have hmon : ∀ c d x y x' y', s0 ≤ c → c ≤ d → d < r0 → A[c - a]? = some x → B[mid - 1 - c]? = some y → A[d - a]? = some x' → B[mid - 1 - d]? = some y' → cB y.1 x.1 < 0 → cB y'.1 x'.1 < 0 := fun c d x y x' y' c1 c2 c3 e1 e2 e3 e4 h => by
      have i1 : c - a < A.length := by omega
      have i2 : mid - 1 - c < B.length := by omega
      have i3 : d - a < A.length := by omega
      have i4 : mid - 1 - d < B.length := by omega
      rw [List.getElem?_eq_getElem i1] at e1
      rw [List.getElem?_eq_getElem i2] at e2
      rw [List.getElem?_eq_getElem i3] at e3
      rw [List.getElem?_eq_getElem i4] at e4
      cases e1; cases e2; cases e3; cases e4
      have g1 := sle_at sA (i := c - a) (j := d - a) (by omega) i3
      have g2 := sle_at sB (i := mid - 1 - d) (j := mid - 1 - c) (by omega) i2
      exact cB_lt1 (cB_lt2 g2 h) g1
    have hfin := fun (s e : Nat) h1 h2 h3 hb he hlo hhi => sym_all (G := G) (g := g) (s := s) (mid := mid) (e := e) (sym44 G g n) hn hN hP hA hB sA sB hok h1 h2 h3 hb he sr8 sr9 hlo hhi
    generalize hD : P ++ (A ++ (B ++ R)) = D at *
    generalize hE : P ++ (ssort (A ++ B) ++ R) = E at *
    have hb1 : mid + m ≤ 2000000 := by omega
    have hAl : m = a + A.length := hA.symm
    have hBl : b = m + B.length := hB.symm
    clear hn hP hsA hsB hA0 hB0 hA1 hB1 hlen hok sA sB
    refine hc_ofV cop68 rfl ?_
    repeat' ((conv => whnf); first | (with_reducible refine SeqP.go ?_) | ((with_reducible refine eVu ?_ ?_); (focus omega)) | ((with_reducible refine eVi ?_ ?_); (focus omega)) | (with_reducible refine eShr ?_) | ((with_reducible refine ObN.mk ?_ ?_); (focus (first | rfl | assumption | omega | (simp only [List.length_map, List.length_append, List.length_cons, List.length_nil]; omega) | (simp; done) | (simp; omega)))) | (with_reducible refine ObT.tt ?_) | (with_reducible refine ObT.ff ?_) | ((with_reducible refine ObB.no ?_ ?_); (focus (first | assumption | omega))) | (with_reducible refine ObB.mk (fun h => ?_) (fun h => ?_)) | ((with_reducible refine ObI.nn ?_ ?_); (focus omega)) | ((with_reducible refine ObI.sn ?_ ?_ ?_); (focus omega); (focus omega)) | ((with_reducible refine ObI.sl ?_ ?_ ?_); (focus omega); (focus omega)))
    all_goals
      conv => whnf
      simp only [hm]
      refine LoopP.go (α := Nat × Nat) (fun p => s0 ≤ p.1 ∧ p.1 ≤ p.2 ∧ p.2 ≤ r0 ∧ (∀ c x y, s0 ≤ c → c < p.1 → A[c - a]? = some x → B[mid - 1 - c]? = some y → ¬ cB y.1 x.1 < 0) ∧ (∀ c x y, p.2 ≤ c → c < r0 → A[c - a]? = some x → B[mid - 1 - c]? = some y → cB y.1 x.1 < 0)) (fun p => p.2 - p.1) (fun p => [(20, some (I p.1)), (0, some (I p.2)), (1, none), (125, none), (0, none), (0, none), (0, none), (0, none), (0, none), (0, none), (0, none), (0, none), (0, none), (0, none), (0, none), (0, none), (0, none), (0, none), (0, none), (0, none), (0, none), (0, none), (0, none), (0, none), (0, none), (0, none), (0, none), (0, none), (0, none)]) (fun _ => [rw0 D g]) (s0, r0) ⟨Nat.le_refl _, sr2, Nat.le_refl _, fun c x y h1 h2 => by omega, fun c x y h1 h2 => by omega⟩ (Fg.go ?_ rfl) ?_
      · have hs1 := hs0
        have hr1 := hr0
        first | rw [if_pos (by omega)] at hs1 hr1 | rw [if_neg (by omega)] at hs1 hr1
        clear hs0 hr0
        repeat' ((conv => whnf); first | ((with_reducible refine ObEqs.mk ?_ ?_); (focus rfl)) | ((with_reducible refine ObEq1.i ?_ ?_); (focus (first | (with_reducible rfl) | omega))) | exact True.intro)
      rintro ⟨i, j⟩ ⟨i1, i2, i3, hlo, hhi⟩
      dsimp only at i1 i2 i3 hlo hhi ⊢
      clear hmid hs0 hr0 ema ebm
      by_cases hij : i < j
      · obtain ⟨x, y, ex, ey, q1, q2, hx, hy⟩ := hq ((i + j) / 2) (by omega) (by omega)
        by_cases hlt : cB y.1 x.1 < 0
        · have hhi2 : ∀ c x y, (i + j) / 2 ≤ c → c < r0 → A[c - a]? = some x → B[mid - 1 - c]? = some y → cB y.1 x.1 < 0 := fun c x' y' c1 c2 e1 e2 => hmon ((i + j) / 2) c x y x' y' (by omega) c1 c2 ex ey e1 e2 hlt
          clear hmon hfin hq hhi
          repeat' ((conv => whnf); first | (with_reducible refine SeqP.go ?_) | ((with_reducible refine eVu ?_ ?_); (focus omega)) | ((with_reducible refine eVi ?_ ?_); (focus omega)) | (with_reducible refine eShr ?_) | ((with_reducible refine ObD.mk ?_ ?_); (focus (first | rfl | (simp [hN]; done)))) | ((with_reducible refine ObN.mk ?_ ?_); (focus (first | rfl | assumption | omega | (simp only [List.length_map, List.length_append, List.length_cons, List.length_nil, hN]; omega) | (simp [hN]; done) | (simp [hN]; omega)))) | (with_reducible refine ObT.tt ?_) | (with_reducible refine ObT.ff ?_) | ((with_reducible refine ObB.yes ?_ ?_); (focus (first | assumption | (with_reducible rfl) | omega))) | ((with_reducible refine ObI.nn ?_ ?_); (focus omega)) | ((with_reducible refine ObI.sn ?_ ?_ ?_); (focus omega); (focus omega)) | ((with_reducible refine ObX.mk _ rfl ?_ ?_); (focus (first | omega | assumption | (simp only [List.length_map, List.length_append, List.length_cons, List.length_nil, List.length_take, List.length_drop, List.length_set, List.length_replicate, hN]; omega)))) | ((with_reducible refine (?_ : ObU _ _)); (refine ObU.mk _ (by first | assumption | ((conv => lhs; simp only [List.set_cons_zero, List.set_cons_succ, List.take_succ_cons, List.take_zero, List.drop_succ_cons, List.drop_zero, List.nil_append, List.cons_append, List.append_nil, List.take_nil, List.drop_nil, hN]); try rfl) | rfl) ?_)) | ((with_reducible refine (?_ : ObR _ _ _)); (first | (refine ObR.mk _ (by assumption) ?_) | (refine ObR.mk _ (by exact (by first | exact q1 | exact q2 | (refine Eq.trans (congrArg _ ?_) q2; omega))) ?_) | (refine ObR.mk _ (by with_reducible rfl) ?_) | (refine ObR.map (by (first | omega | assumption | (simp only [List.length_map, List.length_append, List.length_cons, List.length_nil, List.length_take, List.length_drop, List.length_set, List.length_replicate, hN]; omega))) (fun x hx => ?_)) | (refine ObR.mk _ rfl ?_))) | ((with_reducible refine ObH.f 64 ?_); (first | (with_reducible refine ObH.mk _ _ ((cmpC G _ hy hx)) ?_) | (refine ObH.mk _ _ ((cmpC G _ hy hx)) ?_))))
          conv => whnf
          refine Again.mk (i, (i + j) / 2) ?_ ?_ (Fg.go ?_ rfl)
          · exact ⟨i1, by dsimp only; omega, by dsimp only; omega, hlo, hhi2⟩
          · dsimp only; omega
          repeat' ((conv => whnf); first | ((with_reducible refine ObEqs.mk ?_ ?_); (focus rfl)) | ((with_reducible refine ObEq1.i ?_ ?_); (focus (first | (with_reducible rfl) | omega))) | exact True.intro)
        · have hlo2 : ∀ c x y, s0 ≤ c → c < (i + j) / 2 + 1 → A[c - a]? = some x → B[mid - 1 - c]? = some y → ¬ cB y.1 x.1 < 0 := fun c x' y' c1 c2 e1 e2 hQ => hlt (hmon c ((i + j) / 2) x' y' x y c1 (by omega) (by omega) e1 e2 ex ey hQ)
          clear hmon hfin hq hlo
          repeat' ((conv => whnf); first | (with_reducible refine SeqP.go ?_) | ((with_reducible refine eVu ?_ ?_); (focus omega)) | ((with_reducible refine eVi ?_ ?_); (focus omega)) | (with_reducible refine eShr ?_) | ((with_reducible refine ObD.mk ?_ ?_); (focus (first | rfl | (simp [hN]; done)))) | ((with_reducible refine ObN.mk ?_ ?_); (focus (first | rfl | assumption | omega | (simp only [List.length_map, List.length_append, List.length_cons, List.length_nil, hN]; omega) | (simp [hN]; done) | (simp [hN]; omega)))) | (with_reducible refine ObT.tt ?_) | (with_reducible refine ObT.ff ?_) | ((with_reducible refine ObB.yes ?_ ?_); (focus (first | assumption | (with_reducible rfl) | omega))) | ((with_reducible refine ObB.no ?_ ?_); (focus (first | assumption | omega))) | ((with_reducible refine ObI.nn ?_ ?_); (focus omega)) | ((with_reducible refine ObI.nl ?_ ?_); (focus omega)) | ((with_reducible refine ObI.sn ?_ ?_ ?_); (focus omega); (focus omega)) | ((with_reducible refine ObX.mk _ rfl ?_ ?_); (focus (first | omega | assumption | (simp only [List.length_map, List.length_append, List.length_cons, List.length_nil, List.length_take, List.length_drop, List.length_set, List.length_replicate, hN]; omega)))) | ((with_reducible refine (?_ : ObU _ _)); (refine ObU.mk _ (by first | assumption | ((conv => lhs; simp only [List.set_cons_zero, List.set_cons_succ, List.take_succ_cons, List.take_zero, List.drop_succ_cons, List.drop_zero, List.nil_append, List.cons_append, List.append_nil, List.take_nil, List.drop_nil, hN]); try rfl) | rfl) ?_)) | ((with_reducible refine (?_ : ObR _ _ _)); (first | (refine ObR.mk _ (by assumption) ?_) | (refine ObR.mk _ (by exact (by first | exact q1 | exact q2 | (refine Eq.trans (congrArg _ ?_) q2; omega))) ?_) | (refine ObR.mk _ (by with_reducible rfl) ?_) | (refine ObR.map (by (first | omega | assumption | (simp only [List.length_map, List.length_append, List.length_cons, List.length_nil, List.length_take, List.length_drop, List.length_set, List.length_replicate, hN]; omega))) (fun x hx => ?_)) | (refine ObR.mk _ rfl ?_))) | ((with_reducible refine ObH.f 64 ?_); (first | (with_reducible refine ObH.mk _ _ ((cmpC G _ hy hx)) ?_) | (refine ObH.mk _ _ ((cmpC G _ hy hx)) ?_))))
          conv => whnf
          refine Again.mk ((i + j) / 2 + 1, j) ?_ ?_ (Fg.go ?_ rfl)
          · exact ⟨by dsimp only; omega, by dsimp only; omega, i3, hlo2, hhi⟩
          · dsimp only; omega
          repeat' ((conv => whnf); first | ((with_reducible refine ObEqs.mk ?_ ?_); (focus rfl)) | ((with_reducible refine ObEq1.i ?_ ?_); (focus (first | (with_reducible rfl) | omega))) | exact True.intro)
      · obtain rfl : j = i := by omega
        obtain ⟨e, he⟩ : ∃ e, e + j = mid + m := ⟨mid + m - j, by omega⟩
        obtain ⟨D1, D2, D3, hD3, l1, l2, f1, f2, f3, f4, f5, f6⟩ := hfin j e (by omega) (by omega) (by omega) (by omega) he (fun c1 c2 x y e1 e2 => hlo (j - 1) x y (by omega) (by omega) e1 (by rw [show mid - 1 - (j - 1) = mid - j by omega]; exact e2)) (fun c1 c2 x y e1 e2 => hhi j x y (by omega) (by omega) e1 e2)
        subst hD3
        have ee : e = mid + m - j := by omega
        have hja : a ≤ j ∧ j ≤ m ∧ j ≤ mid := by omega
        have heN : e ≤ b := by omega
        clear hmon hfin hq hlo hhi i1 i2 i3 sr1 sr2 sr3 sr4 sr5 sr6 sr7 hij he
        obtain ⟨ja, jm, jd⟩ := hja
        subst ee
        by_cases p1 : j < m <;> by_cases p3 : a < j <;> by_cases p4 : j < mid <;> by_cases p6 : mid + m - j < b <;> (try (exfalso; omega))
        all_goals
          (first | (have r1 := f1 p1 (by omega)) | (have r1 := f2 (by omega); subst r1))
          (first | (have r2 := f3 p3 p4) | (have r2 := f4 (by omega); subst r2))
          (first | (have r3 := f5 (by omega) p6) | (have r3 := f6 (by omega); subst r3))
          clear f1 f2 f3 f4 f5 f6
          repeat' ((conv => whnf); first | (with_reducible refine SeqP.go ?_) | ((with_reducible refine ObN.mk ?_ ?_); (focus (first | rfl | assumption | omega | (simp only [List.length_map, List.length_append, List.length_cons, List.length_nil]; omega) | (simp; done) | (simp; omega)))) | (with_reducible refine ObT.tt ?_) | (with_reducible refine ObT.ff ?_) | ((with_reducible refine ObB.yes ?_ ?_); (focus (first | assumption | (with_reducible rfl) | omega))) | ((with_reducible refine ObB.no ?_ ?_); (focus (first | assumption | omega))) | ((with_reducible refine ObI.sn ?_ ?_ ?_); (focus omega); (focus omega)) | ((with_reducible refine ObH.f 69 ?_); (first | (with_reducible refine ObH.mk _ _ (r1) ?_) | (refine ObH.mk _ _ (r1) ?_))) | ((with_reducible refine ObH.f 68 ?_); (first | (with_reducible refine ObH.mk _ _ (r2) ?_) | (refine ObH.mk _ _ (r2) ?_))) | ((with_reducible refine ObH.f 68 ?_); (first | (with_reducible refine ObH.mk _ _ (r3) ?_) | (refine ObH.mk _ _ (r3) ?_))) | (exact ObEnd.eq rfl rfl))
end Go.Proofs.Ytfdfmhapcjckoaa.Sim.Pr7
