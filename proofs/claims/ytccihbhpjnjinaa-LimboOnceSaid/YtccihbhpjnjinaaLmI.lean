/- Lists of retired nodes: each item is freed, or kept; the laws. -/
import Derived.Test.YtccihbhpjnjinaaLmH
namespace Go.Proofs.Ytccihbhpjnjinaa.Sim
open Go.RowKit
set_option maxRecDepth 100000
set_option linter.unusedSimpArgs false
set_option linter.unusedVariables false
def mC (r : Int) (m : List It) : Nat := m.countP fun x => decide (x.1 = r)
def manyN (r : Int) (l : List Gr) : Nat := (l.map fun g => mC r g.2.2).sum
theorem mC_le (r : Int) (m : List It) : mC r m ≤ m.length := List.countP_le_length
theorem mC_snoc {r : Int} {m : List It} {k : Nat} (h : k < m.length) : mC r (m.take (k + 1)) = mC r (m.take k) + if m[k].1 = r then 1 else 0 := by
  rw [List.take_succ_eq_append_getElem h, mC, mC, List.countP_append, List.countP_cons, List.countP_nil]
  simp
theorem manyN_snoc {r : Int} {l : List Gr} {k : Nat} (h : k < l.length) : manyN r (l.take (k + 1)) = manyN r (l.take k) + mC r l[k].2.2 := by
  unfold manyN
  rw [List.take_succ_eq_append_getElem h, List.map_append, List.sum_append]
  simp only [List.map_cons, List.map_nil, List.sum_cons, List.sum_nil, Nat.add_zero]
theorem manyN_le {r : Int} {l : List Gr} (h : ∀ g ∈ l, g.2.2.length ≤ 1000) : manyN r l ≤ 1000 * l.length := by
  induction l with
  | nil => simp [manyN]
  | cons g l ih =>
    have h1 := ih (fun g hg => h g (by simp [hg]))
    have h2 := h g (by simp)
    have h3 := mC_le r g.2.2
    simp only [manyN, List.map_cons, List.sum_cons, List.length_cons] at h1 ⊢
    omega
theorem mC_part (vs es : List Int) (a b : Int) (r : Int) (m : List It) : mC r m = (goneI vs es a b m).countP (fun x => decide (x = r)) + mC r (restI vs es a b m) := by
  induction m with
  | nil => rfl
  | cons x m ih =>
    simp only [mC, goneI, restI, List.countP_cons, List.filter_cons] at ih ⊢
    cases h : freeV vs es (a, b, []) x
    all_goals simp only [Bool.not_true, Bool.not_false, Bool.false_eq_true, if_true, if_false, List.map_cons, List.countP_cons] at ih ⊢
    all_goals omega
theorem many_part (vs es : List Int) (r : Int) (l : List Gr) : manyN r l = (sF vs es l).countP (fun x => decide (x = r)) + manyN r (sK vs es l) := by
  induction l with
  | nil => rfl
  | cons g l ih =>
    have h := mC_part vs es g.1 g.2.1 r g.2.2
    simp only [manyN, sF, sK, List.map_cons, List.sum_cons, List.flatMap_cons, List.countP_append, List.map_append, List.sum_append] at ih ⊢
    have hk : ((keepG vs es g).map fun g => mC r g.2.2).sum = mC r (restI vs es g.1 g.2.1 g.2.2) := by
      unfold keepG
      split
      · rename_i h0; rw [h0]; rfl
      · simp
    rw [hk]; omega
theorem len_part (vs es : List Int) (a b : Int) (m : List It) : m.length = (goneI vs es a b m).length + (restI vs es a b m).length := by
  induction m with
  | nil => rfl
  | cons x m ih =>
    simp only [goneI, restI, List.filter_cons, List.length_cons, List.length_map] at ih ⊢
    cases h : freeV vs es (a, b, []) x
    all_goals simp only [Bool.not_true, Bool.not_false, Bool.false_eq_true, if_true, if_false, List.length_cons, List.length_map] at ih ⊢
    all_goals omega
theorem cnt_part (vs es : List Int) (l : List Gr) : cntG l = (sF vs es l).length + cntG (sK vs es l) := by
  induction l with
  | nil => rfl
  | cons g l ih =>
    have h := len_part vs es g.1 g.2.1 g.2.2
    simp only [cntG, sF, sK, List.map_cons, List.sum_cons, List.flatMap_cons, List.length_append, List.map_append, List.sum_append] at ih ⊢
    have hk : ((keepG vs es g).map fun g => g.2.2.length).sum = (restI vs es g.1 g.2.1 g.2.2).length := by
      unfold keepG
      split
      · rename_i h0; rw [h0]; rfl
      · simp
    rw [hk]; omega
set_option maxHeartbeats 1000000 in
theorem many16 (G : Nat → AV) (l : List Gr) (r : Int) (hl : l.length ≤ 1000) (hg : ∀ g ∈ l, g.2.2.length ≤ 1000) : PC Try.prog G 16 [.sl 3 (l.map grA), I r] (I (manyN r l : Nat)) := by
  refine pc_ofV cop16 ?_
  repeat' ((conv => whnf); first | (with_reducible refine SeqP.go ?_))
  conv => whnf
  refine LoopP.go (α := Nat) (fun i => i ≤ l.length) (fun i => l.length - i) (fun i => [(5, some (I (manyN r (l.take i) : Nat))), (0, some (I i)), (0, none), (0, none), (0, none), (0, none), (0, none), (0, none), (0, none), (0, none), (0, none), (0, none), (0, none), (0, none), (0, none), (0, none), (0, none), (0, none), (0, none), (0, none), (0, none), (0, none), (0, none), (0, none), (0, none), (0, none), (0, none), (0, none), (0, none), (0, none), (0, none), (0, none)]) (fun _ => []) 0 (Nat.zero_le _) (Fg.go ?_ rfl) ?_
  · repeat' ((conv => whnf); first | ((with_reducible refine ObEqs.mk ?_ ?_); (focus rfl)) | ((with_reducible refine ObEq1.i ?_ ?_); (focus (first | (with_reducible rfl) | omega))) | ((with_reducible refine ObEq1.mk ?_ ?_); (focus (first | rfl | assumption))) | exact True.intro)
  intro i hi
  have hb := manyN_le (r := r) (l := l.take i) (fun g h => hg g (List.mem_of_mem_take h))
  rw [List.length_take] at hb
  by_cases hlt : i < l.length
  · have hq := gr_at hlt
    have hm := hg _ (List.getElem_mem hlt)
    have hsn := manyN_snoc (r := r) hlt
    generalize l[i] = g at *
    obtain ⟨a, b, m⟩ := g
    dsimp only at hq hm hsn
    repeat' ((conv => whnf); first | (with_reducible refine SeqP.go ?_) | ((with_reducible refine ObN.mk ?_ ?_); (focus (first | rfl | assumption | omega | (simp only [List.length_map, List.length_append, List.length_cons, List.length_nil]; omega) | (simp; done) | (simp; omega)))) | (with_reducible refine ObT.tt ?_) | ((with_reducible refine ObB.yes ?_ ?_); (focus (first | assumption | (with_reducible rfl) | omega))) | ((with_reducible refine (?_ : ObL _ _)); (refine ObL.mk _ (by first | exact (List.length_map _) | assumption | exact (List.length_map _).trans (by assumption) | exact List.length_map _ | rfl) ?_)))
    conv => whnf
    refine LoopP.go (α := Nat) (fun k => k ≤ m.length) (fun k => m.length - k) (fun k => [(5, some (I (manyN r (l.take i) + mC r (m.take k) : Nat))), (1, some (I k)), (6, none), (0, none), (0, none), (0, none), (0, none), (0, none), (0, none), (0, none), (0, none), (0, none), (0, none), (0, none), (0, none), (0, none), (0, none), (0, none), (0, none), (0, none), (0, none), (0, none), (0, none), (0, none), (0, none)]) (fun _ => []) 0 (Nat.zero_le _) (Fg.go ?_ rfl) ?_
    · repeat' ((conv => whnf); first | ((with_reducible refine ObEqs.mk ?_ ?_); (focus rfl)) | ((with_reducible refine ObEq1.i ?_ ?_); (focus (first | (with_reducible rfl) | omega))) | ((with_reducible refine ObEq1.mk ?_ ?_); (focus (first | rfl | assumption))) | exact True.intro)
    intro k hk
    have hc := mC_le r (m.take k)
    rw [List.length_take] at hc
    by_cases hkt : k < m.length
    · have hq2 := it_at hkt
      have hs2 := mC_snoc (r := r) hkt
      by_cases he : m[k].1 = r
      · rw [if_pos he] at hs2
        repeat' ((conv => whnf); first | (with_reducible refine SeqP.go ?_) | ((with_reducible refine ObN.mk ?_ ?_); (focus (first | rfl | assumption | omega | (simp only [List.length_map, List.length_append, List.length_cons, List.length_nil]; omega) | (simp; done) | (simp; omega)))) | (with_reducible refine ObT.tt ?_) | ((with_reducible refine ObB.yes ?_ ?_); (focus (first | assumption | (with_reducible rfl) | omega))) | ((with_reducible refine ObI.nl ?_ ?_); (focus omega)) | ((with_reducible refine ObX.mk _ rfl ?_ ?_); (focus (first | omega | assumption | (simp only [List.length_map, List.length_append, List.length_cons, List.length_nil, List.length_take, List.length_drop, List.length_set, List.length_replicate]; omega)))) | ((with_reducible refine (?_ : ObL _ _)); (refine ObL.mk _ (by first | exact (List.length_map _) | assumption | exact (List.length_map _).trans (by assumption) | exact List.length_map _ | rfl) ?_)) | ((with_reducible refine (?_ : ObR _ _ _)); (first | (refine ObR.mk _ (by assumption) ?_) | (refine ObR.mk _ (by with_reducible rfl) ?_) | (refine ObR.map (by (first | omega | assumption | (simp only [List.length_map, List.length_append, List.length_cons, List.length_nil, List.length_take, List.length_drop, List.length_set, List.length_replicate]; omega))) (fun x hx => ?_)) | (refine ObR.mk _ rfl ?_))))
        conv => whnf
        rw [show manyN r (l.take i) + mC r (m.take k) + 1 = manyN r (l.take i) + mC r (m.take (k + 1)) by omega]
        refine Again.mk (k + 1) ?_ ?_ (Fg.go ?_ rfl)
        · omega
        · omega
        repeat' ((conv => whnf); first | ((with_reducible refine ObEqs.mk ?_ ?_); (focus rfl)) | ((with_reducible refine ObEq1.i ?_ ?_); (focus (first | (with_reducible rfl) | omega))) | exact True.intro)
      · rw [if_neg he] at hs2
        have hs3 : mC r (m.take k) = mC r (m.take (k + 1)) := by omega
        repeat' ((conv => whnf); first | (with_reducible refine SeqP.go ?_) | ((with_reducible refine ObN.mk ?_ ?_); (focus (first | rfl | assumption | omega | (simp only [List.length_map, List.length_append, List.length_cons, List.length_nil]; omega) | (simp; done) | (simp; omega)))) | (with_reducible refine ObT.tt ?_) | (with_reducible refine ObT.ff ?_) | ((with_reducible refine ObB.yes ?_ ?_); (focus (first | assumption | (with_reducible rfl) | omega))) | ((with_reducible refine ObB.no ?_ ?_); (focus (first | assumption | omega))) | ((with_reducible refine ObI.nl ?_ ?_); (focus omega)) | ((with_reducible refine ObX.mk _ rfl ?_ ?_); (focus (first | omega | assumption | (simp only [List.length_map, List.length_append, List.length_cons, List.length_nil, List.length_take, List.length_drop, List.length_set, List.length_replicate]; omega)))) | ((with_reducible refine (?_ : ObL _ _)); (refine ObL.mk _ (by first | exact (List.length_map _) | assumption | exact (List.length_map _).trans (by assumption) | exact List.length_map _ | rfl) ?_)) | ((with_reducible refine (?_ : ObR _ _ _)); (first | (refine ObR.mk _ (by assumption) ?_) | (refine ObR.mk _ (by with_reducible rfl) ?_) | (refine ObR.map (by (first | omega | assumption | (simp only [List.length_map, List.length_append, List.length_cons, List.length_nil, List.length_take, List.length_drop, List.length_set, List.length_replicate]; omega))) (fun x hx => ?_)) | (refine ObR.mk _ rfl ?_))))
        conv => whnf
        rw [hs3]
        refine Again.mk (k + 1) ?_ ?_ (Fg.go ?_ rfl)
        · omega
        · omega
        repeat' ((conv => whnf); first | ((with_reducible refine ObEqs.mk ?_ ?_); (focus rfl)) | ((with_reducible refine ObEq1.i ?_ ?_); (focus (first | (with_reducible rfl) | omega))) | exact True.intro)
    · obtain rfl : k = m.length := by omega
      rw [List.take_length] at *
      repeat' ((conv => whnf); first | (with_reducible refine SeqP.go ?_) | ((with_reducible refine ObN.mk ?_ ?_); (focus (first | rfl | assumption | omega | (simp only [List.length_map, List.length_append, List.length_cons, List.length_nil]; omega) | (simp; done) | (simp; omega)))) | (with_reducible refine ObT.ff ?_) | ((with_reducible refine ObB.no ?_ ?_); (focus (first | assumption | omega))) | ((with_reducible refine ObI.nl ?_ ?_); (focus omega)) | ((with_reducible refine ObX.mk _ rfl ?_ ?_); (focus (first | omega | assumption | (simp only [List.length_map, List.length_append, List.length_cons, List.length_nil, List.length_take, List.length_drop, List.length_set, List.length_replicate]; omega)))) | ((with_reducible refine (?_ : ObL _ _)); (refine ObL.mk _ (by first | exact (List.length_map _) | assumption | exact (List.length_map _).trans (by assumption) | exact List.length_map _ | rfl) ?_)) | ((with_reducible refine (?_ : ObR _ _ _)); (first | (refine ObR.mk _ (by assumption) ?_) | (refine ObR.mk _ (by with_reducible rfl) ?_) | (refine ObR.map (by (first | omega | assumption | (simp only [List.length_map, List.length_append, List.length_cons, List.length_nil, List.length_take, List.length_drop, List.length_set, List.length_replicate]; omega))) (fun x hx => ?_)) | (refine ObR.mk _ rfl ?_))))
      conv => whnf
      rw [← hsn]
      refine Again.mk (i + 1) ?_ ?_ (Fg.go ?_ rfl)
      · omega
      · omega
      repeat' ((conv => whnf); first | ((with_reducible refine ObEqs.mk ?_ ?_); (focus rfl)) | ((with_reducible refine ObEq1.i ?_ ?_); (focus (first | (with_reducible rfl) | omega))) | exact True.intro)
  · obtain rfl : i = l.length := by omega
    rw [List.take_length] at *
    repeat' ((conv => whnf); first | (with_reducible refine SeqP.go ?_) | ((with_reducible refine ObN.mk ?_ ?_); (focus (first | rfl | assumption | omega | (simp only [List.length_map, List.length_append, List.length_cons, List.length_nil]; omega) | (simp; done) | (simp; omega)))) | (with_reducible refine ObT.ff ?_) | ((with_reducible refine ObB.no ?_ ?_); (focus (first | assumption | omega))) | ((with_reducible refine (?_ : ObL _ _)); (refine ObL.mk _ (by first | exact (List.length_map _) | assumption | exact (List.length_map _).trans (by assumption) | exact List.length_map _ | rfl) ?_)) | ((with_reducible refine ObEq.i ?_); (focus (first | (with_reducible rfl) | omega))))
theorem cF_snoc {r : Int} {f : List Int} {k : Nat} (h : k < f.length) : (f.take (k + 1)).countP (fun x => decide (x = r)) = (f.take k).countP (fun x => decide (x = r)) + if f[k] = r then 1 else 0 := by
  rw [List.take_succ_eq_append_getElem h, List.countP_append, List.countP_cons, List.countP_nil]
  simp
set_option maxHeartbeats 4000000 in
theorem once (G : Nat → AV) (l : List Gr) (v e : List Int) (hl : l.length ≤ 9223372036854775807) (hg : ∀ g ∈ l, g.2.2.length ≤ 9223372036854775807) (hv : v.length ≤ 9223372036854775807) (he : e.length ≤ 9223372036854775807) : PC Try.prog G 4 [.sl 3 (l.map grA), .sl 1 (v.map iA), .sl 1 (e.map iA)] (Bo true) := by
  have hv20 := tk_len v
  have he20 := tk_len e
  have hL := fewG_len l
  have hI := fewG_items l
  have c7v := ints7 G (v.take 20) (by omega)
  have c7e := ints7 G (e.take 20) (by omega)
  have c9 := give9 G l hl hg
  have c8 := split8 G (fewG l) (v.take 20) (e.take 20) (by omega) (by omega) (by omega) (fun g h => by have := hI g h; omega)
  have hk := sK_items (vs := v.take 20) (es := e.take 20) hI
  have hkl := sK_len (v.take 20) (e.take 20) (fewG l)
  have hfl := sF_len (vs := v.take 20) (es := e.take 20) (l := fewG l) (fun g h => by have := hI g h; omega)
  have c14 := count14 G (fewG l) (by omega) (fun g h => by have := hI g h; omega)
  have c14' := count14 G (sK (v.take 20) (e.take 20) (fewG l)) (by omega) (fun g h => by have := hk g h; omega)
  have c15 := works G
  have hpart := many_part (v.take 20) (e.take 20)
  have hcp := cnt_part (v.take 20) (e.take 20) (fewG l)
  have hpart := fun r => hpart r (fewG l)
  generalize sK (v.take 20) (e.take 20) (fewG l) = K at *
  generalize sF (v.take 20) (e.take 20) (fewG l) = F at *
  generalize fewG l = L at *
  have hcK := cntG_le (l := K) (fun g h => by have := hk g h; omega)
  have hcL := cntG_le (l := L) (fun g h => by have := hI g h; omega)
  refine pc_ofV cop4 ?_
  repeat' ((conv => whnf); first | (with_reducible refine SeqP.go ?_) | (rw [min20]) | ((with_reducible refine ObD.mk ?_ ?_); (focus (first | rfl | (simp; done)))) | ((with_reducible refine ObN.mk ?_ ?_); (focus (first | rfl | assumption | omega | (simp only [List.length_map, List.length_append, List.length_cons, List.length_nil]; omega) | (simp; done) | (simp; omega)))) | (with_reducible refine ObT.tt ?_) | (with_reducible refine ObT.ff ?_) | (with_reducible refine ObZ.mk _ rfl ?_) | ((with_reducible refine (?_ : ObL _ _)); (refine ObL.mk _ (by first | exact (List.length_map _) | assumption | exact (List.length_map _).trans (by assumption) | exact List.length_map _ | rfl) ?_)) | ((with_reducible refine (?_ : ObU _ _)); (refine ObU.mk _ (by first | exact tk_min | assumption | ((conv => lhs; simp only [List.set_cons_zero, List.set_cons_succ, List.take_succ_cons, List.take_zero, List.drop_succ_cons, List.drop_zero, List.nil_append, List.cons_append, List.append_nil, List.take_nil, List.drop_nil]); try rfl) | rfl) ?_)) | ((with_reducible refine ObC.f 7 ?_); (first | (with_reducible refine ObC.mk _ (c7v) ?_) | (refine ObC.mk _ (c7v) ?_))) | ((with_reducible refine ObC.f 7 ?_); (first | (with_reducible refine ObC.mk _ (c7e) ?_) | (refine ObC.mk _ (c7e) ?_))) | ((with_reducible refine ObC.f 9 ?_); (first | (with_reducible refine ObC.mk _ (c9) ?_) | (refine ObC.mk _ (c9) ?_))) | ((with_reducible refine ObH.f 8 ?_); (first | (with_reducible refine ObH.mk _ _ ((hc_pc (by rfl) c8 _)) ?_) | (refine ObH.mk _ _ ((hc_pc (by rfl) c8 _)) ?_))) | ((with_reducible refine ObC.f 15 ?_); (first | (with_reducible refine ObC.mk _ (c15) ?_) | (refine ObC.mk _ (c15) ?_))) | ((with_reducible refine ObJ.zn ?_ ?_); (focus (first | omega | assumption | (simp only [List.length_map, List.length_append, List.length_cons, List.length_nil, List.length_take, List.length_drop, List.length_set, List.length_replicate]; omega)))) | (with_reducible refine ObE.min ?_))
  conv => whnf
  refine LoopP.go (α := Nat) (fun i => i ≤ L.length) (fun i => L.length - i) (fun i => [(6, some (Bo false)), (3, some (I i)), (0, none), (0, none), (0, none), (0, none), (22, none), (0, none), (0, none), (0, none), (0, none), (0, none), (0, none), (0, none), (0, none), (0, none), (0, none), (0, none), (0, none), (0, none), (0, none), (0, none), (0, none), (0, none), (0, none), (0, none), (0, none), (0, none), (0, none), (0, none), (0, none), (0, none), (0, none), (0, none), (0, none), (0, none), (0, none), (0, none), (0, none), (0, none), (0, none), (0, none), (0, none), (0, none), (0, none), (0, none), (0, none), (0, none), (0, none), (0, none), (0, none), (0, none), (0, none), (0, none)]) (fun _ => []) 0 (Nat.zero_le _) (Fg.go ?_ rfl) ?_
  · repeat' ((conv => whnf); first | ((with_reducible refine ObEqs.mk ?_ ?_); (focus rfl)) | ((with_reducible refine ObEq1.i ?_ ?_); (focus (first | (with_reducible rfl) | omega))) | ((with_reducible refine ObEq1.mk ?_ ?_); (focus (first | rfl | assumption))) | exact True.intro)
  intro i hi
  by_cases hlt : i < L.length
  · have hq := gr_at hlt
    have hm := hI _ (List.getElem_mem hlt)
    generalize L[i] = g at *
    obtain ⟨a, b, m⟩ := g
    dsimp only at hq hm
    repeat' ((conv => whnf); first | (with_reducible refine SeqP.go ?_) | ((with_reducible refine ObN.mk ?_ ?_); (focus (first | rfl | assumption | omega | (simp only [List.length_map, List.length_append, List.length_cons, List.length_nil]; omega) | (simp; done) | (simp; omega)))) | (with_reducible refine ObT.tt ?_) | ((with_reducible refine ObB.yes ?_ ?_); (focus (first | assumption | (with_reducible rfl) | omega))) | ((with_reducible refine (?_ : ObL _ _)); (refine ObL.mk _ (by first | exact (List.length_map _) | assumption | exact (List.length_map _).trans (by assumption) | exact List.length_map _ | rfl) ?_)))
    conv => whnf
    refine LoopP.go (α := Nat) (fun k => k ≤ m.length) (fun k => m.length - k) (fun k => [(6, some (Bo false)), (4, some (I k)), (0, none), (0, none), (0, none), (28, none), (0, none), (0, none), (0, none), (0, none), (0, none), (0, none), (0, none), (0, none), (0, none), (0, none), (0, none), (0, none), (0, none), (0, none), (0, none), (0, none), (0, none), (0, none), (0, none), (0, none), (0, none), (0, none), (0, none), (0, none), (0, none), (0, none), (0, none), (0, none), (0, none), (0, none), (0, none), (0, none), (0, none), (0, none), (0, none), (0, none), (0, none), (0, none), (0, none), (0, none), (0, none)]) (fun _ => []) 0 (Nat.zero_le _) (Fg.go ?_ rfl) ?_
    · repeat' ((conv => whnf); first | ((with_reducible refine ObEqs.mk ?_ ?_); (focus rfl)) | ((with_reducible refine ObEq1.i ?_ ?_); (focus (first | (with_reducible rfl) | omega))) | ((with_reducible refine ObEq1.mk ?_ ?_); (focus (first | rfl | assumption))) | exact True.intro)
    intro k hk'
    by_cases hkt : k < m.length
    · have hq2 := it_at hkt
      generalize m[k] = x at *
      obtain ⟨x1, x2⟩ := x
      dsimp only at hq2
      have hp := hpart x1
      have c16 := many16 G L x1 (by omega) (fun g h => by have := hI g h; omega)
      have c16' := many16 G K x1 (by omega) (fun g h => by have := hk g h; omega)
      have b1 := manyN_le (r := x1) (l := L) (fun g h => by have := hI g h; omega)
      have b2 := manyN_le (r := x1) (l := K) (fun g h => by have := hk g h; omega)
      repeat' ((conv => whnf); first | (with_reducible refine SeqP.go ?_) | ((with_reducible refine ObN.mk ?_ ?_); (focus (first | rfl | assumption | omega | (simp only [List.length_map, List.length_append, List.length_cons, List.length_nil]; omega) | (simp; done) | (simp; omega)))) | (with_reducible refine ObT.tt ?_) | ((with_reducible refine ObB.yes ?_ ?_); (focus (first | assumption | (with_reducible rfl) | omega))) | ((with_reducible refine ObX.mk _ rfl ?_ ?_); (focus (first | omega | assumption | (simp only [List.length_map, List.length_append, List.length_cons, List.length_nil, List.length_take, List.length_drop, List.length_set, List.length_replicate]; omega)))) | ((with_reducible refine (?_ : ObL _ _)); (refine ObL.mk _ (by first | exact (List.length_map _) | assumption | exact (List.length_map _).trans (by assumption) | exact List.length_map _ | rfl) ?_)) | ((with_reducible refine (?_ : ObR _ _ _)); (first | (refine ObR.mk _ (by assumption) ?_) | (refine ObR.mk _ (by with_reducible rfl) ?_) | (refine ObR.map (by (first | omega | assumption | (simp only [List.length_map, List.length_append, List.length_cons, List.length_nil, List.length_take, List.length_drop, List.length_set, List.length_replicate]; omega))) (fun x hx => ?_)) | (refine ObR.mk _ rfl ?_))))
      conv => whnf
      refine LoopP.go (α := Nat) (fun j => j ≤ F.length) (fun j => F.length - j) (fun j => [(13, some (I ((F.take j).countP (fun x => decide (x = x1)) : Nat))), (0, some (I j)), (47, none), (0, none), (0, none), (0, none), (0, none), (0, none), (0, none), (0, none), (0, none), (0, none), (0, none), (0, none), (0, none), (0, none)]) (fun _ => []) 0 (Nat.zero_le _) (Fg.go ?_ rfl) ?_
      · repeat' ((conv => whnf); first | ((with_reducible refine ObEqs.mk ?_ ?_); (focus rfl)) | ((with_reducible refine ObEq1.i ?_ ?_); (focus (first | (with_reducible rfl) | omega))) | ((with_reducible refine ObEq1.mk ?_ ?_); (focus (first | rfl | assumption))) | exact True.intro)
      intro j hj
      have hc := List.countP_le_length (p := fun x => decide (x = x1)) (l := F.take j)
      rw [List.length_take] at hc
      by_cases hjt : j < F.length
      · have hq3 := i_at hjt
        have hs := cF_snoc (r := x1) hjt
        by_cases he : F[j] = x1
        · rw [if_pos he] at hs
          repeat' ((conv => whnf); first | (with_reducible refine SeqP.go ?_) | ((with_reducible refine ObN.mk ?_ ?_); (focus (first | rfl | assumption | omega | (simp only [List.length_map, List.length_append, List.length_cons, List.length_nil]; omega) | (simp; done) | (simp; omega)))) | (with_reducible refine ObT.tt ?_) | ((with_reducible refine ObB.yes ?_ ?_); (focus (first | assumption | (with_reducible rfl) | omega))) | ((with_reducible refine ObI.nl ?_ ?_); (focus omega)) | ((with_reducible refine ObX.mk _ rfl ?_ ?_); (focus (first | omega | assumption | (simp only [List.length_map, List.length_append, List.length_cons, List.length_nil, List.length_take, List.length_drop, List.length_set, List.length_replicate]; omega)))) | ((with_reducible refine (?_ : ObL _ _)); (refine ObL.mk _ (by first | exact (List.length_map _) | assumption | exact (List.length_map _).trans (by assumption) | exact List.length_map _ | rfl) ?_)) | ((with_reducible refine (?_ : ObR _ _ _)); (first | (refine ObR.mk _ (by assumption) ?_) | (refine ObR.mk _ (by with_reducible rfl) ?_) | (refine ObR.map (by (first | omega | assumption | (simp only [List.length_map, List.length_append, List.length_cons, List.length_nil, List.length_take, List.length_drop, List.length_set, List.length_replicate]; omega))) (fun x hx => ?_)) | (refine ObR.mk _ rfl ?_))))
          conv => whnf
          rw [← hs]
          refine Again.mk (j + 1) ?_ ?_ (Fg.go ?_ rfl)
          · omega
          · omega
          repeat' ((conv => whnf); first | ((with_reducible refine ObEqs.mk ?_ ?_); (focus rfl)) | ((with_reducible refine ObEq1.i ?_ ?_); (focus (first | (with_reducible rfl) | omega))) | exact True.intro)
        · rw [if_neg he] at hs
          have hs3 : (F.take j).countP (fun x => decide (x = x1)) = (F.take (j + 1)).countP (fun x => decide (x = x1)) := by omega
          repeat' ((conv => whnf); first | (with_reducible refine SeqP.go ?_) | ((with_reducible refine ObN.mk ?_ ?_); (focus (first | rfl | assumption | omega | (simp only [List.length_map, List.length_append, List.length_cons, List.length_nil]; omega) | (simp; done) | (simp; omega)))) | (with_reducible refine ObT.tt ?_) | (with_reducible refine ObT.ff ?_) | ((with_reducible refine ObB.yes ?_ ?_); (focus (first | assumption | (with_reducible rfl) | omega))) | ((with_reducible refine ObB.no ?_ ?_); (focus (first | assumption | omega))) | ((with_reducible refine ObI.nl ?_ ?_); (focus omega)) | ((with_reducible refine ObX.mk _ rfl ?_ ?_); (focus (first | omega | assumption | (simp only [List.length_map, List.length_append, List.length_cons, List.length_nil, List.length_take, List.length_drop, List.length_set, List.length_replicate]; omega)))) | ((with_reducible refine (?_ : ObL _ _)); (refine ObL.mk _ (by first | exact (List.length_map _) | assumption | exact (List.length_map _).trans (by assumption) | exact List.length_map _ | rfl) ?_)) | ((with_reducible refine (?_ : ObR _ _ _)); (first | (refine ObR.mk _ (by assumption) ?_) | (refine ObR.mk _ (by with_reducible rfl) ?_) | (refine ObR.map (by (first | omega | assumption | (simp only [List.length_map, List.length_append, List.length_cons, List.length_nil, List.length_take, List.length_drop, List.length_set, List.length_replicate]; omega))) (fun x hx => ?_)) | (refine ObR.mk _ rfl ?_))))
          conv => whnf
          rw [hs3]
          refine Again.mk (j + 1) ?_ ?_ (Fg.go ?_ rfl)
          · omega
          · omega
          repeat' ((conv => whnf); first | ((with_reducible refine ObEqs.mk ?_ ?_); (focus rfl)) | ((with_reducible refine ObEq1.i ?_ ?_); (focus (first | (with_reducible rfl) | omega))) | exact True.intro)
      · obtain rfl : j = F.length := by omega
        rw [List.take_length] at *
        repeat' ((conv => whnf); first | (with_reducible refine SeqP.go ?_) | ((with_reducible refine ObN.mk ?_ ?_); (focus (first | rfl | assumption | omega | (simp only [List.length_map, List.length_append, List.length_cons, List.length_nil]; omega) | (simp; done) | (simp; omega)))) | (with_reducible refine ObT.ff ?_) | ((with_reducible refine ObB.yes ?_ ?_); (focus (first | assumption | (with_reducible rfl) | omega))) | ((with_reducible refine ObB.no ?_ ?_); (focus (first | assumption | omega))) | ((with_reducible refine ObI.nn ?_ ?_); (focus omega)) | ((with_reducible refine ObI.nl ?_ ?_); (focus omega)) | ((with_reducible refine (?_ : ObL _ _)); (refine ObL.mk _ (by first | exact (List.length_map _) | assumption | exact (List.length_map _).trans (by assumption) | exact List.length_map _ | rfl) ?_)) | ((with_reducible refine ObC.f 16 ?_); (first | (with_reducible refine ObC.mk _ (c16) ?_) | (refine ObC.mk _ (c16) ?_))) | ((with_reducible refine ObC.f 16 ?_); (first | (with_reducible refine ObC.mk _ (c16') ?_) | (refine ObC.mk _ (c16') ?_))))
        conv => whnf
        refine Again.mk (k + 1) ?_ ?_ (Fg.go ?_ rfl)
        · omega
        · omega
        repeat' ((conv => whnf); first | ((with_reducible refine ObEqs.mk ?_ ?_); (focus rfl)) | ((with_reducible refine ObEq1.i ?_ ?_); (focus (first | (with_reducible rfl) | omega))) | ((with_reducible refine ObEq1.mk ?_ ?_); (focus (first | rfl | assumption))) | exact True.intro)
    · obtain rfl : k = m.length := by omega
      repeat' ((conv => whnf); first | (with_reducible refine SeqP.go ?_) | ((with_reducible refine ObN.mk ?_ ?_); (focus (first | rfl | assumption | omega | (simp only [List.length_map, List.length_append, List.length_cons, List.length_nil]; omega) | (simp; done) | (simp; omega)))) | (with_reducible refine ObT.ff ?_) | ((with_reducible refine ObB.no ?_ ?_); (focus (first | assumption | omega))) | ((with_reducible refine ObI.nl ?_ ?_); (focus omega)) | ((with_reducible refine ObX.mk _ rfl ?_ ?_); (focus (first | omega | assumption | (simp only [List.length_map, List.length_append, List.length_cons, List.length_nil, List.length_take, List.length_drop, List.length_set, List.length_replicate]; omega)))) | ((with_reducible refine (?_ : ObL _ _)); (refine ObL.mk _ (by first | exact (List.length_map _) | assumption | exact (List.length_map _).trans (by assumption) | exact List.length_map _ | rfl) ?_)) | ((with_reducible refine (?_ : ObR _ _ _)); (first | (refine ObR.mk _ (by assumption) ?_) | (refine ObR.mk _ (by with_reducible rfl) ?_) | (refine ObR.map (by (first | omega | assumption | (simp only [List.length_map, List.length_append, List.length_cons, List.length_nil, List.length_take, List.length_drop, List.length_set, List.length_replicate]; omega))) (fun x hx => ?_)) | (refine ObR.mk _ rfl ?_))))
      conv => whnf
      refine Again.mk (i + 1) ?_ ?_ (Fg.go ?_ rfl)
      · omega
      · omega
      repeat' ((conv => whnf); first | ((with_reducible refine ObEqs.mk ?_ ?_); (focus rfl)) | ((with_reducible refine ObEq1.i ?_ ?_); (focus (first | (with_reducible rfl) | omega))) | ((with_reducible refine ObEq1.mk ?_ ?_); (focus (first | rfl | assumption))) | exact True.intro)
  · obtain rfl : i = L.length := by omega
    repeat' ((conv => whnf); first | (with_reducible refine SeqP.go ?_) | ((with_reducible refine ObN.mk ?_ ?_); (focus (first | rfl | assumption | omega | (simp only [List.length_map, List.length_append, List.length_cons, List.length_nil]; omega) | (simp; done) | (simp; omega)))) | (with_reducible refine ObT.ff ?_) | ((with_reducible refine ObB.yes ?_ ?_); (focus (first | assumption | (with_reducible rfl) | omega))) | ((with_reducible refine ObB.no ?_ ?_); (focus (first | assumption | omega))) | ((with_reducible refine ObI.nn ?_ ?_); (focus omega)) | ((with_reducible refine (?_ : ObL _ _)); (refine ObL.mk _ (by first | exact (List.length_map _) | assumption | exact (List.length_map _).trans (by assumption) | exact List.length_map _ | rfl) ?_)) | ((with_reducible refine ObC.f 14 ?_); (first | (with_reducible refine ObC.mk _ (c14) ?_) | (refine ObC.mk _ (c14) ?_))) | ((with_reducible refine ObC.f 14 ?_); (first | (with_reducible refine ObC.mk _ (c14') ?_) | (refine ObC.mk _ (c14') ?_))) | ((with_reducible refine ObEq.mk ?_); (focus (first | rfl | assumption))))
abbrev GrS := {g : Gr // g.2.2.length ≤ 9223372036854775807}
def itC (x : It) : List AV := [I x.1, I x.2]
def grC (g : GrS) : List AV := [I g.1.1, I g.1.2.1, .sl 2 (g.1.2.2.map itA)]
theorem it_inv {cs : List AV} (h : ShC Try.prog 76 cs) : ∃ x : It, cs = itC x := by
  obtain ⟨p0, q, rfl, hp0, h⟩ := (h.flds (ts := [41, 3]) (by kernel_rfl)).cons
  obtain ⟨p1, q, rfl, hp1, h⟩ := h.cons
  obtain rfl := h.nil
  obtain ⟨a, rfl, _⟩ := hp0.i64_inv (by kernel_rfl)
  obtain ⟨b, rfl, _⟩ := hp1.i64_inv (by kernel_rfl)
  exact ⟨(a, b), rfl⟩
theorem gr_inv {cs : List AV} (h : ShC Try.prog 75 cs) : ∃ g : GrS, cs = grC g := by
  obtain ⟨p0, q, rfl, hp0, h⟩ := (h.flds (ts := [3, 3, 73]) (by kernel_rfl)).cons
  obtain ⟨p1, q, rfl, hp1, h⟩ := h.cons
  obtain ⟨p2, q, rfl, hp2, h⟩ := h.cons
  obtain rfl := h.nil
  obtain ⟨a, rfl, _⟩ := hp0.i64_inv (by kernel_rfl)
  obtain ⟨b, rfl, _⟩ := hp1.i64_inv (by kernel_rfl)
  obtain ⟨css, rfl, hl, hh⟩ := hp2.slice_inv (e := 76) (by kernel_rfl)
  obtain ⟨m, rfl⟩ := pick_list (f := itC) (fun cs h => it_inv h) css hh
  have e3 : isAggT Try.prog 76 = true := by kernel_rfl
  have e4 : (Try.prog).cellsOf 76 = 2 := by kernel_rfl
  have e5 : (List.map itC m).map (mkE (isAggT Try.prog 76)) = m.map itA := by rw [e3, List.map_map]; rfl
  exact ⟨⟨(a, b, m), by simpa using hl⟩, by rw [e5, e4]; rfl⟩
theorem args_inv {as0 as1 as2 : List AV} (s0 : ShC Try.prog 22 as0) (s1 : ShC Try.prog 23 as1) (s2 : ShC Try.prog 23 as2) : ∃ (l : List Gr) (v e : List Int), mkE (isAggT Try.prog 22) as0 = .sl 3 (l.map grA) ∧ mkE (isAggT Try.prog 23) as1 = .sl 1 (v.map iA) ∧ mkE (isAggT Try.prog 23) as2 = .sl 1 (e.map iA) ∧ l.length ≤ 9223372036854775807 ∧ (∀ g ∈ l, g.2.2.length ≤ 9223372036854775807) ∧ v.length ≤ 9223372036854775807 ∧ e.length ≤ 9223372036854775807 := by
  obtain ⟨css, rfl, hl, hh⟩ := s0.slice_inv (e := 75) (by kernel_rfl)
  obtain ⟨l, rfl⟩ := pick_list (f := grC) (fun cs h => gr_inv h) css hh
  have i1 : (Try.prog).underlying 3 = some (.int .i64) := by kernel_rfl
  obtain ⟨vss, rfl, hv, hvv⟩ := s1.slice_inv (e := 3) (by kernel_rfl)
  obtain ⟨v, rfl⟩ := pick_list (f := fun n : Int => [I n]) (fun cs h => by obtain ⟨n, e, _⟩ := h.i64_inv i1; exact ⟨n, e⟩) vss hvv
  obtain ⟨ess, rfl, he, hee⟩ := s2.slice_inv (e := 3) (by kernel_rfl)
  obtain ⟨e, rfl⟩ := pick_list (f := fun n : Int => [I n]) (fun cs h => by obtain ⟨n, e, _⟩ := h.i64_inv i1; exact ⟨n, e⟩) ess hee
  have a1 : isAggT Try.prog 22 = false := by kernel_rfl
  have a2 : isAggT Try.prog 23 = false := by kernel_rfl
  have a3 : isAggT Try.prog 75 = true := by kernel_rfl
  have a4 : (Try.prog).cellsOf 75 = 3 := by kernel_rfl
  have a5 : isAggT Try.prog 3 = false := by kernel_rfl
  have a6 : (Try.prog).cellsOf 3 = 1 := by kernel_rfl
  have g0 : (List.map grC l).map (mkE (isAggT Try.prog 75)) = (l.map Subtype.val).map grA := by rw [a3, List.map_map, List.map_map]; rfl
  have g1 : ∀ k : List Int, (List.map (fun n : Int => [I n]) k).map (mkE (isAggT Try.prog 3)) = k.map iA := fun k => by rw [a5, List.map_map]; rfl
  refine ⟨l.map Subtype.val, v, e, by rw [a1, g0, a4]; rfl, by rw [a2, g1, a6]; rfl, by rw [a2, g1, a6]; rfl, by simpa using hl, fun g hg => ?_, by simpa using hv, by simpa using he⟩
  obtain ⟨q, _, rfl⟩ := List.mem_map.1 hg
  exact q.2
theorem LimboSplits_calls (as0 as1 as2 : List AV) (s0 : ShC Try.prog 22 as0) (s1 : ShC Try.prog 23 as1) (s2 : ShC Try.prog 23 as2) : PC Try.prog (fun _ => .unk) 3 [mkE (isAggT Try.prog 22) as0, mkE (isAggT Try.prog 23) as1, mkE (isAggT Try.prog 23) as2] (Bo true) := by
  obtain ⟨l, v, e, h1, h2, h3, h4, h5, h6, h7⟩ := args_inv s0 s1 s2
  rw [h1, h2, h3]
  exact splits _ l v e h4 h5 h6 h7
theorem LimboOnce_calls (as0 as1 as2 : List AV) (s0 : ShC Try.prog 22 as0) (s1 : ShC Try.prog 23 as1) (s2 : ShC Try.prog 23 as2) : PC Try.prog (fun _ => .unk) 4 [mkE (isAggT Try.prog 22) as0, mkE (isAggT Try.prog 23) as1, mkE (isAggT Try.prog 23) as2] (Bo true) := by
  obtain ⟨l, v, e, h1, h2, h3, h4, h5, h6, h7⟩ := args_inv s0 s1 s2
  rw [h1, h2, h3]
  exact once _ l v e h4 h5 h6 h7
end Go.Proofs.Ytccihbhpjnjinaa.Sim
