/- Bindings: the laws. -/
import Derived.Test.YtmenmemochkkeaaPairO
import Derived.Test.YtmenmemochkkeaaPairL
import Derived.Test.YtmenmemochkkeaaSimVf
namespace Go.Proofs.Ytmenmemochkkeaa.Sim
open Go.RowKit
set_option maxRecDepth 100000
set_option linter.unusedSimpArgs false
set_option linter.unusedVariables false
set_option maxHeartbeats 2000000 in
theorem floor23s (G : Nat → AV) (l : List Pr) (hs : PC Try.prog G 31 [.sl 2 (l.map pA)] (.sl 2 ((mk l).map pA))) (hl : Okl l) (key : ByteArray) (hk : key.size ≤ 9223372036854775807) : PC Try.prog G 23 [.sl 2 (l.map pA), S key] (oP (fl (mk l) key)) := by
  have hm := okl_mk hl
  have hlen := hm.len
  have hi := idx41 G (mk l) (mk_lt l).le hm key hk
  have hll := le_len (B := mk l) (k := key)
  have hfl := fl_at (mk_lt l).le key
  have hfn : (le (mk l) key).length = 0 → fl (mk l) key = none := fun h => by unfold fl; rw [List.length_eq_zero_iff.1 h]; rfl
  refine pc_ofV cop23 ?_
  generalize mk l = m at *
  generalize (le m key).length = c at *
  generalize fl m key = r at *
  by_cases hc : c = 0
  · rw [hfn hc]
    simp only [oP, Option.getD_none, Option.isSome_none, dflt]
    have e : ((c : Int) = 0) := by omega
    repeat' ((conv => whnf); first | (with_reducible refine SeqP.go ?_) | ((with_reducible refine ObD.mk ?_ ?_); (focus (first | rfl | (simp [e]; done)))) | ((with_reducible refine ObN.mk ?_ ?_); (focus (first | rfl | assumption | omega | (simp only [List.length_map, List.length_append, List.length_cons, List.length_nil, e]; omega) | (simp [e]; done) | (simp [e]; omega)))) | (with_reducible refine ObT.tt ?_) | ((with_reducible refine ObB.yes ?_ ?_); (focus (first | assumption | (with_reducible rfl) | omega | (simp; done)))) | ((with_reducible refine (?_ : ObU _ _)); (refine ObU.mk _ (by first | assumption | ((conv => lhs; simp only [List.set_cons_zero, List.set_cons_succ, List.take_succ_cons, List.take_zero, List.drop_succ_cons, List.drop_zero, List.nil_append, List.cons_append, List.append_nil, List.take_nil, List.drop_nil, e]); try rfl) | rfl) ?_)) | ((with_reducible refine (?_ : ObR _ _ _)); (first | (refine ObR.mk _ (by assumption) ?_) | (refine ObR.mk _ (by with_reducible rfl) ?_) | (refine ObR.map (by (first | omega | assumption | (simp only [List.length_map, List.length_append, List.length_cons, List.length_nil, List.length_take, List.length_drop, List.length_set, List.length_replicate, e]; omega))) (fun x hx => ?_)) | (refine ObR.mk _ rfl ?_))) | ((with_reducible refine ObC.f 31 ?_); (first | (with_reducible refine ObC.mk _ (hs) ?_) | (refine ObC.mk _ (hs) ?_))) | ((with_reducible refine ObC.f 34 ?_); (first | (with_reducible refine ObC.mk _ ((gr34 G key)) ?_) | (refine ObC.mk _ ((gr34 G key)) ?_))) | ((with_reducible refine ObC.f 32 ?_); (first | (with_reducible refine ObC.mk _ (hi) ?_) | (refine ObC.mk _ (hi) ?_))) | ((with_reducible refine ObEq.mk ?_); (focus (first | rfl | assumption))))
  · obtain ⟨h1, h2⟩ := hfl hc
    rw [h2]
    simp only [oP, Option.getD_some, Option.isSome_some]
    have e : ¬ ((c : Int) = 0) := by omega
    have e1 : (c : Int) - 1 = ((c - 1 : Nat) : Int) := by omega
    repeat' ((conv => whnf); first | (with_reducible refine SeqP.go ?_) | ((with_reducible refine ObD.mk ?_ ?_); (focus (first | rfl | (simp [e, e1]; done)))) | ((with_reducible refine ObN.mk ?_ ?_); (focus (first | rfl | assumption | omega | (simp only [List.length_map, List.length_append, List.length_cons, List.length_nil, e, e1]; omega) | (simp [e, e1]; done) | (simp [e, e1]; omega)))) | (with_reducible refine ObT.ff ?_) | ((with_reducible refine ObB.no ?_ ?_); (focus (first | assumption | omega | (simp; done)))) | ((with_reducible refine ObI.sl ?_ ?_ ?_); (focus omega); (focus omega)) | ((with_reducible refine ObX.mk _ rfl ?_ ?_); (focus (first | omega | assumption | (simp only [List.length_map, List.length_append, List.length_cons, List.length_nil, List.length_take, List.length_drop, List.length_set, List.length_replicate, e, e1]; omega)))) | ((with_reducible refine (?_ : ObU _ _)); (refine ObU.mk _ (by first | assumption | ((conv => lhs; simp only [List.set_cons_zero, List.set_cons_succ, List.take_succ_cons, List.take_zero, List.drop_succ_cons, List.drop_zero, List.nil_append, List.cons_append, List.append_nil, List.take_nil, List.drop_nil, e, e1]); try rfl) | rfl) ?_)) | ((with_reducible refine (?_ : ObR _ _ _)); (first | (refine ObR.mk _ (by assumption) ?_) | (refine ObR.mk _ (by exact (pA_at h1)) ?_) | (refine ObR.mk _ (by with_reducible rfl) ?_) | (refine ObR.map (by (first | omega | assumption | (simp only [List.length_map, List.length_append, List.length_cons, List.length_nil, List.length_take, List.length_drop, List.length_set, List.length_replicate, e, e1]; omega))) (fun x hx => ?_)) | (refine ObR.mk _ rfl ?_))) | ((with_reducible refine ObC.f 31 ?_); (first | (with_reducible refine ObC.mk _ (hs) ?_) | (refine ObC.mk _ (hs) ?_))) | ((with_reducible refine ObC.f 34 ?_); (first | (with_reducible refine ObC.mk _ ((gr34 G key)) ?_) | (refine ObC.mk _ ((gr34 G key)) ?_))) | ((with_reducible refine ObC.f 32 ?_); (first | (with_reducible refine ObC.mk _ (hi) ?_) | (refine ObC.mk _ (hi) ?_))) | ((with_reducible refine ObEq.mk ?_); (focus (first | rfl | assumption))))
set_option maxHeartbeats 2000000 in
theorem get9s (G : Nat → AV) (l : List Pr) (hs : PC Try.prog G 31 [.sl 2 (l.map pA)] (.sl 2 ((mk l).map pA))) (hl : Okl l) (key : ByteArray) (hk : key.size ≤ 9223372036854775807) : PC Try.prog G 9 [.sl 2 (l.map pA), S key] (.tup [S ((val l key).getD ⟨#[]⟩), Bo (val l key).isSome]) := by
  have hf := floor23s G l hs hl key hk
  have hv : val l key = match fl (mk l) key with | some p => if p.1 = key then some p.2 else none | none => none := by
    rw [← mk_val]; exact get_le (mk_lt l) key
  rw [hv]
  refine pc_ofV cop9 ?_
  generalize fl (mk l) key = r at *
  cases r with
  | none =>
    simp only [oP, Option.getD_none, Option.isSome_none, dflt] at hf ⊢
    repeat' ((conv => whnf); first | (with_reducible refine SeqP.go ?_) | ((with_reducible refine ObD.mk ?_ ?_); (focus (first | rfl | (simp; done)))) | ((with_reducible refine ObN.mk ?_ ?_); (focus (first | rfl | assumption | omega | (simp only [List.length_map, List.length_append, List.length_cons, List.length_nil]; omega) | (simp; done) | (simp; omega)))) | (with_reducible refine ObT.tt ?_) | (with_reducible refine ObT.ff ?_) | ((with_reducible refine (?_ : ObU _ _)); (refine ObU.mk _ (by first | assumption | ((conv => lhs; simp only [List.set_cons_zero, List.set_cons_succ, List.take_succ_cons, List.take_zero, List.drop_succ_cons, List.drop_zero, List.nil_append, List.cons_append, List.append_nil, List.take_nil, List.drop_nil]); try rfl) | rfl) ?_)) | ((with_reducible refine (?_ : ObR _ _ _)); (first | (refine ObR.mk _ (by assumption) ?_) | (refine ObR.mk _ (by with_reducible rfl) ?_) | (refine ObR.map (by (first | omega | assumption | (simp only [List.length_map, List.length_append, List.length_cons, List.length_nil, List.length_take, List.length_drop, List.length_set, List.length_replicate]; omega))) (fun x hx => ?_)) | (refine ObR.mk _ rfl ?_))) | ((with_reducible refine ObC.f 23 ?_); (first | (with_reducible refine ObC.mk _ (hf) ?_) | (refine ObC.mk _ (hf) ?_))) | ((with_reducible refine ObEq.mk ?_); (focus (first | rfl | assumption))))
  | some p =>
    simp only [oP, Option.getD_some, Option.isSome_some] at hf ⊢
    by_cases hp : p.1 = key
    · rw [if_pos hp]
      simp only [Option.getD_some, Option.isSome_some]
      repeat' ((conv => whnf); first | (with_reducible refine SeqP.go ?_) | ((with_reducible refine ObD.mk ?_ ?_); (focus (first | rfl | (simp [hp]; done)))) | ((with_reducible refine ObN.mk ?_ ?_); (focus (first | rfl | assumption | omega | (simp only [List.length_map, List.length_append, List.length_cons, List.length_nil, hp]; omega) | (simp [hp]; done) | (simp [hp]; omega)))) | (with_reducible refine ObT.tt ?_) | (with_reducible refine ObT.ff ?_) | ((with_reducible refine ObB.yes ?_ ?_); (focus (first | assumption | (with_reducible rfl) | omega | (simp; done)))) | ((with_reducible refine (?_ : ObU _ _)); (refine ObU.mk _ (by first | assumption | ((conv => lhs; simp only [List.set_cons_zero, List.set_cons_succ, List.take_succ_cons, List.take_zero, List.drop_succ_cons, List.drop_zero, List.nil_append, List.cons_append, List.append_nil, List.take_nil, List.drop_nil, hp]); try rfl) | rfl) ?_)) | ((with_reducible refine (?_ : ObR _ _ _)); (first | (refine ObR.mk _ (by assumption) ?_) | (refine ObR.mk _ (by with_reducible rfl) ?_) | (refine ObR.map (by (first | omega | assumption | (simp only [List.length_map, List.length_append, List.length_cons, List.length_nil, List.length_take, List.length_drop, List.length_set, List.length_replicate, hp]; omega))) (fun x hx => ?_)) | (refine ObR.mk _ rfl ?_))) | ((with_reducible refine ObC.f 23 ?_); (first | (with_reducible refine ObC.mk _ (hf) ?_) | (refine ObC.mk _ (hf) ?_))) | ((with_reducible refine ObEq.mk ?_); (focus (first | rfl | assumption))))
    · rw [if_neg hp]
      simp only [Option.getD_none, Option.isSome_none]
      repeat' ((conv => whnf); first | (with_reducible refine SeqP.go ?_) | ((with_reducible refine ObD.mk ?_ ?_); (focus (first | rfl | (simp [hp]; done)))) | ((with_reducible refine ObN.mk ?_ ?_); (focus (first | rfl | assumption | omega | (simp only [List.length_map, List.length_append, List.length_cons, List.length_nil, hp]; omega) | (simp [hp]; done) | (simp [hp]; omega)))) | (with_reducible refine ObT.tt ?_) | (with_reducible refine ObT.ff ?_) | ((with_reducible refine ObB.no ?_ ?_); (focus (first | assumption | omega | (simp; done)))) | ((with_reducible refine (?_ : ObU _ _)); (refine ObU.mk _ (by first | assumption | ((conv => lhs; simp only [List.set_cons_zero, List.set_cons_succ, List.take_succ_cons, List.take_zero, List.drop_succ_cons, List.drop_zero, List.nil_append, List.cons_append, List.append_nil, List.take_nil, List.drop_nil, hp]); try rfl) | rfl) ?_)) | ((with_reducible refine (?_ : ObR _ _ _)); (first | (refine ObR.mk _ (by assumption) ?_) | (refine ObR.mk _ (by with_reducible rfl) ?_) | (refine ObR.map (by (first | omega | assumption | (simp only [List.length_map, List.length_append, List.length_cons, List.length_nil, List.length_take, List.length_drop, List.length_set, List.length_replicate, hp]; omega))) (fun x hx => ?_)) | (refine ObR.mk _ rfl ?_))) | ((with_reducible refine ObC.f 23 ?_); (first | (with_reducible refine ObC.mk _ (hf) ?_) | (refine ObC.mk _ (hf) ?_))) | ((with_reducible refine ObEq.mk ?_); (focus (first | rfl | assumption))))

theorem sorted31s (G : Nat → AV) (l : List Pr) (hl : Okl l) (hs : SLt l) : PC Try.prog G 31 [.sl 2 (l.map pA)] (.sl 2 ((mk l).map pA)) := by
  have hi := is11 G l hl true (by simp [hs])
  refine pc_ofV cop31 ?_
  rw [mk_of hs]
  repeat' ((conv => whnf); first | (with_reducible refine SeqP.go ?_) | (with_reducible refine ObT.tt ?_) | ((with_reducible refine ObC.f 11 ?_); (first | (with_reducible refine ObC.mk _ (hi) ?_) | (refine ObC.mk _ (hi) ?_))) | ((with_reducible refine ObEq.mk ?_); (focus (first | rfl | assumption))))
theorem cutB_size (s : ByteArray) : (cutB s 40).size ≤ 40 := by simp [cutB]; omega
theorem cutB_short {s : ByteArray} (h : s.size ≤ 40) : cutB s 40 = s := by
  unfold cutB
  rw [Nat.min_eq_left h]
  exact ByteArray.extract_zero_size
theorem few_sz {l : List Pr} : ∀ p ∈ few l, p.1.size ≤ 40 ∧ p.2.size ≤ 40 := by
  intro p hp
  unfold few at hp
  obtain ⟨q, hq, rfl⟩ := List.mem_map.1 hp
  exact ⟨cutB_size _, cutB_size _⟩
theorem few_few (l : List Pr) : few (few l) = few l := by
  have hl := few_len l
  have hs := few_sz (l := l)
  generalize few l = m at *
  unfold few
  rw [List.take_of_length_le (by omega)]
  refine (List.map_congr_left (g := id) fun p hp => ?_).trans (List.map_id m)
  rw [cutB_short (hs p hp).1, cutB_short (hs p hp).2]
  rfl
theorem okl_few (l : List Pr) : Okl (few l) := ⟨by rw [few_len]; omega, fun p hp => by have := few_sz p hp; omega⟩
abbrev PrS := {p : Pr // p.1.size ≤ 9223372036854775807 ∧ p.2.size ≤ 9223372036854775807}
def pC (p : PrS) : List AV := [S p.1.1, S p.1.2]
theorem pair_inv {cs : List AV} (h : ShC Try.prog 36 cs) : ∃ p : PrS, cs = pC p := by
  obtain ⟨p0, q, rfl, hp0, h⟩ := (h.flds (ts := [9, 9]) (by kernel_rfl)).cons
  obtain ⟨p1, q, rfl, hp1, h⟩ := h.cons
  obtain rfl := h.nil
  obtain ⟨a, rfl, ha⟩ := hp0.str_inv u_str
  obtain ⟨b, rfl, hb⟩ := hp1.str_inv u_str
  exact ⟨⟨(a, b), ha, hb⟩, rfl⟩
theorem list_inv {cs : List AV} (h : ShC Try.prog 22 cs) : ∃ l : List Pr, mkE (isAggT Try.prog 22) cs = .sl 2 (l.map pA) ∧ l.length ≤ 9223372036854775807 ∧ ∀ p ∈ l, p.1.size ≤ 9223372036854775807 ∧ p.2.size ≤ 9223372036854775807 := by
  have e1 : isAggT Try.prog 22 = false := by kernel_rfl
  have e2 : isAggT Try.prog 36 = true := by kernel_rfl
  have e4 : (Try.prog).cellsOf 36 = 2 := by kernel_rfl
  obtain ⟨dss, rfl, hl, hll⟩ := h.slice_inv (e := 36) (by kernel_rfl)
  obtain ⟨ls, rfl⟩ := pick_list (f := pC) (fun cs h => pair_inv h) dss hll
  have g2 : (List.map pC ls).map (mkE (isAggT Try.prog 36)) = (ls.map Subtype.val).map pA := by rw [e2, List.map_map, List.map_map]; rfl
  refine ⟨ls.map Subtype.val, ?_, by simpa using hl, ?_⟩
  · rw [g2, e1, e4]; rfl
  · intro p hp
    obtain ⟨q, _, rfl⟩ := List.mem_map.1 hp
    exact q.2
theorem str_inv1 {cs : List AV} (h : ShC Try.prog 9 cs) : ∃ s : ByteArray, mkE (isAggT Try.prog 9) cs = S s ∧ s.size ≤ 9223372036854775807 := by
  have e1 : isAggT Try.prog 9 = false := by kernel_rfl
  obtain ⟨s, rfl, hs⟩ := h.str_inv u_str
  exact ⟨s, by rw [e1]; rfl, hs⟩
set_option maxHeartbeats 8000000 in
theorem makes3 (G : Nat → AV) (hM : MkOk G) (l : List Pr) (key : ByteArray) (hl : l.length ≤ 9223372036854775807) (hs : ∀ p ∈ l, p.1.size ≤ 9223372036854775807 ∧ p.2.size ≤ 9223372036854775807) (hk : key.size ≤ 9223372036854775807) : PC Try.prog G 3 [.sl 2 (l.map pA), S key] (Bo true) := by
  have f1 := few07 G l hl hs
  have c1 : PC Try.prog G 8 [S key, I 40] (S (cutB key 40)) := cutP G key 40 hk
  have hL := okl_few l
  have f2 := few07 G (few l) (by have := hL.len; omega) hL.sz
  rw [few_few] at f2
  have h40 : (few l).length ≤ 40 := by rw [few_len]; omega
  have hK : (cutB key 40).size ≤ 9223372036854775807 := by have := cutB_size key; omega
  have hw := works G
  generalize few l = L at *
  generalize cutB key 40 = K at *
  have h9 := get9 G hM L hL h40 K hK
  have h10 := get10 G L hL K
  have h14 := hM L h40 hL
  have h15 := rmake15 G L hL
  have hmk := mk_len L
  have h13 := same13 G (mk L) (mk L) (by omega) (by omega) true (by simp)
  obtain ⟨r, hr⟩ : ∃ r : Bool, r = true ↔ SLt L := by
    by_cases h : SLt L
    · exact ⟨true, by simp [h]⟩
    · exact ⟨false, by simp [h]⟩
  have h11 := is11 G L hL r hr
  have h12 := is12 G L hL r hr
  refine pc_ofV cop3 ?_
  repeat' ((conv => whnf); first | (with_reducible refine SeqP.go ?_) | ((with_reducible refine ObN.mk ?_ ?_); (focus (first | rfl | assumption | omega | (simp only [List.length_map, List.length_append, List.length_cons, List.length_nil]; omega) | (simp; done) | (simp; omega)))) | (with_reducible refine ObT.tt ?_) | ((with_reducible refine ObT.yes ?_ ?_); (focus assumption)) | ((with_reducible refine ObT.no ?_ ?_); (focus assumption)) | (with_reducible refine ObT.mk (fun h => ?_) (fun h => ?_)) | ((with_reducible refine ObB.yes ?_ ?_); (focus (first | assumption | (with_reducible rfl) | omega | (simp; done)))) | ((with_reducible refine ObC.f 7 ?_); (first | (with_reducible refine ObC.mk _ (f1) ?_) | (refine ObC.mk _ (f1) ?_))) | ((with_reducible refine ObC.f 7 ?_); (first | (with_reducible refine ObC.mk _ (f2) ?_) | (refine ObC.mk _ (f2) ?_))) | ((with_reducible refine ObC.f 8 ?_); (first | (with_reducible refine ObC.mk _ (c1) ?_) | (refine ObC.mk _ (c1) ?_))) | ((with_reducible refine ObC.f 9 ?_); (first | (with_reducible refine ObC.mk _ (h9) ?_) | (refine ObC.mk _ (h9) ?_))) | ((with_reducible refine ObC.f 10 ?_); (first | (with_reducible refine ObC.mk _ (h10) ?_) | (refine ObC.mk _ (h10) ?_))) | ((with_reducible refine ObC.f 11 ?_); (first | (with_reducible refine ObC.mk _ (h11) ?_) | (refine ObC.mk _ (h11) ?_))) | ((with_reducible refine ObC.f 12 ?_); (first | (with_reducible refine ObC.mk _ (h12) ?_) | (refine ObC.mk _ (h12) ?_))) | ((with_reducible refine ObC.f 14 ?_); (first | (with_reducible refine ObC.mk _ (h14) ?_) | (refine ObC.mk _ (h14) ?_))) | ((with_reducible refine ObC.f 15 ?_); (first | (with_reducible refine ObC.mk _ (h15) ?_) | (refine ObC.mk _ (h15) ?_))) | ((with_reducible refine ObC.f 13 ?_); (first | (with_reducible refine ObC.mk _ (h13) ?_) | (refine ObC.mk _ (h13) ?_))) | ((with_reducible refine ObC.f 16 ?_); (first | (with_reducible refine ObC.mk _ (hw) ?_) | (refine ObC.mk _ (hw) ?_))) | ((with_reducible refine ObEq.mk ?_); (focus (first | rfl | assumption))))
theorem PairMakes_calls (as0 as1 : List AV) (s0 : ShC Try.prog 22 as0) (s1 : ShC Try.prog 9 as1) (hM : MkOk (fun _ => .unk)) : PC Try.prog (fun _ => .unk) 3 [mkE (isAggT Try.prog 22) as0, mkE (isAggT Try.prog 9) as1] (Bo true) := by
  obtain ⟨l, e0, h1, h2⟩ := list_inv s0
  obtain ⟨s, e1, h3⟩ := str_inv1 s1
  rw [e0, e1]
  exact makes3 _ hM l s h1 h2 h3
set_option maxHeartbeats 8000000 in
theorem changes4 (G : Nat → AV) (hM : MkOk G) (l : List Pr) (key val : ByteArray) (hl : l.length ≤ 9223372036854775807) (hs : ∀ p ∈ l, p.1.size ≤ 9223372036854775807 ∧ p.2.size ≤ 9223372036854775807) (hk : key.size ≤ 9223372036854775807) (hv : val.size ≤ 9223372036854775807) : PC Try.prog G 4 [.sl 2 (l.map pA), S key, S val] (Bo true) := by
  have f1 := few07 G l hl hs
  have c1 : PC Try.prog G 8 [S key, I 40] (S (cutB key 40)) := cutP G key 40 hk
  have c2 : PC Try.prog G 8 [S val, I 40] (S (cutB val 40)) := cutP G val 40 hv
  have hL := okl_few l
  have f2 := few07 G (few l) (by have := hL.len; omega) hL.sz
  rw [few_few] at f2
  have h40 : (few l).length ≤ 40 := by rw [few_len]; omega
  have hK : (cutB key 40).size ≤ 9223372036854775807 := by have := cutB_size key; omega
  have hV : (cutB val 40).size ≤ 9223372036854775807 := by have := cutB_size val; omega
  have hw := works G
  generalize few l = L at *
  generalize cutB key 40 = K at *
  generalize cutB val 40 = V at *
  have h17 := put17 G hM L hL h40 K V hK
  have h18 := rput18 G L hL h40 K V hK hV
  have h19 := drop19 G hM L hL h40 K hK
  have h20 := rdrop20 G L hL K hK
  rw [pt_mk] at h17
  have l1 := mk_len (L ++ [(K, V)])
  have l2 := mk_len L
  have l3 : (dr (mk L) K).length ≤ (mk L).length := List.length_filter_le ..
  simp only [List.length_append, List.length_cons, List.length_nil] at l1
  have h13 := same13 G (mk (L ++ [(K, V)])) (mk (L ++ [(K, V)])) (by omega) (by omega) true (by simp)
  have h13b := same13 G (dr (mk L) K) (dr (mk L) K) (by omega) (by omega) true (by simp)
  refine pc_ofV cop4 ?_
  repeat' ((conv => whnf); first | (with_reducible refine SeqP.go ?_) | (with_reducible refine ObT.tt ?_) | ((with_reducible refine ObC.f 7 ?_); (first | (with_reducible refine ObC.mk _ (f1) ?_) | (refine ObC.mk _ (f1) ?_))) | ((with_reducible refine ObC.f 7 ?_); (first | (with_reducible refine ObC.mk _ (f2) ?_) | (refine ObC.mk _ (f2) ?_))) | ((with_reducible refine ObC.f 8 ?_); (first | (with_reducible refine ObC.mk _ (c1) ?_) | (refine ObC.mk _ (c1) ?_))) | ((with_reducible refine ObC.f 8 ?_); (first | (with_reducible refine ObC.mk _ (c2) ?_) | (refine ObC.mk _ (c2) ?_))) | ((with_reducible refine ObC.f 17 ?_); (first | (with_reducible refine ObC.mk _ (h17) ?_) | (refine ObC.mk _ (h17) ?_))) | ((with_reducible refine ObC.f 18 ?_); (first | (with_reducible refine ObC.mk _ (h18) ?_) | (refine ObC.mk _ (h18) ?_))) | ((with_reducible refine ObC.f 13 ?_); (first | (with_reducible refine ObC.mk _ (h13) ?_) | (refine ObC.mk _ (h13) ?_))) | ((with_reducible refine ObC.f 19 ?_); (first | (with_reducible refine ObC.mk _ (h19) ?_) | (refine ObC.mk _ (h19) ?_))) | ((with_reducible refine ObC.f 20 ?_); (first | (with_reducible refine ObC.mk _ (h20) ?_) | (refine ObC.mk _ (h20) ?_))) | ((with_reducible refine ObC.f 13 ?_); (first | (with_reducible refine ObC.mk _ (h13b) ?_) | (refine ObC.mk _ (h13b) ?_))) | ((with_reducible refine ObC.f 16 ?_); (first | (with_reducible refine ObC.mk _ (hw) ?_) | (refine ObC.mk _ (hw) ?_))) | ((with_reducible refine ObEq.mk ?_); (focus (first | rfl | assumption))))
theorem PairChanges_calls (as0 as1 as2 : List AV) (s0 : ShC Try.prog 22 as0) (s1 : ShC Try.prog 9 as1) (s2 : ShC Try.prog 9 as2) (hM : MkOk (fun _ => .unk)) : PC Try.prog (fun _ => .unk) 4 [mkE (isAggT Try.prog 22) as0, mkE (isAggT Try.prog 9) as1, mkE (isAggT Try.prog 9) as2] (Bo true) := by
  obtain ⟨l, e0, h1, h2⟩ := list_inv s0
  obtain ⟨s, e1, h3⟩ := str_inv1 s1
  obtain ⟨t, e2, h4⟩ := str_inv1 s2
  rw [e0, e1, e2]
  exact changes4 _ hM l s t h1 h2 h3 h4
set_option maxHeartbeats 8000000 in
theorem seeks5 (G : Nat → AV) (hM : MkOk G) (l : List Pr) (key : ByteArray) (hl : l.length ≤ 9223372036854775807) (hs : ∀ p ∈ l, p.1.size ≤ 9223372036854775807 ∧ p.2.size ≤ 9223372036854775807) (hk : key.size ≤ 9223372036854775807) : PC Try.prog G 5 [.sl 2 (l.map pA), S key] (Bo true) := by
  have f1 := few07 G l hl hs
  have c1 : PC Try.prog G 8 [S key, I 40] (S (cutB key 40)) := cutP G key 40 hk
  have hL := okl_few l
  have f2 := few07 G (few l) (by have := hL.len; omega) hL.sz
  rw [few_few] at f2
  have h40 : (few l).length ≤ 40 := by rw [few_len]; omega
  have hK : (cutB key 40).size ≤ 9223372036854775807 := by have := cutB_size key; omega
  have hw := works G
  generalize few l = L at *
  generalize cutB key 40 = K at *
  have h21 := after21 G hM L hL h40 K hK
  have h22 := rafter22 G L hL K hK
  have h23 := floor23 G hM L hL h40 K hK
  have h24 := rfloor24 G L hL K hK
  generalize af (mk L) K = x at *
  generalize fl (mk L) K = y at *
  simp only [oP] at *
  generalize (x.getD default).1 = x1 at *
  generalize (x.getD default).2 = x2 at *
  generalize (y.getD default).1 = y1 at *
  generalize (y.getD default).2 = y2 at *
  generalize x.isSome = x3 at *
  generalize y.isSome = y3 at *
  refine pc_ofV cop5 ?_
  repeat' ((conv => whnf); first | (with_reducible refine SeqP.go ?_) | ((with_reducible refine ObD.mk ?_ ?_); (focus (first | rfl | (simp; done)))) | ((with_reducible refine ObN.mk ?_ ?_); (focus (first | rfl | assumption | omega | (simp only [List.length_map, List.length_append, List.length_cons, List.length_nil]; omega) | (simp; done) | (simp; omega)))) | (with_reducible refine ObT.tt ?_) | ((with_reducible refine ObT.yes ?_ ?_); (focus assumption)) | ((with_reducible refine ObT.no ?_ ?_); (focus assumption)) | (with_reducible refine ObT.mk (fun h => ?_) (fun h => ?_)) | ((with_reducible refine ObB.yes ?_ ?_); (focus (first | assumption | (with_reducible rfl) | omega | (simp; done)))) | ((with_reducible refine (?_ : ObU _ _)); (refine ObU.mk _ (by first | assumption | ((conv => lhs; simp only [List.set_cons_zero, List.set_cons_succ, List.take_succ_cons, List.take_zero, List.drop_succ_cons, List.drop_zero, List.nil_append, List.cons_append, List.append_nil, List.take_nil, List.drop_nil]); try rfl) | rfl) ?_)) | ((with_reducible refine (?_ : ObR _ _ _)); (first | (refine ObR.mk _ (by assumption) ?_) | (refine ObR.mk _ (by with_reducible rfl) ?_) | (refine ObR.map (by (first | omega | assumption | (simp only [List.length_map, List.length_append, List.length_cons, List.length_nil, List.length_take, List.length_drop, List.length_set, List.length_replicate]; omega))) (fun x hx => ?_)) | (refine ObR.mk _ rfl ?_))) | ((with_reducible refine ObC.f 7 ?_); (first | (with_reducible refine ObC.mk _ (f1) ?_) | (refine ObC.mk _ (f1) ?_))) | ((with_reducible refine ObC.f 7 ?_); (first | (with_reducible refine ObC.mk _ (f2) ?_) | (refine ObC.mk _ (f2) ?_))) | ((with_reducible refine ObC.f 8 ?_); (first | (with_reducible refine ObC.mk _ (c1) ?_) | (refine ObC.mk _ (c1) ?_))) | ((with_reducible refine ObC.f 21 ?_); (first | (with_reducible refine ObC.mk _ (h21) ?_) | (refine ObC.mk _ (h21) ?_))) | ((with_reducible refine ObC.f 22 ?_); (first | (with_reducible refine ObC.mk _ (h22) ?_) | (refine ObC.mk _ (h22) ?_))) | ((with_reducible refine ObC.f 23 ?_); (first | (with_reducible refine ObC.mk _ (h23) ?_) | (refine ObC.mk _ (h23) ?_))) | ((with_reducible refine ObC.f 24 ?_); (first | (with_reducible refine ObC.mk _ (h24) ?_) | (refine ObC.mk _ (h24) ?_))) | ((with_reducible refine ObC.f 16 ?_); (first | (with_reducible refine ObC.mk _ (hw) ?_) | (refine ObC.mk _ (hw) ?_))) | ((with_reducible refine ObEq.mk ?_); (focus (first | rfl | assumption))))
theorem PairSeeks_calls (as0 as1 : List AV) (s0 : ShC Try.prog 22 as0) (s1 : ShC Try.prog 9 as1) (hM : MkOk (fun _ => .unk)) : PC Try.prog (fun _ => .unk) 5 [mkE (isAggT Try.prog 22) as0, mkE (isAggT Try.prog 9) as1] (Bo true) := by
  obtain ⟨l, e0, h1, h2⟩ := list_inv s0
  obtain ⟨s, e1, h3⟩ := str_inv1 s1
  rw [e0, e1]
  exact seeks5 _ hM l s h1 h2 h3
theorem dr_val {m : List Pr} {k x : ByteArray} : val (dr m k) x = if x ≠ k then val m x else none := by
  unfold val
  rw [fk_dr]
  split <;> rfl
set_option maxHeartbeats 8000000 in
theorem keeps6 (G : Nat → AV) (hM : MkOk G) (l : List Pr) (key v other : ByteArray) (hl : l.length ≤ 9223372036854775807) (hs : ∀ p ∈ l, p.1.size ≤ 9223372036854775807 ∧ p.2.size ≤ 9223372036854775807) (hk : key.size ≤ 9223372036854775807) (hv : v.size ≤ 9223372036854775807) (ho : other.size ≤ 9223372036854775807) : PC Try.prog G 6 [.sl 2 (l.map pA), S key, S v, S other] (Bo true) := by
  have f1 := few07 G l hl hs
  have c1 : PC Try.prog G 8 [S key, I 40] (S (cutB key 40)) := cutP G key 40 hk
  have c2 : PC Try.prog G 8 [S v, I 40] (S (cutB v 40)) := cutP G v 40 hv
  have c3 : PC Try.prog G 8 [S other, I 40] (S (cutB other 40)) := cutP G other 40 ho
  have hL := okl_few l
  have h40 : (few l).length ≤ 40 := by rw [few_len]; omega
  have hK : (cutB key 40).size ≤ 9223372036854775807 := by have := cutB_size key; omega
  have hV : (cutB v 40).size ≤ 9223372036854775807 := by have := cutB_size v; omega
  have hO : (cutB other 40).size ≤ 9223372036854775807 := by have := cutB_size other; omega
  have hw := works G
  generalize few l = L at *
  generalize cutB key 40 = K at *
  generalize cutB v 40 = V at *
  generalize cutB other 40 = O at *
  have h17 := put17 G hM L hL h40 K V hK
  have h19 := drop19 G hM L hL h40 K hK
  have hLl := hL.len
  have l1 := mk_len (L ++ [(K, V)])
  have l2 := mk_len L
  have l3 : (dr (mk L) K).length ≤ (mk L).length := List.length_filter_le ..
  simp only [List.length_append, List.length_cons, List.length_nil] at l1
  have sA := pt_lt (mk_lt L) K V
  have sB := dr_lt (mk_lt L) K
  have okA : Okl (pt (mk L) K V) := by
    rw [pt_mk]
    refine ⟨by omega, fun p hp => ?_⟩
    rcases List.mem_append.1 (mk_mem hp) with h | h
    · exact hL.sz p h
    · simp at h; subst h; exact ⟨hK, hV⟩
  have okB : Okl (dr (mk L) K) := ⟨by omega, fun p hp => hL.sz p (mk_mem (List.mem_filter.1 hp).1)⟩
  have vA := pt_val (m := mk L) K V
  have vB := fun x => dr_val (m := mk L) (k := K) (x := x)
  have g1 := get9s G (pt (mk L) K V) (sorted31s G _ okA sA) okA K hK
  have g2 := get9s G (dr (mk L) K) (sorted31s G _ okB sB) okB K hK
  have g3 := get9 G hM L hL h40 O hO
  have g4 := get9s G (pt (mk L) K V) (sorted31s G _ okA sA) okA O hO
  have g5 := get9s G (dr (mk L) K) (sorted31s G _ okB sB) okB O hO
  rw [vA, if_pos rfl] at g1
  rw [vB, if_neg (by simp)] at g2
  simp only [Option.getD_some, Option.isSome_some, Option.getD_none, Option.isSome_none] at g1 g2
  have i1 := is11 G _ okA true (by simp [sA])
  have i2 := is11 G _ okB true (by simp [sB])
  refine pc_ofV cop6 ?_
  by_cases hOK : O = K
  · subst hOK
    generalize pt (mk L) O V = A at *
    generalize dr (mk L) O = B at *
    repeat' ((conv => whnf); first | (with_reducible refine SeqP.go ?_) | (with_reducible refine ObT.tt ?_) | (with_reducible refine ObT.ff ?_) | ((with_reducible refine ObB.yes ?_ ?_); (focus (first | assumption | (with_reducible rfl) | omega | (simp; done)))) | ((with_reducible refine ObC.f 7 ?_); (first | (with_reducible refine ObC.mk _ (f1) ?_) | (refine ObC.mk _ (f1) ?_))) | ((with_reducible refine ObC.f 8 ?_); (first | (with_reducible refine ObC.mk _ (c1) ?_) | (refine ObC.mk _ (c1) ?_))) | ((with_reducible refine ObC.f 8 ?_); (first | (with_reducible refine ObC.mk _ (c2) ?_) | (refine ObC.mk _ (c2) ?_))) | ((with_reducible refine ObC.f 8 ?_); (first | (with_reducible refine ObC.mk _ (c3) ?_) | (refine ObC.mk _ (c3) ?_))) | ((with_reducible refine ObC.f 17 ?_); (first | (with_reducible refine ObC.mk _ (h17) ?_) | (refine ObC.mk _ (h17) ?_))) | ((with_reducible refine ObC.f 19 ?_); (first | (with_reducible refine ObC.mk _ (h19) ?_) | (refine ObC.mk _ (h19) ?_))) | ((with_reducible refine ObC.f 9 ?_); (first | (with_reducible refine ObC.mk _ (g1) ?_) | (refine ObC.mk _ (g1) ?_))) | ((with_reducible refine ObC.f 9 ?_); (first | (with_reducible refine ObC.mk _ (g2) ?_) | (refine ObC.mk _ (g2) ?_))) | ((with_reducible refine ObC.f 9 ?_); (first | (with_reducible refine ObC.mk _ (g3) ?_) | (refine ObC.mk _ (g3) ?_))) | ((with_reducible refine ObC.f 11 ?_); (first | (with_reducible refine ObC.mk _ (i1) ?_) | (refine ObC.mk _ (i1) ?_))) | ((with_reducible refine ObC.f 11 ?_); (first | (with_reducible refine ObC.mk _ (i2) ?_) | (refine ObC.mk _ (i2) ?_))) | ((with_reducible refine ObC.f 16 ?_); (first | (with_reducible refine ObC.mk _ (hw) ?_) | (refine ObC.mk _ (hw) ?_))) | ((with_reducible refine ObEq.mk ?_); (focus (first | rfl | assumption))))
  · rw [vA, if_neg (fun h => hOK h.symm), mk_val] at g4
    rw [vB, if_pos hOK, mk_val] at g5
    generalize (val L O).getD ⟨#[]⟩ = x at *
    generalize (val L O).isSome = y at *
    generalize pt (mk L) K V = A at *
    generalize dr (mk L) K = B at *
    repeat' ((conv => whnf); first | (with_reducible refine SeqP.go ?_) | ((with_reducible refine ObN.mk ?_ ?_); (focus (first | rfl | assumption | omega | (simp only [List.length_map, List.length_append, List.length_cons, List.length_nil, hOK]; omega) | (simp [hOK]; done) | (simp [hOK]; omega)))) | (with_reducible refine ObT.tt ?_) | (with_reducible refine ObT.ff ?_) | ((with_reducible refine ObT.yes ?_ ?_); (focus assumption)) | ((with_reducible refine ObT.no ?_ ?_); (focus assumption)) | (with_reducible refine ObT.mk (fun h => ?_) (fun h => ?_)) | ((with_reducible refine ObB.yes ?_ ?_); (focus (first | assumption | (with_reducible rfl) | omega | (simp; done)))) | ((with_reducible refine ObB.no ?_ ?_); (focus (first | assumption | omega | (simp; done)))) | ((with_reducible refine ObC.f 7 ?_); (first | (with_reducible refine ObC.mk _ (f1) ?_) | (refine ObC.mk _ (f1) ?_))) | ((with_reducible refine ObC.f 8 ?_); (first | (with_reducible refine ObC.mk _ (c1) ?_) | (refine ObC.mk _ (c1) ?_))) | ((with_reducible refine ObC.f 8 ?_); (first | (with_reducible refine ObC.mk _ (c2) ?_) | (refine ObC.mk _ (c2) ?_))) | ((with_reducible refine ObC.f 8 ?_); (first | (with_reducible refine ObC.mk _ (c3) ?_) | (refine ObC.mk _ (c3) ?_))) | ((with_reducible refine ObC.f 17 ?_); (first | (with_reducible refine ObC.mk _ (h17) ?_) | (refine ObC.mk _ (h17) ?_))) | ((with_reducible refine ObC.f 19 ?_); (first | (with_reducible refine ObC.mk _ (h19) ?_) | (refine ObC.mk _ (h19) ?_))) | ((with_reducible refine ObC.f 9 ?_); (first | (with_reducible refine ObC.mk _ (g1) ?_) | (refine ObC.mk _ (g1) ?_))) | ((with_reducible refine ObC.f 9 ?_); (first | (with_reducible refine ObC.mk _ (g2) ?_) | (refine ObC.mk _ (g2) ?_))) | ((with_reducible refine ObC.f 9 ?_); (first | (with_reducible refine ObC.mk _ (g3) ?_) | (refine ObC.mk _ (g3) ?_))) | ((with_reducible refine ObC.f 9 ?_); (first | (with_reducible refine ObC.mk _ (g4) ?_) | (refine ObC.mk _ (g4) ?_))) | ((with_reducible refine ObC.f 9 ?_); (first | (with_reducible refine ObC.mk _ (g5) ?_) | (refine ObC.mk _ (g5) ?_))) | ((with_reducible refine ObC.f 11 ?_); (first | (with_reducible refine ObC.mk _ (i1) ?_) | (refine ObC.mk _ (i1) ?_))) | ((with_reducible refine ObC.f 11 ?_); (first | (with_reducible refine ObC.mk _ (i2) ?_) | (refine ObC.mk _ (i2) ?_))) | ((with_reducible refine ObC.f 16 ?_); (first | (with_reducible refine ObC.mk _ (hw) ?_) | (refine ObC.mk _ (hw) ?_))) | ((with_reducible refine ObEq.mk ?_); (focus (first | rfl | assumption))))
theorem PairKeeps_calls (as0 as1 as2 as3 : List AV) (s0 : ShC Try.prog 22 as0) (s1 : ShC Try.prog 9 as1) (s2 : ShC Try.prog 9 as2) (s3 : ShC Try.prog 9 as3) (hM : MkOk (fun _ => .unk)) : PC Try.prog (fun _ => .unk) 6 [mkE (isAggT Try.prog 22) as0, mkE (isAggT Try.prog 9) as1, mkE (isAggT Try.prog 9) as2, mkE (isAggT Try.prog 9) as3] (Bo true) := by
  obtain ⟨l, e0, h1, h2⟩ := list_inv s0
  obtain ⟨s, e1, h3⟩ := str_inv1 s1
  obtain ⟨t, e2, h4⟩ := str_inv1 s2
  obtain ⟨u, e3, h5⟩ := str_inv1 s3
  rw [e0, e1, e2, e3]
  exact keeps6 _ hM l s t u h1 h2 h3 h4 h5
end Go.Proofs.Ytmenmemochkkeaa.Sim
