/- Texts of this claim, part 2. -/
import Derived.Test.YtfhfaelmapjihaaAc13
import Derived.Test.YtfhfaelmapjihaaMNodeMays1
import Derived.Test.YtfhfaelmapjihaaProg
import Derived.Test.YtfhfaelmapjihaaQairO
import Derived.Test.YtfhfaelmapjihaaQairV
import Derived.Test.YtfhfaelmapjihaaSimVf
/- Nodes: they are made of what they are told to be. -/
namespace Go.Proofs.Ytfhfaelmapjihaa.Sim
open Go.RowKit
set_option maxRecDepth 100000
set_option linter.unusedSimpArgs false
set_option linter.unusedVariables false
theorem same13r (G : Nat → AV) (kn : Int) (ke va : ByteArray) (mp : Int) (kk : List Int) (mn : Int) (ls : List Pr) (sz bi : Int) (h1 : ke.size ≤ 9223372036854775807) (h2 : va.size ≤ 9223372036854775807) (h3 : kk.length ≤ 9223372036854775807) (h4 : ls.length ≤ 9223372036854775807) : PC Try.prog G 13 [nV kn ke va mp kk mn ls sz bi, nV kn ke va mp kk mn ls sz bi] (Bo true) :=
  same13 G _ _ _ _ _ _ _ _ _ _ _ _ _ _ _ _ _ _ h1 h1 h2 h2 h3 h3 h4 h4 true (by simp)
theorem leaf14 (G : Nat → AV) (k v : ByteArray) : PC Try.prog G 14 [S k, S v] (nV 1 k v 0 [] 0 [] 1 0) := by
  refine pc_ofV cop14 ?_
  repeat' ((conv => whnf); first | (with_reducible refine SeqP.go ?_) | ((with_reducible refine ObD.mk ?_ ?_); (focus (first | rfl | (simp; done)))) | ((with_reducible refine ObN.mk ?_ ?_); (focus (first | rfl | assumption | omega | (simp only [List.length_map, List.length_append, List.length_cons, List.length_nil]; omega) | (simp; done) | (simp; omega)))) | ((with_reducible refine (?_ : ObU _ _)); (refine ObU.mk _ (by first | assumption | ((conv => lhs; simp only [List.set_cons_zero, List.set_cons_succ, List.take_succ_cons, List.take_zero, List.drop_succ_cons, List.drop_zero, List.nil_append, List.cons_append, List.append_nil, List.take_nil, List.drop_nil]); try rfl) | rfl) ?_)) | ((with_reducible refine (?_ : ObR _ _ _)); (first | (refine ObR.mk _ (by assumption) ?_) | (refine ObR.mk _ (by with_reducible rfl) ?_) | (refine ObR.map (by (first | omega | assumption | (simp only [List.length_map, List.length_append, List.length_cons, List.length_nil, List.length_take, List.length_drop, List.length_set, List.length_replicate]; omega))) (fun x hx => ?_)) | (refine ObR.mk _ rfl ?_))) | ((with_reducible refine ObEq.mk ?_); (focus (first | rfl | assumption))))
theorem tomb15 (G : Nat → AV) (k v : ByteArray) : PC Try.prog G 15 [S k, S v] (nV 6 k v 0 [] 0 [] 1 0) := by
  refine pc_ofV cop15 ?_
  repeat' ((conv => whnf); first | (with_reducible refine SeqP.go ?_) | ((with_reducible refine ObD.mk ?_ ?_); (focus (first | rfl | (simp; done)))) | ((with_reducible refine ObN.mk ?_ ?_); (focus (first | rfl | assumption | omega | (simp only [List.length_map, List.length_append, List.length_cons, List.length_nil]; omega) | (simp; done) | (simp; omega)))) | ((with_reducible refine (?_ : ObU _ _)); (refine ObU.mk _ (by first | assumption | ((conv => lhs; simp only [List.set_cons_zero, List.set_cons_succ, List.take_succ_cons, List.take_zero, List.drop_succ_cons, List.drop_zero, List.nil_append, List.cons_append, List.append_nil, List.take_nil, List.drop_nil]); try rfl) | rfl) ?_)) | ((with_reducible refine (?_ : ObR _ _ _)); (first | (refine ObR.mk _ (by assumption) ?_) | (refine ObR.mk _ (by with_reducible rfl) ?_) | (refine ObR.map (by (first | omega | assumption | (simp only [List.length_map, List.length_append, List.length_cons, List.length_nil, List.length_take, List.length_drop, List.length_set, List.length_replicate]; omega))) (fun x hx => ?_)) | (refine ObR.mk _ rfl ?_))) | ((with_reducible refine ObEq.mk ?_); (focus (first | rfl | assumption))))
theorem tree16 (G : Nat → AV) (k v : ByteArray) (a b s : Int) : PC Try.prog G 16 [S k, S v, I a, I b, I s] (nV 4 k v 0 [a, b] 0 [] s 0) := by
  refine pc_ofV cop16 ?_
  repeat' ((conv => whnf); first | (with_reducible refine SeqP.go ?_) | ((with_reducible refine ObD.mk ?_ ?_); (focus (first | rfl | (simp; done)))) | ((with_reducible refine ObN.mk ?_ ?_); (focus (first | rfl | assumption | omega | (simp only [List.length_map, List.length_append, List.length_cons, List.length_nil]; omega) | (simp; done) | (simp; omega)))) | ((with_reducible refine (?_ : ObU _ _)); (refine ObU.mk _ (by first | assumption | ((conv => lhs; simp only [List.set_cons_zero, List.set_cons_succ, List.take_succ_cons, List.take_zero, List.drop_succ_cons, List.drop_zero, List.nil_append, List.cons_append, List.append_nil, List.take_nil, List.drop_nil]); try rfl) | rfl) ?_)) | ((with_reducible refine (?_ : ObR _ _ _)); (first | (refine ObR.mk _ (by assumption) ?_) | (refine ObR.mk _ (by with_reducible rfl) ?_) | (refine ObR.map (by (first | omega | assumption | (simp only [List.length_map, List.length_append, List.length_cons, List.length_nil, List.length_take, List.length_drop, List.length_set, List.length_replicate]; omega))) (fun x hx => ?_)) | (refine ObR.mk _ rfl ?_))) | ((with_reducible refine ObEq.mk ?_); (focus (first | rfl | assumption))))
theorem inner17 (G : Nat → AV) (a : Int) : PC Try.prog G 17 [I a] (nV 5 ⟨#[]⟩ ⟨#[]⟩ 0 [] a [] 0 0) := by
  refine pc_ofV cop17 ?_
  repeat' ((conv => whnf); first | (with_reducible refine SeqP.go ?_) | ((with_reducible refine ObD.mk ?_ ?_); (focus (first | rfl | (simp; done)))) | ((with_reducible refine ObN.mk ?_ ?_); (focus (first | rfl | assumption | omega | (simp only [List.length_map, List.length_append, List.length_cons, List.length_nil]; omega) | (simp; done) | (simp; omega)))) | ((with_reducible refine (?_ : ObU _ _)); (refine ObU.mk _ (by first | assumption | ((conv => lhs; simp only [List.set_cons_zero, List.set_cons_succ, List.take_succ_cons, List.take_zero, List.drop_succ_cons, List.drop_zero, List.nil_append, List.cons_append, List.append_nil, List.take_nil, List.drop_nil]); try rfl) | rfl) ?_)) | ((with_reducible refine (?_ : ObR _ _ _)); (first | (refine ObR.mk _ (by assumption) ?_) | (refine ObR.mk _ (by with_reducible rfl) ?_) | (refine ObR.map (by (first | omega | assumption | (simp only [List.length_map, List.length_append, List.length_cons, List.length_nil, List.length_take, List.length_drop, List.length_set, List.length_replicate]; omega))) (fun x hx => ?_)) | (refine ObR.mk _ rfl ?_))) | ((with_reducible refine ObEq.mk ?_); (focus (first | rfl | assumption))))
theorem bucket18 (G : Nat → AV) (l m : List Pr) (h : PC Try.prog G 34 [.sl 2 (l.map pA)] (.sl 2 (m.map pA))) : PC Try.prog G 18 [.sl 2 (l.map pA)] (nV 3 ⟨#[]⟩ ⟨#[]⟩ 0 [] 0 m m.length 0) := by
  refine pc_ofV cop18 ?_
  repeat' ((conv => whnf); first | (with_reducible refine SeqP.go ?_) | ((with_reducible refine ObD.mk ?_ ?_); (focus (first | rfl | (simp; done)))) | ((with_reducible refine ObN.mk ?_ ?_); (focus (first | rfl | assumption | omega | (simp only [List.length_map, List.length_append, List.length_cons, List.length_nil]; omega) | (simp; done) | (simp; omega)))) | ((with_reducible refine (?_ : ObL _ _)); (refine ObL.mk _ (by first | exact (List.length_map _) | assumption | exact (List.length_map _).trans (by assumption) | exact List.length_map _ | rfl) ?_)) | ((with_reducible refine (?_ : ObU _ _)); (refine ObU.mk _ (by first | assumption | ((conv => lhs; simp only [List.set_cons_zero, List.set_cons_succ, List.take_succ_cons, List.take_zero, List.drop_succ_cons, List.drop_zero, List.nil_append, List.cons_append, List.append_nil, List.take_nil, List.drop_nil]); try rfl) | rfl) ?_)) | ((with_reducible refine (?_ : ObR _ _ _)); (first | (refine ObR.mk _ (by assumption) ?_) | (refine ObR.mk _ (by with_reducible rfl) ?_) | (refine ObR.map (by (first | omega | assumption | (simp only [List.length_map, List.length_append, List.length_cons, List.length_nil, List.length_take, List.length_drop, List.length_set, List.length_replicate]; omega))) (fun x hx => ?_)) | (refine ObR.mk _ rfl ?_))) | ((with_reducible refine ObC.f 34 ?_); (first | (with_reducible refine ObC.mk _ (h) ?_) | (refine ObC.mk _ (h) ?_))) | ((with_reducible refine ObEq.mk ?_); (focus (first | rfl | assumption | exact (by simp [nV])))))
theorem branch20 (G : Nat → AV) (mp : Int) (kk : List Int) (s : Int) (hk : kk.length ≤ 40) : PC Try.prog G 20 [.v (.int .u32 mp), .sl 1 (kk.map iA), I s] (nV 2 ⟨#[]⟩ ⟨#[]⟩ mp kk 0 [] s 0) := by
  have h := copy37 G kk hk
  refine pc_ofV cop20 ?_
  repeat' ((conv => whnf); first | (with_reducible refine SeqP.go ?_) | ((with_reducible refine ObD.mk ?_ ?_); (focus (first | rfl | (simp; done)))) | ((with_reducible refine ObN.mk ?_ ?_); (focus (first | rfl | assumption | omega | (simp only [List.length_map, List.length_append, List.length_cons, List.length_nil]; omega) | (simp; done) | (simp; omega)))) | ((with_reducible refine (?_ : ObU _ _)); (refine ObU.mk _ (by first | assumption | ((conv => lhs; simp only [List.set_cons_zero, List.set_cons_succ, List.take_succ_cons, List.take_zero, List.drop_succ_cons, List.drop_zero, List.nil_append, List.cons_append, List.append_nil, List.take_nil, List.drop_nil]); try rfl) | rfl) ?_)) | ((with_reducible refine (?_ : ObR _ _ _)); (first | (refine ObR.mk _ (by assumption) ?_) | (refine ObR.mk _ (by with_reducible rfl) ?_) | (refine ObR.map (by (first | omega | assumption | (simp only [List.length_map, List.length_append, List.length_cons, List.length_nil, List.length_take, List.length_drop, List.length_set, List.length_replicate]; omega))) (fun x hx => ?_)) | (refine ObR.mk _ rfl ?_))) | ((with_reducible refine ObC.f 37 ?_); (first | (with_reducible refine ObC.mk _ (h) ?_) | (refine ObC.mk _ (h) ?_))) | ((with_reducible refine ObEq.mk ?_); (focus (first | rfl | assumption))))
theorem few1_cut {l : List Int} : ((l.map iA).take (min l.length 40)).drop 0 = (few1 l).map iA := by rw [List.drop_zero]; exact few1_map l
set_option maxHeartbeats 4000000 in
theorem makes4 (G : Nat → AV) (key val : ByteArray) (mp : Int) (kk : List Int) (l : List Pr) (sz : Int) (hk : key.size ≤ 9223372036854775807) (hv : val.size ≤ 9223372036854775807) (hkk : kk.length ≤ 9223372036854775807) (hl : l.length ≤ 9223372036854775807) (hs : ∀ p ∈ l, p.1.size ≤ 9223372036854775807 ∧ p.2.size ≤ 9223372036854775807)
    (M : List Pr → List Pr) (hM : ∀ L : List Pr, L.length ≤ 40 → (∀ p ∈ L, p.1.size ≤ 40 ∧ p.2.size ≤ 40) → (M L).length ≤ 40 ∧ PC Try.prog G 34 [.sl 2 (L.map pA)] (.sl 2 ((M L).map pA)) ∧ PC Try.prog G 19 [.sl 2 (L.map pA)] (.sl 2 ((M L).map pA))) :
    PC Try.prog G 4 [S key, S val, .v (.int .u32 mp), .sl 1 (kk.map iA), .sl 2 (l.map pA), I sz] (Bo true) := by
  have c1 : PC Try.prog G 11 [S key, I 40] (S (cutB key 40)) := cutP G key 40 hk
  have c2 : PC Try.prog G 11 [S val, I 40] (S (cutB val 40)) := cutP G val 40 hv
  have f1 : PC Try.prog G 12 [.sl 2 (l.map pA)] (.sl 2 ((few l).map pA)) := few07 G l hl hs
  have b1 := cutB_size key
  have b2 := cutB_size val
  have b3 : (few1 kk).length ≤ 40 := by rw [few1_len]; omega
  have b4 := few_len l
  have b5 : ∀ p ∈ few l, p.1.size ≤ 40 ∧ p.2.size ≤ 40 := few_sizes
  have f2 : PC Try.prog G 12 [.sl 2 ((few l).map pA)] (.sl 2 ((few l).map pA)) := by
    have : PC Try.prog G 12 [.sl 2 ((few l).map pA)] (.sl 2 ((few (few l)).map pA)) := few07 G (few l) (by omega) (fun p hp => by have := b5 p hp; omega)
    rwa [few_short b4 b5] at this
  obtain ⟨m1, h34, h19⟩ := hM (few l) b4 b5
  have hw := works G
  have hcut := few1_cut (l := kk)
  have hmin : min kk.length 40 ≤ kk.length := Nat.min_le_left ..
  revert c1 c2 f1 f2 b1 b2 b3 h34 h19 hcut
  generalize cutB key 40 = K
  generalize cutB val 40 = V
  generalize few1 kk = R
  generalize few l = L at *
  intro c1 c2 f1 b1 b2 b3 f2 h34 h19 hcut
  have hb := bucket18 G L (M L) h34
  have hr := branch20 G mp R sz b3
  generalize hML : M L = Q at *
  clear hML hM b4 b5 hs hl
  by_cases h1 : 1 < R.length
  · have e0 : (R.map iA)[0]? = some (I R[0]) := iA_at (by omega)
    have e1 : (R.map iA)[1]? = some (I R[1]) := iA_at (by omega)
    refine pc_ofV cop4 ?_
    repeat' ((conv => whnf); first | (with_reducible refine SeqP.go ?_) | ((with_reducible refine (?_ : ObE _ _)); (refine ObE.min (P := Try.prog) (ats := #[]) (ty := 0) (cs := #[]) ?_)) | (with_reducible refine ObZ.mk _ min40 ?_) | ((with_reducible refine ObD.mk ?_ ?_); (focus (first | rfl | (simp; done)))) | ((with_reducible refine ObN.mk ?_ ?_); (focus (first | exact (all_iA _) | exact (all_pA _) | rfl | assumption | omega | (simp only [List.length_map, List.length_append, List.length_cons, List.length_nil]; omega) | (simp; done) | (simp; omega)))) | (with_reducible refine ObT.tt ?_) | (with_reducible refine ObT.ff ?_) | ((with_reducible refine ObB.yes ?_ ?_); (focus (first | assumption | (with_reducible rfl) | omega))) | ((with_reducible refine ObX.mk _ rfl ?_ ?_); (focus (first | omega | assumption | (simp only [List.length_map, List.length_append, List.length_cons, List.length_nil, List.length_take, List.length_drop, List.length_set, List.length_replicate]; omega)))) | ((with_reducible refine (?_ : ObL _ _)); (refine ObL.mk _ (by first | exact ((Nat.zero_add _).trans (List.length_map _)) | exact (List.length_map _) | assumption | exact (List.length_map _).trans (by assumption) | exact List.length_map _ | rfl) ?_)) | ((with_reducible refine (?_ : ObU _ _)); (refine ObU.mk _ (by first | exact hcut | exact take_iA | assumption | ((conv => lhs; simp only [List.set_cons_zero, List.set_cons_succ, List.take_succ_cons, List.take_zero, List.drop_succ_cons, List.drop_zero, List.nil_append, List.cons_append, List.append_nil, List.take_nil, List.drop_nil]); try rfl) | rfl) ?_)) | ((with_reducible refine (?_ : ObR _ _ _)); (first | (refine ObR.mk _ (by assumption) ?_) | (refine ObR.mk _ (by exact e0) ?_) | (refine ObR.mk _ (by exact e1) ?_) | (refine ObR.mk _ (by with_reducible rfl) ?_) | (refine ObR.map (by (first | omega | assumption | (simp only [List.length_map, List.length_append, List.length_cons, List.length_nil, List.length_take, List.length_drop, List.length_set, List.length_replicate]; omega))) (fun x hx => ?_)) | (refine ObR.mk _ rfl ?_))) | ((with_reducible refine ObC.f 11 ?_); (first | (with_reducible refine ObC.mk _ (c1) ?_) | (refine ObC.mk _ (c1) ?_))) | ((with_reducible refine ObC.f 11 ?_); (first | (with_reducible refine ObC.mk _ (c2) ?_) | (refine ObC.mk _ (c2) ?_))) | ((with_reducible refine ObC.f 12 ?_); (first | (with_reducible refine ObC.mk _ (f1) ?_) | (refine ObC.mk _ (f1) ?_))) | ((with_reducible refine ObC.f 12 ?_); (first | (with_reducible refine ObC.mk _ (f2) ?_) | (refine ObC.mk _ (f2) ?_))) | ((with_reducible refine ObC.f 14 ?_); (first | (with_reducible refine ObC.mk _ ((leaf14 G _ _)) ?_) | (refine ObC.mk _ ((leaf14 G _ _)) ?_))) | ((with_reducible refine ObC.f 15 ?_); (first | (with_reducible refine ObC.mk _ ((tomb15 G _ _)) ?_) | (refine ObC.mk _ ((tomb15 G _ _)) ?_))) | ((with_reducible refine ObC.f 16 ?_); (first | (with_reducible refine ObC.mk _ ((tree16 G _ _ _ _ _)) ?_) | (refine ObC.mk _ ((tree16 G _ _ _ _ _)) ?_))) | ((with_reducible refine ObC.f 17 ?_); (first | (with_reducible refine ObC.mk _ ((inner17 G _)) ?_) | (refine ObC.mk _ ((inner17 G _)) ?_))) | ((with_reducible refine ObC.f 18 ?_); (first | (with_reducible refine ObC.mk _ (hb) ?_) | (refine ObC.mk _ (hb) ?_))) | ((with_reducible refine ObC.f 19 ?_); (first | (with_reducible refine ObC.mk _ (h19) ?_) | (refine ObC.mk _ (h19) ?_))) | ((with_reducible refine ObC.f 20 ?_); (first | (with_reducible refine ObC.mk _ (hr) ?_) | (refine ObC.mk _ (hr) ?_))) | ((with_reducible refine ObC.f 10 ?_); (first | (with_reducible refine ObC.mk _ (hw) ?_) | (refine ObC.mk _ (hw) ?_))) | ((with_reducible refine ObC.f 13 ?_); (first | (with_reducible refine ObC.mk _ ((same13r G 1 K V 0 [] 0 [] 1 0 (by omega) (by omega) (by simp) (by simp))) ?_) | (refine ObC.mk _ ((same13r G 1 K V 0 [] 0 [] 1 0 (by omega) (by omega) (by simp) (by simp))) ?_))) | ((with_reducible refine ObC.f 13 ?_); (first | (with_reducible refine ObC.mk _ ((same13r G 6 K V 0 [] 0 [] 1 0 (by omega) (by omega) (by simp) (by simp))) ?_) | (refine ObC.mk _ ((same13r G 6 K V 0 [] 0 [] 1 0 (by omega) (by omega) (by simp) (by simp))) ?_))) | ((with_reducible refine ObC.f 13 ?_); (first | (with_reducible refine ObC.mk _ ((same13r G 4 K V 0 [R[0], R[1]] 0 [] sz 0 (by omega) (by omega) (by simp) (by simp))) ?_) | (refine ObC.mk _ ((same13r G 4 K V 0 [R[0], R[1]] 0 [] sz 0 (by omega) (by omega) (by simp) (by simp))) ?_))) | ((with_reducible refine ObC.f 13 ?_); (first | (with_reducible refine ObC.mk _ ((same13r G 5 ⟨#[]⟩ ⟨#[]⟩ 0 [] R[0] [] 0 0 (by decide) (by decide) (by simp) (by simp))) ?_) | (refine ObC.mk _ ((same13r G 5 ⟨#[]⟩ ⟨#[]⟩ 0 [] R[0] [] 0 0 (by decide) (by decide) (by simp) (by simp))) ?_))) | ((with_reducible refine ObC.f 13 ?_); (first | (with_reducible refine ObC.mk _ ((same13r G 3 ⟨#[]⟩ ⟨#[]⟩ 0 [] 0 Q Q.length 0 (by decide) (by decide) (by simp) (by omega))) ?_) | (refine ObC.mk _ ((same13r G 3 ⟨#[]⟩ ⟨#[]⟩ 0 [] 0 Q Q.length 0 (by decide) (by decide) (by simp) (by omega))) ?_))) | ((with_reducible refine ObC.f 13 ?_); (first | (with_reducible refine ObC.mk _ ((same13r G 2 ⟨#[]⟩ ⟨#[]⟩ mp R 0 [] sz 0 (by decide) (by decide) (by omega) (by simp))) ?_) | (refine ObC.mk _ ((same13r G 2 ⟨#[]⟩ ⟨#[]⟩ mp R 0 [] sz 0 (by decide) (by decide) (by omega) (by simp))) ?_))) | ((with_reducible refine ObJ.zn ?_ ?_); (focus (first | omega | assumption | (simp only [List.length_map, List.length_append, List.length_cons, List.length_nil, List.length_take, List.length_drop, List.length_set, List.length_replicate]; omega)))) | ((with_reducible refine ObEq.mk ?_); (focus (first | rfl | assumption))))
  · refine pc_ofV cop4 ?_
    repeat' ((conv => whnf); first | (with_reducible refine SeqP.go ?_) | ((with_reducible refine (?_ : ObE _ _)); (refine ObE.min (P := Try.prog) (ats := #[]) (ty := 0) (cs := #[]) ?_)) | (with_reducible refine ObZ.mk _ min40 ?_) | ((with_reducible refine ObD.mk ?_ ?_); (focus (first | rfl | (simp; done)))) | ((with_reducible refine ObN.mk ?_ ?_); (focus (first | exact (all_iA _) | exact (all_pA _) | rfl | assumption | omega | (simp only [List.length_map, List.length_append, List.length_cons, List.length_nil]; omega) | (simp; done) | (simp; omega)))) | (with_reducible refine ObT.tt ?_) | (with_reducible refine ObT.ff ?_) | ((with_reducible refine ObB.no ?_ ?_); (focus (first | assumption | omega))) | ((with_reducible refine (?_ : ObL _ _)); (refine ObL.mk _ (by first | exact ((Nat.zero_add _).trans (List.length_map _)) | exact (List.length_map _) | assumption | exact (List.length_map _).trans (by assumption) | exact List.length_map _ | rfl) ?_)) | ((with_reducible refine (?_ : ObU _ _)); (refine ObU.mk _ (by first | exact hcut | exact take_iA | assumption | ((conv => lhs; simp only [List.set_cons_zero, List.set_cons_succ, List.take_succ_cons, List.take_zero, List.drop_succ_cons, List.drop_zero, List.nil_append, List.cons_append, List.append_nil, List.take_nil, List.drop_nil]); try rfl) | rfl) ?_)) | ((with_reducible refine (?_ : ObR _ _ _)); (first | (refine ObR.mk _ (by assumption) ?_) | (refine ObR.mk _ (by with_reducible rfl) ?_) | (refine ObR.map (by (first | omega | assumption | (simp only [List.length_map, List.length_append, List.length_cons, List.length_nil, List.length_take, List.length_drop, List.length_set, List.length_replicate]; omega))) (fun x hx => ?_)) | (refine ObR.mk _ rfl ?_))) | ((with_reducible refine ObC.f 11 ?_); (first | (with_reducible refine ObC.mk _ (c1) ?_) | (refine ObC.mk _ (c1) ?_))) | ((with_reducible refine ObC.f 11 ?_); (first | (with_reducible refine ObC.mk _ (c2) ?_) | (refine ObC.mk _ (c2) ?_))) | ((with_reducible refine ObC.f 12 ?_); (first | (with_reducible refine ObC.mk _ (f1) ?_) | (refine ObC.mk _ (f1) ?_))) | ((with_reducible refine ObC.f 12 ?_); (first | (with_reducible refine ObC.mk _ (f2) ?_) | (refine ObC.mk _ (f2) ?_))) | ((with_reducible refine ObC.f 14 ?_); (first | (with_reducible refine ObC.mk _ ((leaf14 G _ _)) ?_) | (refine ObC.mk _ ((leaf14 G _ _)) ?_))) | ((with_reducible refine ObC.f 15 ?_); (first | (with_reducible refine ObC.mk _ ((tomb15 G _ _)) ?_) | (refine ObC.mk _ ((tomb15 G _ _)) ?_))) | ((with_reducible refine ObC.f 16 ?_); (first | (with_reducible refine ObC.mk _ ((tree16 G _ _ _ _ _)) ?_) | (refine ObC.mk _ ((tree16 G _ _ _ _ _)) ?_))) | ((with_reducible refine ObC.f 17 ?_); (first | (with_reducible refine ObC.mk _ ((inner17 G _)) ?_) | (refine ObC.mk _ ((inner17 G _)) ?_))) | ((with_reducible refine ObC.f 18 ?_); (first | (with_reducible refine ObC.mk _ (hb) ?_) | (refine ObC.mk _ (hb) ?_))) | ((with_reducible refine ObC.f 19 ?_); (first | (with_reducible refine ObC.mk _ (h19) ?_) | (refine ObC.mk _ (h19) ?_))) | ((with_reducible refine ObC.f 20 ?_); (first | (with_reducible refine ObC.mk _ (hr) ?_) | (refine ObC.mk _ (hr) ?_))) | ((with_reducible refine ObC.f 10 ?_); (first | (with_reducible refine ObC.mk _ (hw) ?_) | (refine ObC.mk _ (hw) ?_))) | ((with_reducible refine ObC.f 13 ?_); (first | (with_reducible refine ObC.mk _ ((same13r G 1 K V 0 [] 0 [] 1 0 (by omega) (by omega) (by simp) (by simp))) ?_) | (refine ObC.mk _ ((same13r G 1 K V 0 [] 0 [] 1 0 (by omega) (by omega) (by simp) (by simp))) ?_))) | ((with_reducible refine ObC.f 13 ?_); (first | (with_reducible refine ObC.mk _ ((same13r G 6 K V 0 [] 0 [] 1 0 (by omega) (by omega) (by simp) (by simp))) ?_) | (refine ObC.mk _ ((same13r G 6 K V 0 [] 0 [] 1 0 (by omega) (by omega) (by simp) (by simp))) ?_))) | ((with_reducible refine ObC.f 13 ?_); (first | (with_reducible refine ObC.mk _ ((same13r G 4 K V 0 [0, 0] 0 [] sz 0 (by omega) (by omega) (by simp) (by simp))) ?_) | (refine ObC.mk _ ((same13r G 4 K V 0 [0, 0] 0 [] sz 0 (by omega) (by omega) (by simp) (by simp))) ?_))) | ((with_reducible refine ObC.f 13 ?_); (first | (with_reducible refine ObC.mk _ ((same13r G 5 ⟨#[]⟩ ⟨#[]⟩ 0 [] 0 [] 0 0 (by decide) (by decide) (by simp) (by simp))) ?_) | (refine ObC.mk _ ((same13r G 5 ⟨#[]⟩ ⟨#[]⟩ 0 [] 0 [] 0 0 (by decide) (by decide) (by simp) (by simp))) ?_))) | ((with_reducible refine ObC.f 13 ?_); (first | (with_reducible refine ObC.mk _ ((same13r G 3 ⟨#[]⟩ ⟨#[]⟩ 0 [] 0 Q Q.length 0 (by decide) (by decide) (by simp) (by omega))) ?_) | (refine ObC.mk _ ((same13r G 3 ⟨#[]⟩ ⟨#[]⟩ 0 [] 0 Q Q.length 0 (by decide) (by decide) (by simp) (by omega))) ?_))) | ((with_reducible refine ObC.f 13 ?_); (first | (with_reducible refine ObC.mk _ ((same13r G 2 ⟨#[]⟩ ⟨#[]⟩ mp R 0 [] sz 0 (by decide) (by decide) (by omega) (by simp))) ?_) | (refine ObC.mk _ ((same13r G 2 ⟨#[]⟩ ⟨#[]⟩ mp R 0 [] sz 0 (by decide) (by decide) (by omega) (by simp))) ?_))) | ((with_reducible refine ObJ.zn ?_ ?_); (focus (first | omega | assumption | (simp only [List.length_map, List.length_append, List.length_cons, List.length_nil, List.length_take, List.length_drop, List.length_set, List.length_replicate]; omega)))) | ((with_reducible refine ObEq.mk ?_); (focus (first | rfl | assumption))))
theorem hMake (G : Nat → AV) (L : List Pr) (h40 : L.length ≤ 40) (hs : ∀ p ∈ L, p.1.size ≤ 40 ∧ p.2.size ≤ 40) : (Pr7.mk L).length ≤ 40 ∧ PC Try.prog G 34 [.sl 2 (L.map pA)] (.sl 2 ((Pr7.mk L).map pA)) ∧ PC Try.prog G 19 [.sl 2 (L.map pA)] (.sl 2 ((Pr7.mk L).map pA)) := by
  have hL : Pr7.Okl L := ⟨by omega, fun p hp => by have := hs p hp; omega⟩
  have h1 := Pr7.mk_len L
  exact ⟨by omega, Pr7.make14 G (fun g n P A B R N a m b => Pr7.sym44 _ g n P A B R N a m b) L h40 hL, Pr7.rmake15 G L hL⟩
theorem NodeMakes_calls (as0 as1 as2 as3 as4 as5 : List AV) (s0 : ShC Try.prog 9 as0) (s1 : ShC Try.prog 9 as1) (s2 : ShC Try.prog 22 as2) (s3 : ShC Try.prog 23 as3) (s4 : ShC Try.prog 25 as4) (s5 : ShC Try.prog 3 as5) :
    PC Try.prog (fun _ => .unk) 4 [mkE (isAggT Try.prog 9) as0, mkE (isAggT Try.prog 9) as1, mkE (isAggT Try.prog 22) as2, mkE (isAggT Try.prog 23) as3, mkE (isAggT Try.prog 25) as4, mkE (isAggT Try.prog 3) as5] (Bo true) := by
  have i1 : (Try.prog).underlying 3 = some (.int .i64) := by kernel_rfl
  have i2 : (Try.prog).underlying 24 = some (.int .i64) := by kernel_rfl
  have e1 : isAggT Try.prog 24 = false := by kernel_rfl
  have e2 : isAggT Try.prog 47 = true := by kernel_rfl
  have e3 : (Try.prog).cellsOf 24 = 1 := by kernel_rfl
  have e4 : (Try.prog).cellsOf 47 = 2 := by kernel_rfl
  have a9 : isAggT Try.prog 9 = false := by kernel_rfl
  have a22 : isAggT Try.prog 22 = false := by kernel_rfl
  have a23 : isAggT Try.prog 23 = false := by kernel_rfl
  have a25 : isAggT Try.prog 25 = false := by kernel_rfl
  have a3 : isAggT Try.prog 3 = false := by kernel_rfl
  obtain ⟨ke, rfl, hke⟩ := s0.str_inv u_str
  obtain ⟨va, rfl, hva⟩ := s1.str_inv u_str
  obtain ⟨mp, rfl, _⟩ := s2.u32_inv (by kernel_rfl)
  obtain ⟨css, rfl, hk, hkk⟩ := s3.slice_inv (e := 24) (by kernel_rfl)
  obtain ⟨kk, rfl⟩ := pick_list (f := fun n : Int => [I n]) (fun cs h => by obtain ⟨n, e, _⟩ := h.i64_inv i2; exact ⟨n, e⟩) css hkk
  obtain ⟨dss, rfl, hl, hll⟩ := s4.slice_inv (e := 47) (by kernel_rfl)
  obtain ⟨ls, rfl⟩ := pick_list (f := pC) (fun cs h => pair_inv h) dss hll
  obtain ⟨sz, rfl, _⟩ := s5.i64_inv i1
  have g1 : (List.map (fun n : Int => [I n]) kk).map (mkE (isAggT Try.prog 24)) = kk.map iA := by rw [e1, List.map_map]; rfl
  have g2 : (List.map pC ls).map (mkE (isAggT Try.prog 47)) = (ls.map Subtype.val).map pA := by rw [e2, List.map_map, List.map_map]; rfl
  rw [a9, a22, a23, a25, a3, g1, g2, e3, e4]
  exact makes4 _ ke va mp kk (ls.map Subtype.val) sz hke hva (by simpa using hk) (by simpa using hl) (fun p hp => by
    obtain ⟨q, _, rfl⟩ := List.mem_map.1 hp
    exact q.2) Pr7.mk (hMake _)
end Go.Proofs.Ytfhfaelmapjihaa.Sim
/- Nodes: arguments. -/
namespace Go.Proofs.Ytfhfaelmapjihaa.Sim
open Go.RowKit
set_option maxRecDepth 100000
set_option linter.unusedSimpArgs false
set_option linter.unusedVariables false
theorem node_invB {cs : List AV} (h : ShC Try.prog 27 cs) : ∃ (kn : Int) (ke va : ByteArray) (mp : Nat) (kk : List Int) (mn : Int) (ls : List Pr) (sz bi : Int), mp < 4294967296 ∧ mkE true cs = nV kn ke va (mp : Int) kk mn ls sz bi ∧ ke.size ≤ 9223372036854775807 ∧ va.size ≤ 9223372036854775807 ∧ kk.length ≤ 9223372036854775807 ∧ ls.length ≤ 9223372036854775807 ∧ ∀ p ∈ ls, p.1.size ≤ 9223372036854775807 ∧ p.2.size ≤ 9223372036854775807 := by
  have i1 : (Try.prog).underlying 3 = some (.int .i64) := by kernel_rfl
  have i2 : (Try.prog).underlying 24 = some (.int .i64) := by kernel_rfl
  have e1 : isAggT Try.prog 24 = false := by kernel_rfl
  have e2 : isAggT Try.prog 47 = true := by kernel_rfl
  have e3 : (Try.prog).cellsOf 24 = 1 := by kernel_rfl
  have e4 : (Try.prog).cellsOf 47 = 2 := by kernel_rfl
  obtain ⟨p0, q, rfl, hp0, h⟩ := (h.flds (ts := [3, 9, 9, 22, 23, 24, 25, 3, 3]) (by kernel_rfl)).cons
  obtain ⟨p1, q, rfl, hp1, h⟩ := h.cons
  obtain ⟨p2, q, rfl, hp2, h⟩ := h.cons
  obtain ⟨p3, q, rfl, hp3, h⟩ := h.cons
  obtain ⟨p4, q, rfl, hp4, h⟩ := h.cons
  obtain ⟨p5, q, rfl, hp5, h⟩ := h.cons
  obtain ⟨p6, q, rfl, hp6, h⟩ := h.cons
  obtain ⟨p7, q, rfl, hp7, h⟩ := h.cons
  obtain ⟨p8, q, rfl, hp8, h⟩ := h.cons
  obtain rfl := h.nil
  obtain ⟨kn, rfl, _⟩ := hp0.i64_inv i1
  obtain ⟨ke, rfl, hke⟩ := hp1.str_inv u_str
  obtain ⟨va, rfl, hva⟩ := hp2.str_inv u_str
  obtain ⟨mp0, rfl, hm0, hm1⟩ := hp3.u32_inv (by kernel_rfl)
  obtain ⟨mp, rfl⟩ := Int.eq_ofNat_of_zero_le hm0
  obtain ⟨css, rfl, hk, hkk⟩ := hp4.slice_inv (e := 24) (by kernel_rfl)
  obtain ⟨kk, rfl⟩ := pick_list (f := fun n : Int => [I n]) (fun cs h => by obtain ⟨n, e, _⟩ := h.i64_inv i2; exact ⟨n, e⟩) css hkk
  obtain ⟨mn, rfl, _⟩ := hp5.i64_inv i2
  obtain ⟨dss, rfl, hl, hll⟩ := hp6.slice_inv (e := 47) (by kernel_rfl)
  obtain ⟨ls, rfl⟩ := pick_list (f := pC) (fun cs h => pair_inv h) dss hll
  obtain ⟨sz, rfl, _⟩ := hp7.i64_inv i1
  obtain ⟨bi, rfl, _⟩ := hp8.i64_inv i1
  have g1 : (List.map (fun n : Int => [I n]) kk).map (mkE (isAggT Try.prog 24)) = kk.map iA := by rw [e1, List.map_map]; rfl
  have g2 : (List.map pC ls).map (mkE (isAggT Try.prog 47)) = (ls.map Subtype.val).map pA := by rw [e2, List.map_map, List.map_map]; rfl
  refine ⟨kn, ke, va, mp, kk, mn, ls.map Subtype.val, sz, bi, by omega, ?_, hke, hva, by simpa using hk, by simpa using hl, ?_⟩
  · rw [g1, g2, e3, e4]; rfl
  · intro p hp
    obtain ⟨q, _, rfl⟩ := List.mem_map.1 hp
    exact q.2
end Go.Proofs.Ytfhfaelmapjihaa.Sim
/- The plain text of this seat's functions. -/
namespace Go.Proofs.Ytfhfaelmapjihaa.Sim
set_option maxRecDepth 100000
/-- boscage/boscagelaw13.NodeMays -/
def A3 : AF := (AF.mk 14 [(2, none)] (AC.seq (AC.region [(AI.mk (some 1) (AOp.new 27 9 (AX.t 0)) none), (AI.mk (some 2) (AOp.mv (AX.c (AV.v (Value.bool false)))) none)]) (AC.seq (AC.region [(AI.mk (some 3) (AOp.load true 9 (AX.t 1)) none), (AI.mk (some 4) (AOp.call 7 [(AX.t 3)]) none), (AI.mk none (AOp.store 9 (AX.t 1) (AX.t 4)) none)]) (AC.seq (AC.draw [(AI.mk (some 5) (AOp.load true 9 (AX.t 1)) none), (AI.mk (some 6) (AOp.call 7 [(AX.t 5)]) none), (AI.mk (some 7) (AOp.call 8 [(AX.t 6)]) none), (AI.mk (some 8) (AOp.load true 9 (AX.t 1)) none), (AI.mk (some 9) (AOp.call 9 [(AX.t 8)]) none), (AI.mk (some 10) (AOp.bin BinOp.eql 29 false (Operand.tmp 7) (Operand.tmp 9) (AX.t 7) (AX.t 9)) none), (AI.mk (some 11) (AOp.mv (AX.t 10)) none), (AI.mk (some 12) (AOp.call 10 []) (some (11, true))), (AI.mk (some 13) (AOp.pick (AX.t 11) (AX.t 12) (AX.c (AV.v (Value.bool false)))) none), (AI.mk (some 2) (AOp.mv (AX.t 13)) none)]) AC.ret))))
theorem cop3 : copF Try.prog [30,42,49,50,56,57,58,59,60] 3 = some A3 := by kernel_rfl
theorem hb3 : hasBody Try.prog 3 = true := by kernel_rfl
end Go.Proofs.Ytfhfaelmapjihaa.Sim
/- Nodes: which may be, by the program and by the document. -/
namespace Go.Proofs.Ytfhfaelmapjihaa.Sim
open Go.RowKit
set_option maxRecDepth 100000
set_option linter.unusedSimpArgs false
set_option linter.unusedVariables false
theorem cnt43 (G : Nat → AV) (m : Nat) (hm : m < 4294967296) : PC Try.prog G 43 [.v (.int .u32 (m : Int))] (I ((upI m 32).length : Nat)) := by
  have h := pop53 G m hm
  have e : (Mk.all m).length = (upI m 32).length := by simp [upI, Mk.all]
  rw [e] at h
  refine pc_ofV cop43 ?_
  repeat' ((conv => whnf); first | (with_reducible refine SeqP.go ?_) | ((with_reducible refine ObC.f 53 ?_); (first | (with_reducible refine ObC.mk _ (h) ?_) | (refine ObC.mk _ (h) ?_))) | ((with_reducible refine ObEq.i ?_); (focus (first | (with_reducible rfl) | omega))))
theorem lenP {α : Type} {l : List α} : (0 : Int) < (l.length : Nat) ↔ ¬ l = [] := by cases l <;> simp
theorem lenZ {α : Type} {l : List α} : ((l.length : Nat) : Int) = 0 ↔ l = [] := by rw [← List.length_eq_zero_iff]; omega
theorem slt_mk {l : List Pr} : Pr7.SLt l ↔ l = Pr7.mk l := ⟨fun h => (Pr7.mk_of h).symm, fun h => by rw [h]; exact Pr7.mk_lt l⟩
set_option maxHeartbeats 4000000 in
theorem hasForm31 (G : Nat → AV) (kn : Int) (ke va : ByteArray) (mp : Nat) (kk : List Int) (mn : Int) (ls : List Pr) (sz bi : Int) (k1 : 1 ≤ kn) (k6 : kn ≤ 6) (hm : mp < 4294967296) (hke : ke.size ≤ 40) (hva : va.size ≤ 40) (hk : kk.length ≤ 40) (hl : ls.length ≤ 40) (hs : ∀ p ∈ ls, p.1.size ≤ 40 ∧ p.2.size ≤ 40) (r : Bool) (hr : r = true ↔ FormP kn ke va mp kk mn ls sz bi) :
    PC Try.prog G 31 [nV kn ke va (mp : Int) kk mn ls sz bi] (Bo r) := by
  have hkn : kn = 1 ∨ kn = 6 ∨ kn = 2 ∨ kn = 3 ∨ kn = 4 ∨ kn = 5 := by omega
  have z0 : ByteArray.size (ByteArray.mk #[]) ≤ 9223372036854775807 := by decide
  have l0 : ([] : List Int).length ≤ 9223372036854775807 := by simp
  have l1 : ([] : List Pr).length ≤ 9223372036854775807 := by simp
  rcases hkn with rfl | rfl | rfl | rfl | rfl | rfl
  · obtain ⟨q, hq⟩ : ∃ q, q = decide ((1 : Int) = 1 ∧ ke = ke ∧ va = va ∧ (mp : Int) = 0 ∧ kk = [] ∧ mn = 0 ∧ ls = [] ∧ sz = 1 ∧ bi = bi) := ⟨_, rfl⟩
    have h22 := same22 G 1 1 ke ke va va mp 0 kk [] mn 0 ls [] sz 1 bi bi (by omega) (by omega) (by omega) (by omega) (by omega) l0 (by omega) l1 q hq
    have hr' : r = true ↔ ¬ bi < 0 ∧ q = true := by rw [hr, hq]; simp [FormP, BareP, lenP, lenZ]; intros; constructor <;> (intros; simp_all)
    clear hr hq hs
    refine pc_ofV cop31 ?_
    repeat' ((conv => whnf); first | (with_reducible refine SeqP.go ?_) | ((with_reducible refine ObD.mk ?_ ?_); (focus (first | rfl | (simp; done)))) | ((with_reducible refine ObN.mk ?_ ?_); (focus (first | rfl | assumption | omega | (simp only [List.length_map, List.length_append, List.length_cons, List.length_nil]; omega) | (simp; done) | (simp; omega)))) | (with_reducible refine ObT.tt ?_) | (with_reducible refine ObT.ff ?_) | ((with_reducible refine ObB.yes ?_ ?_); (focus (first | assumption | (with_reducible rfl) | omega))) | (with_reducible refine ObB.mk (fun h => ?_) (fun h => ?_)) | ((with_reducible refine (?_ : ObU _ _)); (refine ObU.mk _ (by first | assumption | ((conv => lhs; simp only [List.set_cons_zero, List.set_cons_succ, List.take_succ_cons, List.take_zero, List.drop_succ_cons, List.drop_zero, List.nil_append, List.cons_append, List.append_nil, List.take_nil, List.drop_nil]); try rfl) | rfl) ?_)) | ((with_reducible refine (?_ : ObR _ _ _)); (first | (refine ObR.mk _ (by assumption) ?_) | (refine ObR.mk _ (by with_reducible rfl) ?_) | (refine ObR.map (by (first | omega | assumption | (simp only [List.length_map, List.length_append, List.length_cons, List.length_nil, List.length_take, List.length_drop, List.length_set, List.length_replicate]; omega))) (fun x hx => ?_)) | (refine ObR.mk _ rfl ?_))) | ((with_reducible refine ObC.f 14 ?_); (first | (with_reducible refine ObC.mk _ ((leaf14 G _ _)) ?_) | (refine ObC.mk _ ((leaf14 G _ _)) ?_))) | ((with_reducible refine ObC.f 22 ?_); (first | (with_reducible refine ObC.mk _ (h22) ?_) | (refine ObC.mk _ (h22) ?_))) | ((with_reducible refine ObEq.mk ?_); (focus (first | rfl | assumption | exact (by cases r <;> cases q <;> first | (simp_all; done) | (simp_all; omega))))))
  · obtain ⟨q, hq⟩ : ∃ q, q = decide ((6 : Int) = 6 ∧ ke = ke ∧ va = va ∧ (mp : Int) = 0 ∧ kk = [] ∧ mn = 0 ∧ ls = [] ∧ sz = 1 ∧ bi = bi) := ⟨_, rfl⟩
    have h22 := same22 G 6 6 ke ke va va mp 0 kk [] mn 0 ls [] sz 1 bi bi (by omega) (by omega) (by omega) (by omega) (by omega) l0 (by omega) l1 q hq
    have hr' : r = true ↔ ¬ bi < 0 ∧ q = true := by rw [hr, hq]; simp [FormP, BareP, lenP, lenZ]; intros; constructor <;> (intros; simp_all)
    clear hr hq hs
    refine pc_ofV cop31 ?_
    repeat' ((conv => whnf); first | (with_reducible refine SeqP.go ?_) | ((with_reducible refine ObD.mk ?_ ?_); (focus (first | rfl | (simp; done)))) | ((with_reducible refine ObN.mk ?_ ?_); (focus (first | rfl | assumption | omega | (simp only [List.length_map, List.length_append, List.length_cons, List.length_nil]; omega) | (simp; done) | (simp; omega)))) | (with_reducible refine ObT.tt ?_) | (with_reducible refine ObT.ff ?_) | ((with_reducible refine ObB.yes ?_ ?_); (focus (first | assumption | (with_reducible rfl) | omega))) | ((with_reducible refine ObB.no ?_ ?_); (focus (first | assumption | omega))) | (with_reducible refine ObB.mk (fun h => ?_) (fun h => ?_)) | ((with_reducible refine (?_ : ObU _ _)); (refine ObU.mk _ (by first | assumption | ((conv => lhs; simp only [List.set_cons_zero, List.set_cons_succ, List.take_succ_cons, List.take_zero, List.drop_succ_cons, List.drop_zero, List.nil_append, List.cons_append, List.append_nil, List.take_nil, List.drop_nil]); try rfl) | rfl) ?_)) | ((with_reducible refine (?_ : ObR _ _ _)); (first | (refine ObR.mk _ (by assumption) ?_) | (refine ObR.mk _ (by with_reducible rfl) ?_) | (refine ObR.map (by (first | omega | assumption | (simp only [List.length_map, List.length_append, List.length_cons, List.length_nil, List.length_take, List.length_drop, List.length_set, List.length_replicate]; omega))) (fun x hx => ?_)) | (refine ObR.mk _ rfl ?_))) | ((with_reducible refine ObC.f 15 ?_); (first | (with_reducible refine ObC.mk _ ((tomb15 G _ _)) ?_) | (refine ObC.mk _ ((tomb15 G _ _)) ?_))) | ((with_reducible refine ObC.f 22 ?_); (first | (with_reducible refine ObC.mk _ (h22) ?_) | (refine ObC.mk _ (h22) ?_))) | ((with_reducible refine ObEq.mk ?_); (focus (first | rfl | assumption | exact (by cases r <;> cases q <;> first | (simp_all; done) | (simp_all; omega))))))
  · obtain ⟨q, hq⟩ : ∃ q, q = decide ((2 : Int) = 2 ∧ ke = ByteArray.mk #[] ∧ va = ByteArray.mk #[] ∧ (mp : Int) = mp ∧ kk = kk ∧ mn = 0 ∧ ls = [] ∧ sz = sz ∧ bi = bi) := ⟨_, rfl⟩
    have h22 := same22 G 2 2 ke (ByteArray.mk #[]) va (ByteArray.mk #[]) mp mp kk kk mn 0 ls [] sz sz bi bi (by omega) z0 (by omega) z0 (by omega) (by omega) (by omega) l1 q hq
    have h43 := cnt43 G mp hm
    have h44 := has54 G kk (by omega) 0
    obtain ⟨q0, hq0⟩ : ∃ q0, q0 = decide ((0 : Int) ∈ kk) := ⟨_, rfl⟩
    rw [← hq0] at h44
    have hr' : r = true ↔ ¬ bi < 0 ∧ q0 = false ∧ ((kk.length : Nat) : Int) = ((upI mp 32).length : Nat) ∧ 0 ≤ sz ∧ q = true := by rw [hr, hq, hq0]; simp [FormP, BareP, lenP, lenZ]; intros; constructor <;> (intros; simp_all)
    have hu := upI_len mp 32
    clear hr hq hs hq0
    generalize (upI mp 32).length = c at *
    have hr2 : ((kk.length : Nat) : Int) = (c : Nat) → ¬ bi < 0 → 0 ≤ sz → q0 = false → r = q := fun a b d e => by cases r <;> cases q <;> simp_all
    have hr3 : ¬ (((kk.length : Nat) : Int) = (c : Nat) ∧ ¬ bi < 0 ∧ 0 ≤ sz ∧ q0 = false) → r = false := fun a => by cases r with | false => rfl | true => exact absurd ⟨(hr'.1 rfl).2.2.1, (hr'.1 rfl).1, (hr'.1 rfl).2.2.2.1, (hr'.1 rfl).2.1⟩ a
    clear hr'
    refine pc_ofV cop31 ?_
    repeat' ((conv => whnf); first | (with_reducible refine SeqP.go ?_) | ((with_reducible refine ObD.mk ?_ ?_); (focus (first | rfl | (simp; done)))) | ((with_reducible refine ObN.mk ?_ ?_); (focus (first | rfl | assumption | omega | (simp only [List.length_map, List.length_append, List.length_cons, List.length_nil]; omega) | (simp; done) | (simp; omega)))) | (with_reducible refine ObT.tt ?_) | (with_reducible refine ObT.ff ?_) | (with_reducible refine ObT.mk (fun h => ?_) (fun h => ?_)) | ((with_reducible refine ObB.yes ?_ ?_); (focus (first | assumption | (with_reducible rfl) | omega))) | ((with_reducible refine ObB.no ?_ ?_); (focus (first | assumption | omega))) | (with_reducible refine ObB.mk (fun h => ?_) (fun h => ?_)) | ((with_reducible refine (?_ : ObL _ _)); (refine ObL.mk _ (by first | assumption | exact (List.length_map _).trans (by assumption) | exact List.length_map _ | rfl) ?_)) | ((with_reducible refine (?_ : ObU _ _)); (refine ObU.mk _ (by first | assumption | ((conv => lhs; simp only [List.set_cons_zero, List.set_cons_succ, List.take_succ_cons, List.take_zero, List.drop_succ_cons, List.drop_zero, List.nil_append, List.cons_append, List.append_nil, List.take_nil, List.drop_nil]); try rfl) | rfl) ?_)) | ((with_reducible refine (?_ : ObR _ _ _)); (first | (refine ObR.mk _ (by assumption) ?_) | (refine ObR.mk _ (by with_reducible rfl) ?_) | (refine ObR.map (by (first | omega | assumption | (simp only [List.length_map, List.length_append, List.length_cons, List.length_nil, List.length_take, List.length_drop, List.length_set, List.length_replicate]; omega))) (fun x hx => ?_)) | (refine ObR.mk _ rfl ?_))) | ((with_reducible refine ObC.f 20 ?_); (first | (with_reducible refine ObC.mk _ ((branch20 G _ _ _ hk)) ?_) | (refine ObC.mk _ ((branch20 G _ _ _ hk)) ?_))) | ((with_reducible refine ObC.f 43 ?_); (first | (with_reducible refine ObC.mk _ (h43) ?_) | (refine ObC.mk _ (h43) ?_))) | ((with_reducible refine ObC.f 44 ?_); (first | (with_reducible refine ObC.mk _ (h44) ?_) | (refine ObC.mk _ (h44) ?_))) | ((with_reducible refine ObC.f 22 ?_); (first | (with_reducible refine ObC.mk _ (h22) ?_) | (refine ObC.mk _ (h22) ?_))) | ((with_reducible refine ObEq.mk ?_); (focus (first | rfl | assumption | exact (by first | (rw [hr2 (by assumption) (by omega) (by omega) (by assumption)]; done) | (have hf : r = false := hr3 (by rintro ⟨h1, h2, h3, h4⟩; first | omega | simp_all); rw [hf]))))))
  · obtain ⟨q, hq⟩ : ∃ q, q = decide ((3 : Int) = 3 ∧ ke = ByteArray.mk #[] ∧ va = ByteArray.mk #[] ∧ (mp : Int) = 0 ∧ kk = [] ∧ mn = 0 ∧ ls = Pr7.mk ls ∧ sz = ((Pr7.mk ls).length : Nat) ∧ bi = bi) := ⟨_, rfl⟩
    obtain ⟨m1, h34, h19⟩ := hMake G ls hl hs
    have h22 := same22 G 3 3 ke (ByteArray.mk #[]) va (ByteArray.mk #[]) mp 0 kk [] mn 0 ls (Pr7.mk ls) sz ((Pr7.mk ls).length : Nat) bi bi (by omega) z0 (by omega) z0 (by omega) l0 (by omega) (by omega) q hq
    have h18 := bucket18 G ls (Pr7.mk ls) h34
    have hr' : r = true ↔ ¬ bi < 0 ∧ (2 : Int) ≤ (ls.length : Nat) ∧ q = true := by
      rw [hr, hq, decide_eq_true_iff]
      unfold FormP BareP
      rw [lenP, slt_mk]
      generalize Pr7.mk ls = M
      constructor
      · rintro ⟨a, h⟩
        rcases h with ⟨h, _⟩ | ⟨h, _⟩ | ⟨_, b, c, d, e, f, g, _⟩ | ⟨h, _⟩ | ⟨h, _⟩
        · omega
        · omega
        · exact ⟨a, b, rfl, (e rfl).1, (e rfl).2, (f rfl).1, Classical.not_not.1 (f rfl).2, g rfl, c, by rw [d, ← c], rfl⟩
        · omega
        · omega
      · rintro ⟨a, b, _, c, d, e, f, g, i, j, _⟩
        exact ⟨a, .inr (.inr (.inl ⟨rfl, b, i, by rw [j, ← i], fun _ => ⟨c, d⟩, fun _ => ⟨e, fun h => h f⟩, fun _ => g, fun h => by cases h⟩))⟩
    clear hr hq hs h34 h19
    refine pc_ofV cop31 ?_
    repeat' ((conv => whnf); first | (with_reducible refine SeqP.go ?_) | ((with_reducible refine ObD.mk ?_ ?_); (focus (first | rfl | (simp; done)))) | ((with_reducible refine ObN.mk ?_ ?_); (focus (first | rfl | assumption | omega | (simp only [List.length_map, List.length_append, List.length_cons, List.length_nil]; omega) | (simp; done) | (simp; omega)))) | (with_reducible refine ObT.tt ?_) | (with_reducible refine ObT.ff ?_) | ((with_reducible refine ObB.yes ?_ ?_); (focus (first | assumption | (with_reducible rfl) | omega))) | ((with_reducible refine ObB.no ?_ ?_); (focus (first | assumption | omega))) | (with_reducible refine ObB.mk (fun h => ?_) (fun h => ?_)) | ((with_reducible refine (?_ : ObL _ _)); (refine ObL.mk _ (by first | assumption | exact (List.length_map _).trans (by assumption) | exact List.length_map _ | rfl) ?_)) | ((with_reducible refine (?_ : ObU _ _)); (refine ObU.mk _ (by first | assumption | ((conv => lhs; simp only [List.set_cons_zero, List.set_cons_succ, List.take_succ_cons, List.take_zero, List.drop_succ_cons, List.drop_zero, List.nil_append, List.cons_append, List.append_nil, List.take_nil, List.drop_nil]); try rfl) | rfl) ?_)) | ((with_reducible refine (?_ : ObR _ _ _)); (first | (refine ObR.mk _ (by assumption) ?_) | (refine ObR.mk _ (by with_reducible rfl) ?_) | (refine ObR.map (by (first | omega | assumption | (simp only [List.length_map, List.length_append, List.length_cons, List.length_nil, List.length_take, List.length_drop, List.length_set, List.length_replicate]; omega))) (fun x hx => ?_)) | (refine ObR.mk _ rfl ?_))) | ((with_reducible refine ObC.f 18 ?_); (first | (with_reducible refine ObC.mk _ (h18) ?_) | (refine ObC.mk _ (h18) ?_))) | ((with_reducible refine ObC.f 22 ?_); (first | (with_reducible refine ObC.mk _ (h22) ?_) | (refine ObC.mk _ (h22) ?_))) | ((with_reducible refine ObEq.mk ?_); (focus (first | rfl | assumption | exact (by cases r <;> cases q <;> first | (simp_all; done) | (simp_all; omega))))))
  · obtain ⟨q, hq⟩ : ∃ q, q = decide ((4 : Int) = 4 ∧ ke = ke ∧ va = va ∧ (mp : Int) = 0 ∧ kk = kk ∧ mn = 0 ∧ ls = [] ∧ sz = sz ∧ bi = bi) := ⟨_, rfl⟩
    have h22 := same22 G 4 4 ke ke va va mp 0 kk kk mn 0 ls [] sz sz bi bi (by omega) (by omega) (by omega) (by omega) (by omega) (by omega) (by omega) l1 q hq
    have hr' : r = true ↔ ¬ bi < 0 ∧ ((kk.length : Nat) : Int) = 2 ∧ 1 ≤ sz ∧ q = true := by rw [hr, hq]; simp [FormP, BareP, lenP, lenZ]; intros; constructor <;> (intros; simp_all)
    clear hr hq hs
    refine pc_ofV cop31 ?_
    repeat' ((conv => whnf); first | (with_reducible refine SeqP.go ?_) | ((with_reducible refine ObD.mk ?_ ?_); (focus (first | rfl | (simp; done)))) | ((with_reducible refine ObN.mk ?_ ?_); (focus (first | rfl | assumption | omega | (simp only [List.length_map, List.length_append, List.length_cons, List.length_nil]; omega) | (simp; done) | (simp; omega)))) | (with_reducible refine ObT.tt ?_) | (with_reducible refine ObT.ff ?_) | ((with_reducible refine ObB.yes ?_ ?_); (focus (first | assumption | (with_reducible rfl) | omega))) | ((with_reducible refine ObB.no ?_ ?_); (focus (first | assumption | omega))) | (with_reducible refine ObB.mk (fun h => ?_) (fun h => ?_)) | ((with_reducible refine (?_ : ObL _ _)); (refine ObL.mk _ (by first | assumption | exact (List.length_map _).trans (by assumption) | exact List.length_map _ | rfl) ?_)) | ((with_reducible refine (?_ : ObU _ _)); (refine ObU.mk _ (by first | assumption | ((conv => lhs; simp only [List.set_cons_zero, List.set_cons_succ, List.take_succ_cons, List.take_zero, List.drop_succ_cons, List.drop_zero, List.nil_append, List.cons_append, List.append_nil, List.take_nil, List.drop_nil]); try rfl) | rfl) ?_)) | ((with_reducible refine (?_ : ObR _ _ _)); (first | (refine ObR.mk _ (by assumption) ?_) | (refine ObR.mk _ (by with_reducible rfl) ?_) | (refine ObR.map (by (first | omega | assumption | (simp only [List.length_map, List.length_append, List.length_cons, List.length_nil, List.length_take, List.length_drop, List.length_set, List.length_replicate]; omega))) (fun x hx => ?_)) | (refine ObR.mk _ rfl ?_))) | ((with_reducible refine ObC.f 22 ?_); (first | (with_reducible refine ObC.mk _ (h22) ?_) | (refine ObC.mk _ (h22) ?_))) | ((with_reducible refine ObEq.mk ?_); (focus (first | rfl | assumption | exact (by cases r <;> cases q <;> first | (simp_all; done) | (simp_all; omega))))))
  · obtain ⟨q, hq⟩ : ∃ q, q = decide ((5 : Int) = 5 ∧ ke = ByteArray.mk #[] ∧ va = ByteArray.mk #[] ∧ (mp : Int) = 0 ∧ kk = [] ∧ mn = mn ∧ ls = [] ∧ sz = 0 ∧ bi = bi) := ⟨_, rfl⟩
    have h22 := same22 G 5 5 ke (ByteArray.mk #[]) va (ByteArray.mk #[]) mp 0 kk [] mn mn ls [] sz 0 bi bi (by omega) z0 (by omega) z0 (by omega) l0 (by omega) l1 q hq
    have hr' : r = true ↔ ¬ bi < 0 ∧ ¬ mn = 0 ∧ q = true := by rw [hr, hq]; simp [FormP, BareP, lenP, lenZ]; intros; constructor <;> (intros; simp_all)
    clear hr hq hs
    refine pc_ofV cop31 ?_
    repeat' ((conv => whnf); first | (with_reducible refine SeqP.go ?_) | ((with_reducible refine ObD.mk ?_ ?_); (focus (first | rfl | (simp; done)))) | ((with_reducible refine ObN.mk ?_ ?_); (focus (first | rfl | assumption | omega | (simp only [List.length_map, List.length_append, List.length_cons, List.length_nil]; omega) | (simp; done) | (simp; omega)))) | (with_reducible refine ObT.tt ?_) | (with_reducible refine ObT.ff ?_) | ((with_reducible refine ObB.yes ?_ ?_); (focus (first | assumption | (with_reducible rfl) | omega))) | ((with_reducible refine ObB.no ?_ ?_); (focus (first | assumption | omega))) | (with_reducible refine ObB.mk (fun h => ?_) (fun h => ?_)) | ((with_reducible refine (?_ : ObU _ _)); (refine ObU.mk _ (by first | assumption | ((conv => lhs; simp only [List.set_cons_zero, List.set_cons_succ, List.take_succ_cons, List.take_zero, List.drop_succ_cons, List.drop_zero, List.nil_append, List.cons_append, List.append_nil, List.take_nil, List.drop_nil]); try rfl) | rfl) ?_)) | ((with_reducible refine (?_ : ObR _ _ _)); (first | (refine ObR.mk _ (by assumption) ?_) | (refine ObR.mk _ (by with_reducible rfl) ?_) | (refine ObR.map (by (first | omega | assumption | (simp only [List.length_map, List.length_append, List.length_cons, List.length_nil, List.length_take, List.length_drop, List.length_set, List.length_replicate]; omega))) (fun x hx => ?_)) | (refine ObR.mk _ rfl ?_))) | ((with_reducible refine ObC.f 17 ?_); (first | (with_reducible refine ObC.mk _ ((inner17 G _)) ?_) | (refine ObC.mk _ ((inner17 G _)) ?_))) | ((with_reducible refine ObC.f 22 ?_); (first | (with_reducible refine ObC.mk _ (h22) ?_) | (refine ObC.mk _ (h22) ?_))) | ((with_reducible refine ObEq.mk ?_); (focus (first | rfl | assumption | exact (by cases r <;> cases q <;> first | (simp_all; done) | (simp_all; omega))))))
/-- The error of a node. -/
def mayE (kn : Int) (lo q : Bool) : Int := if kn < 1 then 11 else if 6 < kn then 11 else if lo = true then 6 else if q = true then 0 else 4
theorem may8 (G : Nat → AV) (kn : Int) (ke va : ByteArray) (mp : Nat) (kk : List Int) (mn : Int) (ls : List Pr) (sz bi : Int) (hm : mp < 4294967296) (hke : ke.size ≤ 40) (hva : va.size ≤ 40) (hk : kk.length ≤ 40) (hl : ls.length ≤ 40) (hs : ∀ p ∈ ls, p.1.size ≤ 40 ∧ p.2.size ≤ 40) (q : Bool) (hq : q = true ↔ FormP kn ke va mp kk mn ls sz bi) :
    PC Try.prog G 8 [nV kn ke va (mp : Int) kk mn ls sz bi] (I (mayE kn (lg (ke, va) || ls.any lg) q)) := by
  have h29 := isl29 G ke va
  have h30 := fun H => any30 G ls (by omega) H
  have h31 := fun k1 k6 => hasForm31 G kn ke va mp kk mn ls sz bi k1 k6 hm hke hva hk hl hs q hq
  clear hq hs
  generalize lg (ke, va) = a at *
  generalize ls.any lg = b at *
  refine pc_ofV cop8 ?_
  unfold mayE
  by_cases h1 : kn < 1
  · rw [if_pos h1]
    repeat' ((conv => whnf); first | (with_reducible refine SeqP.go ?_) | ((with_reducible refine ObD.mk ?_ ?_); (focus (first | rfl | (simp; done)))) | ((with_reducible refine ObN.mk ?_ ?_); (focus (first | rfl | assumption | omega | (simp only [List.length_map, List.length_append, List.length_cons, List.length_nil]; omega) | (simp; done) | (simp; omega)))) | (with_reducible refine ObT.tt ?_) | ((with_reducible refine ObB.yes ?_ ?_); (focus (first | assumption | (with_reducible rfl) | omega))) | ((with_reducible refine (?_ : ObR _ _ _)); (first | (refine ObR.mk _ (by assumption) ?_) | (refine ObR.mk _ (by with_reducible rfl) ?_) | (refine ObR.map (by (first | omega | assumption | (simp only [List.length_map, List.length_append, List.length_cons, List.length_nil, List.length_take, List.length_drop, List.length_set, List.length_replicate]; omega))) (fun x hx => ?_)) | (refine ObR.mk _ rfl ?_))) | ((with_reducible refine ObEq.i ?_); (focus (first | (with_reducible rfl) | omega))))
  rw [if_neg h1]
  by_cases h6 : 6 < kn
  · rw [if_pos h6]
    repeat' ((conv => whnf); first | (with_reducible refine SeqP.go ?_) | ((with_reducible refine ObD.mk ?_ ?_); (focus (first | rfl | (simp; done)))) | ((with_reducible refine ObN.mk ?_ ?_); (focus (first | rfl | assumption | omega | (simp only [List.length_map, List.length_append, List.length_cons, List.length_nil]; omega) | (simp; done) | (simp; omega)))) | (with_reducible refine ObT.tt ?_) | (with_reducible refine ObT.ff ?_) | ((with_reducible refine ObB.yes ?_ ?_); (focus (first | assumption | (with_reducible rfl) | omega))) | ((with_reducible refine ObB.no ?_ ?_); (focus (first | assumption | omega))) | ((with_reducible refine (?_ : ObR _ _ _)); (first | (refine ObR.mk _ (by assumption) ?_) | (refine ObR.mk _ (by with_reducible rfl) ?_) | (refine ObR.map (by (first | omega | assumption | (simp only [List.length_map, List.length_append, List.length_cons, List.length_nil, List.length_take, List.length_drop, List.length_set, List.length_replicate]; omega))) (fun x hx => ?_)) | (refine ObR.mk _ rfl ?_))) | ((with_reducible refine ObEq.i ?_); (focus (first | (with_reducible rfl) | omega))))
  rw [if_neg h6]
  have h31 := h31 (by omega) (by omega)
  cases a <;> cases b <;> cases q
  all_goals repeat' ((conv => whnf); first | (with_reducible refine SeqP.go ?_) | ((with_reducible refine ObD.mk ?_ ?_); (focus (first | rfl | (simp; done)))) | ((with_reducible refine ObN.mk ?_ ?_); (focus (first | rfl | assumption | omega | (simp only [List.length_map, List.length_append, List.length_cons, List.length_nil]; omega) | (simp; done) | (simp; omega)))) | (with_reducible refine ObT.tt ?_) | (with_reducible refine ObT.ff ?_) | ((with_reducible refine ObB.no ?_ ?_); (focus (first | assumption | omega))) | ((with_reducible refine (?_ : ObR _ _ _)); (first | (refine ObR.mk _ (by assumption) ?_) | (refine ObR.mk _ (by with_reducible rfl) ?_) | (refine ObR.map (by (first | omega | assumption | (simp only [List.length_map, List.length_append, List.length_cons, List.length_nil, List.length_take, List.length_drop, List.length_set, List.length_replicate]; omega))) (fun x hx => ?_)) | (refine ObR.mk _ rfl ?_))) | ((with_reducible refine ObC.f 29 ?_); (first | (with_reducible refine ObC.mk _ (h29) ?_) | (refine ObC.mk _ (h29) ?_))) | ((with_reducible refine ObH.f 30 ?_); (first | (with_reducible refine ObH.mk _ _ ((h30 _)) ?_) | (refine ObH.mk _ _ ((h30 _)) ?_))) | ((with_reducible refine ObC.f 31 ?_); (first | (with_reducible refine ObC.mk _ (h31) ?_) | (refine ObC.mk _ (h31) ?_))) | ((with_reducible refine ObEq.mk ?_); (focus (first | rfl | assumption))))
theorem may9 (G : Nat → AV) (kn : Int) (ke va : ByteArray) (mp : Nat) (kk : List Int) (mn : Int) (ls : List Pr) (sz bi : Int) (hm : mp < 4294967296) (hk : kk.length ≤ 40) (hl : ls.length ≤ 40) (hs : ∀ p ∈ ls, p.1.size ≤ 40 ∧ p.2.size ≤ 40) (q : Bool) (hq : q = true ↔ FormP kn ke va mp kk mn ls sz bi) :
    PC Try.prog G 9 [nV kn ke va (mp : Int) kk mn ls sz bi] (I (mayE kn (lg (ke, va) || ls.any lg) q)) := by
  have h32 := long32 G kn ke va mp kk mn ls sz bi (by omega)
  have h33 := fun k1 k6 => form33 G kn ke va mp kk mn ls sz bi k1 k6 hm hk hl hs q hq
  clear hq hs
  generalize (lg (ke, va) || ls.any lg) = a at *
  refine pc_ofV cop9 ?_
  unfold mayE
  by_cases h1 : kn < 1
  · rw [if_pos h1]
    repeat' ((conv => whnf); first | (with_reducible refine SeqP.go ?_) | ((with_reducible refine ObD.mk ?_ ?_); (focus (first | rfl | (simp; done)))) | ((with_reducible refine ObN.mk ?_ ?_); (focus (first | rfl | assumption | omega | (simp only [List.length_map, List.length_append, List.length_cons, List.length_nil]; omega) | (simp; done) | (simp; omega)))) | (with_reducible refine ObT.tt ?_) | ((with_reducible refine ObB.yes ?_ ?_); (focus (first | assumption | (with_reducible rfl) | omega))) | ((with_reducible refine (?_ : ObR _ _ _)); (first | (refine ObR.mk _ (by assumption) ?_) | (refine ObR.mk _ (by with_reducible rfl) ?_) | (refine ObR.map (by (first | omega | assumption | (simp only [List.length_map, List.length_append, List.length_cons, List.length_nil, List.length_take, List.length_drop, List.length_set, List.length_replicate]; omega))) (fun x hx => ?_)) | (refine ObR.mk _ rfl ?_))) | ((with_reducible refine ObEq.i ?_); (focus (first | (with_reducible rfl) | omega))))
  rw [if_neg h1]
  by_cases h6 : 6 < kn
  · rw [if_pos h6]
    repeat' ((conv => whnf); first | (with_reducible refine SeqP.go ?_) | ((with_reducible refine ObD.mk ?_ ?_); (focus (first | rfl | (simp; done)))) | ((with_reducible refine ObN.mk ?_ ?_); (focus (first | rfl | assumption | omega | (simp only [List.length_map, List.length_append, List.length_cons, List.length_nil]; omega) | (simp; done) | (simp; omega)))) | (with_reducible refine ObT.tt ?_) | (with_reducible refine ObT.ff ?_) | ((with_reducible refine ObB.yes ?_ ?_); (focus (first | assumption | (with_reducible rfl) | omega))) | ((with_reducible refine ObB.no ?_ ?_); (focus (first | assumption | omega))) | ((with_reducible refine (?_ : ObR _ _ _)); (first | (refine ObR.mk _ (by assumption) ?_) | (refine ObR.mk _ (by with_reducible rfl) ?_) | (refine ObR.map (by (first | omega | assumption | (simp only [List.length_map, List.length_append, List.length_cons, List.length_nil, List.length_take, List.length_drop, List.length_set, List.length_replicate]; omega))) (fun x hx => ?_)) | (refine ObR.mk _ rfl ?_))) | ((with_reducible refine ObEq.i ?_); (focus (first | (with_reducible rfl) | omega))))
  rw [if_neg h6]
  have h33 := h33 (by omega) (by omega)
  cases a <;> cases q
  all_goals repeat' ((conv => whnf); first | (with_reducible refine SeqP.go ?_) | ((with_reducible refine ObD.mk ?_ ?_); (focus (first | rfl | (simp; done)))) | ((with_reducible refine ObN.mk ?_ ?_); (focus (first | rfl | assumption | omega | (simp only [List.length_map, List.length_append, List.length_cons, List.length_nil]; omega) | (simp; done) | (simp; omega)))) | (with_reducible refine ObT.tt ?_) | (with_reducible refine ObT.ff ?_) | ((with_reducible refine ObB.no ?_ ?_); (focus (first | assumption | omega))) | ((with_reducible refine (?_ : ObR _ _ _)); (first | (refine ObR.mk _ (by assumption) ?_) | (refine ObR.mk _ (by with_reducible rfl) ?_) | (refine ObR.map (by (first | omega | assumption | (simp only [List.length_map, List.length_append, List.length_cons, List.length_nil, List.length_take, List.length_drop, List.length_set, List.length_replicate]; omega))) (fun x hx => ?_)) | (refine ObR.mk _ rfl ?_))) | ((with_reducible refine ObC.f 32 ?_); (first | (with_reducible refine ObC.mk _ (h32) ?_) | (refine ObC.mk _ (h32) ?_))) | ((with_reducible refine ObC.f 33 ?_); (first | (with_reducible refine ObC.mk _ (h33) ?_) | (refine ObC.mk _ (h33) ?_))) | ((with_reducible refine ObEq.mk ?_); (focus (first | rfl | assumption))))
theorem mays3 (G : Nat → AV) (kn : Int) (ke va : ByteArray) (mp : Nat) (kk : List Int) (mn : Int) (ls : List Pr) (sz bi : Int) (hm : mp < 4294967296) (hke : ke.size ≤ 9223372036854775807) (hva : va.size ≤ 9223372036854775807) (hkk : kk.length ≤ 9223372036854775807) (hls : ls.length ≤ 9223372036854775807) (hs : ∀ p ∈ ls, p.1.size ≤ 9223372036854775807 ∧ p.2.size ≤ 9223372036854775807) :
    PC Try.prog G 3 [nV kn ke va (mp : Int) kk mn ls sz bi] (Bo true) := by
  have f1 := fewN G kn ke va mp kk mn ls sz bi hke hva hkk hls hs
  have a1 := cutB_size ke
  have a2 := cutB_size va
  have a3 : (few1 kk).length ≤ 40 := by rw [few1_len]; omega
  have a4 := few_len ls
  have a5 : ∀ p ∈ few ls, p.1.size ≤ 40 ∧ p.2.size ≤ 40 := few_sizes
  revert a1 a2 a3 a4 a5 f1
  generalize hke0 : cutB ke 40 = ke'
  generalize hva0 : cutB va 40 = va'
  generalize hkk0 : few1 kk = kk'
  generalize hls0 : few ls = ls'
  intro f1 a1 a2 a3 a4 a5
  clear hke0 hva0 hkk0 hls0
  have f2 := fewS G kn ke' va' mp kk' mn ls' sz bi a1 a2 a3 a4 a5
  obtain ⟨q, hq⟩ := tf (FormP kn ke' va' mp kk' mn ls' sz bi)
  have h8 := may8 G kn ke' va' mp kk' mn ls' sz bi hm a1 a2 a3 a4 a5 q hq
  have h9 := may9 G kn ke' va' mp kk' mn ls' sz bi hm a3 a4 a5 q hq
  have hw := works G
  clear a5 hq hs
  refine pc_ofV cop3 ?_
  generalize mayE _ _ _ = e at *
  repeat' ((conv => whnf); first | (with_reducible refine SeqP.go ?_) | ((with_reducible refine ObD.mk ?_ ?_); (focus (first | rfl | (simp; done)))) | ((with_reducible refine ObN.mk ?_ ?_); (focus (first | rfl | assumption | omega | (simp only [List.length_map, List.length_append, List.length_cons, List.length_nil]; omega) | (simp; done) | (simp; omega)))) | (with_reducible refine ObT.tt ?_) | ((with_reducible refine ObB.yes ?_ ?_); (focus (first | assumption | (with_reducible rfl) | omega))) | ((with_reducible refine (?_ : ObU _ _)); (refine ObU.mk _ (by first | assumption | ((conv => lhs; simp only [List.set_cons_zero, List.set_cons_succ, List.take_succ_cons, List.take_zero, List.drop_succ_cons, List.drop_zero, List.nil_append, List.cons_append, List.append_nil, List.take_nil, List.drop_nil]); try rfl) | rfl) ?_)) | ((with_reducible refine (?_ : ObR _ _ _)); (first | (refine ObR.mk _ (by assumption) ?_) | (refine ObR.mk _ (by with_reducible rfl) ?_) | (refine ObR.map (by (first | omega | assumption | (simp only [List.length_map, List.length_append, List.length_cons, List.length_nil, List.length_take, List.length_drop, List.length_set, List.length_replicate]; omega))) (fun x hx => ?_)) | (refine ObR.mk _ rfl ?_))) | ((with_reducible refine ObC.f 10 ?_); (first | (with_reducible refine ObC.mk _ (hw) ?_) | (refine ObC.mk _ (hw) ?_))) | ((with_reducible refine ObC.f 7 ?_); (first | (with_reducible refine ObC.mk _ (f1) ?_) | (refine ObC.mk _ (f1) ?_))) | ((with_reducible refine ObC.f 7 ?_); (first | (with_reducible refine ObC.mk _ (f2) ?_) | (refine ObC.mk _ (f2) ?_))) | ((with_reducible refine ObC.f 8 ?_); (first | (with_reducible refine ObC.mk _ (h8) ?_) | (refine ObC.mk _ (h8) ?_))) | ((with_reducible refine ObC.f 9 ?_); (first | (with_reducible refine ObC.mk _ (h9) ?_) | (refine ObC.mk _ (h9) ?_))) | ((with_reducible refine ObEq.mk ?_); (focus (first | rfl | assumption))))
theorem NodeMays_calls (as0 : List AV) (s0 : ShC Try.prog 27 as0) : PC Try.prog (fun _ => .unk) 3 [mkE (isAggT Try.prog 27) as0] (Bo true) := by
  have e : isAggT Try.prog 27 = true := by kernel_rfl
  rw [e]
  obtain ⟨kn, ke, va, mp, kk, mn, ls, sz, bi, hm, h0, h1, h2, h3, h4, h5⟩ := node_invB s0
  rw [h0]
  exact mays3 _ _ _ _ _ _ _ _ _ _ hm h1 h2 h3 h4 h5
end Go.Proofs.Ytfhfaelmapjihaa.Sim
