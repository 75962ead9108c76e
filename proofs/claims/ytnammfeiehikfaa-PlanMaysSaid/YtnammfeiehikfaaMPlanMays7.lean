/- Texts of this claim, part 7. -/
import Derived.Test.YtnammfeiehikfaaMPlanMays6
import Derived.Test.YtnammfeiehikfaaProg
set_option linter.unusedVariables false
set_option linter.unusedSimpArgs false
namespace Go.Proofs.Ytnammfeiehikfaa.Sim
open Go.RowKit
set_option maxRecDepth 100000
theorem cnt43 (G : Nat → AV) (m : Nat) (hm : m < 4294967296) : PC Try.prog G 49 [.v (.int .u32 (m : Int))] (I ((upI m 32).length : Nat)) := by
  have h := pop53 G m hm
  have e : (Mk.all m).length = (upI m 32).length := by simp [upI, Mk.all]
  rw [e] at h
  refine pc_ofV cop49 ?_
  repeat' ((conv => whnf); first | (with_reducible refine SeqP.go ?_) | ((with_reducible refine ObC.f 57 ?_); (first | (with_reducible refine ObC.mk _ (h) ?_) | (refine ObC.mk _ (h) ?_))) | ((with_reducible refine ObEq.i ?_); (focus (first | (with_reducible rfl) | omega))))
theorem lenP {α : Type} {l : List α} : (0 : Int) < (l.length : Nat) ↔ ¬ l = [] := by cases l <;> simp
theorem lenZ {α : Type} {l : List α} : ((l.length : Nat) : Int) = 0 ↔ l = [] := by rw [← List.length_eq_zero_iff]; omega
theorem slt_mk {l : List Pr} : Pr7.SLt l ↔ l = Pr7.mk l := ⟨fun h => (Pr7.mk_of h).symm, fun h => by rw [h]; exact Pr7.mk_lt l⟩
set_option maxHeartbeats 4000000 in
theorem hasForm31 (G : Nat → AV) (kn : Int) (ke va : ByteArray) (mp : Nat) (kk : List Int) (mn : Int) (ls : List Pr) (sz bi : Int) (k1 : 1 ≤ kn) (k6 : kn ≤ 6) (hm : mp < 4294967296) (hke : ke.size ≤ 40) (hva : va.size ≤ 40) (hk : kk.length ≤ 40) (hl : ls.length ≤ 40) (hs : ∀ p ∈ ls, p.1.size ≤ 40 ∧ p.2.size ≤ 40) (r : Bool) (hr : r = true ↔ FormP kn ke va mp kk mn ls sz bi) :
    PC Try.prog G 43 [nV kn ke va (mp : Int) kk mn ls sz bi] (Bo r) := by
  have hkn : kn = 1 ∨ kn = 6 ∨ kn = 2 ∨ kn = 3 ∨ kn = 4 ∨ kn = 5 := by omega
  have z0 : ByteArray.size (ByteArray.mk #[]) ≤ 9223372036854775807 := by decide
  have l0 : ([] : List Int).length ≤ 9223372036854775807 := by simp
  have l1 : ([] : List Pr).length ≤ 9223372036854775807 := by simp
  rcases hkn with rfl | rfl | rfl | rfl | rfl | rfl
  · obtain ⟨q, hq⟩ : ∃ q, q = decide ((1 : Int) = 1 ∧ ke = ke ∧ va = va ∧ (mp : Int) = 0 ∧ kk = [] ∧ mn = 0 ∧ ls = [] ∧ sz = 1 ∧ bi = bi) := ⟨_, rfl⟩
    have h22 := same22 G 1 1 ke ke va va mp 0 kk [] mn 0 ls [] sz 1 bi bi (by omega) (by omega) (by omega) (by omega) (by omega) l0 (by omega) l1 q hq
    have hr' : r = true ↔ ¬ bi < 0 ∧ q = true := by rw [hr, hq]; simp [FormP, BareP, lenP, lenZ]; intros; constructor <;> (intros; simp_all)
    clear hr hq hs
    refine pc_ofV cop43 ?_
    repeat' ((conv => whnf); first | (with_reducible refine SeqP.go ?_) | ((with_reducible refine ObD.mk ?_ ?_); (focus (first | rfl | (simp; done)))) | ((with_reducible refine ObN.mk ?_ ?_); (focus (first | rfl | assumption | omega | (simp only [List.length_map, List.length_append, List.length_cons, List.length_nil]; omega) | (simp; done) | (simp; omega)))) | (with_reducible refine ObT.tt ?_) | (with_reducible refine ObT.ff ?_) | ((with_reducible refine ObB.yes ?_ ?_); (focus (first | assumption | (with_reducible rfl) | omega))) | (with_reducible refine ObB.mk (fun h => ?_) (fun h => ?_)) | ((with_reducible refine (?_ : ObU _ _)); (refine ObU.mk _ (by first | assumption | ((conv => lhs; simp only [List.set_cons_zero, List.set_cons_succ, List.take_succ_cons, List.take_zero, List.drop_succ_cons, List.drop_zero, List.nil_append, List.cons_append, List.append_nil, List.take_nil, List.drop_nil]); try rfl) | rfl) ?_)) | ((with_reducible refine (?_ : ObR _ _ _)); (first | (refine ObR.mk _ (by assumption) ?_) | (refine ObR.mk _ (by with_reducible rfl) ?_) | (refine ObR.map (by (first | omega | assumption | (simp only [List.length_map, List.length_append, List.length_cons, List.length_nil, List.length_take, List.length_drop, List.length_set, List.length_replicate]; omega))) (fun x hx => ?_)) | (refine ObR.mk _ rfl ?_))) | ((with_reducible refine ObC.f 34 ?_); (first | (with_reducible refine ObC.mk _ ((leaf14 G _ _)) ?_) | (refine ObC.mk _ ((leaf14 G _ _)) ?_))) | ((with_reducible refine ObC.f 53 ?_); (first | (with_reducible refine ObC.mk _ (h22) ?_) | (refine ObC.mk _ (h22) ?_))) | ((with_reducible refine ObEq.mk ?_); (focus (first | rfl | assumption | exact (by cases r <;> cases q <;> first | (simp_all; done) | (simp_all; omega))))))
  · obtain ⟨q, hq⟩ : ∃ q, q = decide ((6 : Int) = 6 ∧ ke = ke ∧ va = va ∧ (mp : Int) = 0 ∧ kk = [] ∧ mn = 0 ∧ ls = [] ∧ sz = 1 ∧ bi = bi) := ⟨_, rfl⟩
    have h22 := same22 G 6 6 ke ke va va mp 0 kk [] mn 0 ls [] sz 1 bi bi (by omega) (by omega) (by omega) (by omega) (by omega) l0 (by omega) l1 q hq
    have hr' : r = true ↔ ¬ bi < 0 ∧ q = true := by rw [hr, hq]; simp [FormP, BareP, lenP, lenZ]; intros; constructor <;> (intros; simp_all)
    clear hr hq hs
    refine pc_ofV cop43 ?_
    repeat' ((conv => whnf); first | (with_reducible refine SeqP.go ?_) | ((with_reducible refine ObD.mk ?_ ?_); (focus (first | rfl | (simp; done)))) | ((with_reducible refine ObN.mk ?_ ?_); (focus (first | rfl | assumption | omega | (simp only [List.length_map, List.length_append, List.length_cons, List.length_nil]; omega) | (simp; done) | (simp; omega)))) | (with_reducible refine ObT.tt ?_) | (with_reducible refine ObT.ff ?_) | ((with_reducible refine ObB.yes ?_ ?_); (focus (first | assumption | (with_reducible rfl) | omega))) | ((with_reducible refine ObB.no ?_ ?_); (focus (first | assumption | omega))) | (with_reducible refine ObB.mk (fun h => ?_) (fun h => ?_)) | ((with_reducible refine (?_ : ObU _ _)); (refine ObU.mk _ (by first | assumption | ((conv => lhs; simp only [List.set_cons_zero, List.set_cons_succ, List.take_succ_cons, List.take_zero, List.drop_succ_cons, List.drop_zero, List.nil_append, List.cons_append, List.append_nil, List.take_nil, List.drop_nil]); try rfl) | rfl) ?_)) | ((with_reducible refine (?_ : ObR _ _ _)); (first | (refine ObR.mk _ (by assumption) ?_) | (refine ObR.mk _ (by with_reducible rfl) ?_) | (refine ObR.map (by (first | omega | assumption | (simp only [List.length_map, List.length_append, List.length_cons, List.length_nil, List.length_take, List.length_drop, List.length_set, List.length_replicate]; omega))) (fun x hx => ?_)) | (refine ObR.mk _ rfl ?_))) | ((with_reducible refine ObC.f 47 ?_); (first | (with_reducible refine ObC.mk _ ((tomb15 G _ _)) ?_) | (refine ObC.mk _ ((tomb15 G _ _)) ?_))) | ((with_reducible refine ObC.f 53 ?_); (first | (with_reducible refine ObC.mk _ (h22) ?_) | (refine ObC.mk _ (h22) ?_))) | ((with_reducible refine ObEq.mk ?_); (focus (first | rfl | assumption | exact (by cases r <;> cases q <;> first | (simp_all; done) | (simp_all; omega))))))
  · obtain ⟨q, hq⟩ : ∃ q, q = decide ((2 : Int) = 2 ∧ ke = ByteArray.mk #[] ∧ va = ByteArray.mk #[] ∧ (mp : Int) = mp ∧ kk = kk ∧ mn = 0 ∧ ls = [] ∧ sz = sz ∧ bi = bi) := ⟨_, rfl⟩
    have h22 := same22 G 2 2 ke (ByteArray.mk #[]) va (ByteArray.mk #[]) mp mp kk kk mn 0 ls [] sz sz bi bi (by omega) z0 (by omega) z0 (by omega) (by omega) (by omega) l1 q hq
    have h43 := cnt43 G mp hm
    have h44 := has54 G kk (by omega) 0
    obtain ⟨q0, hq0⟩ : ∃ q0, q0 = decide ((0 : Int) ∈ kk) := ⟨_, rfl⟩
    rw [← hq0] at h44
    have hr' : r = true ↔ ¬ bi < 0 ∧ q0 = false ∧ ((kk.length : Nat) : Int) = ((upI mp 32).length : Nat) ∧ 0 ≤ sz ∧ q = true := by rw [hr, hq, hq0]; simp [FormP, BareP, lenP, lenZ]; intros; constructor <;> (intros; simp_all)
    have hu := upI_len mp 32
    clear hr hq hs hq0
    generalize (upI mp 32).length = c at *
    have hr2 : ((kk.length : Nat) : Int) = (c : Nat) → ¬ bi < 0 → 0 ≤ sz → q0 = false → r = q := fun a b d e => by cases r <;> cases q <;> simp_all
    have hr3 : ¬ (((kk.length : Nat) : Int) = (c : Nat) ∧ ¬ bi < 0 ∧ 0 ≤ sz ∧ q0 = false) → r = false := fun a => by cases r with | false => rfl | true => exact absurd ⟨(hr'.1 rfl).2.2.1, (hr'.1 rfl).1, (hr'.1 rfl).2.2.2.1, (hr'.1 rfl).2.1⟩ a
    clear hr'
    refine pc_ofV cop43 ?_
    repeat' ((conv => whnf); first | (with_reducible refine SeqP.go ?_) | ((with_reducible refine ObD.mk ?_ ?_); (focus (first | rfl | (simp; done)))) | ((with_reducible refine ObN.mk ?_ ?_); (focus (first | rfl | assumption | omega | (simp only [List.length_map, List.length_append, List.length_cons, List.length_nil]; omega) | (simp; done) | (simp; omega)))) | (with_reducible refine ObT.tt ?_) | (with_reducible refine ObT.ff ?_) | (with_reducible refine ObT.mk (fun h => ?_) (fun h => ?_)) | ((with_reducible refine ObB.yes ?_ ?_); (focus (first | assumption | (with_reducible rfl) | omega))) | ((with_reducible refine ObB.no ?_ ?_); (focus (first | assumption | omega))) | (with_reducible refine ObB.mk (fun h => ?_) (fun h => ?_)) | ((with_reducible refine (?_ : ObL _ _)); (refine ObL.mk _ (by first | assumption | exact (List.length_map _).trans (by assumption) | exact List.length_map _ | rfl) ?_)) | ((with_reducible refine (?_ : ObU _ _)); (refine ObU.mk _ (by first | assumption | ((conv => lhs; simp only [List.set_cons_zero, List.set_cons_succ, List.take_succ_cons, List.take_zero, List.drop_succ_cons, List.drop_zero, List.nil_append, List.cons_append, List.append_nil, List.take_nil, List.drop_nil]); try rfl) | rfl) ?_)) | ((with_reducible refine (?_ : ObR _ _ _)); (first | (refine ObR.mk _ (by assumption) ?_) | (refine ObR.mk _ (by with_reducible rfl) ?_) | (refine ObR.map (by (first | omega | assumption | (simp only [List.length_map, List.length_append, List.length_cons, List.length_nil, List.length_take, List.length_drop, List.length_set, List.length_replicate]; omega))) (fun x hx => ?_)) | (refine ObR.mk _ rfl ?_))) | ((with_reducible refine ObC.f 48 ?_); (first | (with_reducible refine ObC.mk _ ((branch20 G _ _ _ hk)) ?_) | (refine ObC.mk _ ((branch20 G _ _ _ hk)) ?_))) | ((with_reducible refine ObC.f 49 ?_); (first | (with_reducible refine ObC.mk _ (h43) ?_) | (refine ObC.mk _ (h43) ?_))) | ((with_reducible refine ObC.f 50 ?_); (first | (with_reducible refine ObC.mk _ (h44) ?_) | (refine ObC.mk _ (h44) ?_))) | ((with_reducible refine ObC.f 53 ?_); (first | (with_reducible refine ObC.mk _ (h22) ?_) | (refine ObC.mk _ (h22) ?_))) | ((with_reducible refine ObEq.mk ?_); (focus (first | rfl | assumption | exact (by first | (rw [hr2 (by assumption) (by omega) (by omega) (by assumption)]; done) | (have hf : r = false := hr3 (by rintro ⟨h1, h2, h3, h4⟩; first | omega | simp_all); rw [hf]))))))
  · obtain ⟨q, hq⟩ : ∃ q, q = decide ((3 : Int) = 3 ∧ ke = ByteArray.mk #[] ∧ va = ByteArray.mk #[] ∧ (mp : Int) = 0 ∧ kk = [] ∧ mn = 0 ∧ ls = Pr7.mk ls ∧ sz = ((Pr7.mk ls).length : Nat) ∧ bi = bi) := ⟨_, rfl⟩
    obtain ⟨m1, h34, h19⟩ := hMake G ls hl hs
    have h22 := same22 G 3 3 ke (ByteArray.mk #[]) va (ByteArray.mk #[]) mp 0 kk [] mn 0 ls (Pr7.mk ls) sz ((Pr7.mk ls).length : Nat) bi bi (by omega) z0 (by omega) z0 (by omega) l0 (by omega) (by omega) q hq
    have h18 := bucket18 G ls (Pr7.mk ls) h34
    have hr' : r = true ↔ ¬ bi < 0 ∧ (2 : Int) ≤ (ls.length : Nat) ∧ q = true := by
      rw [hr, hq, decide_eq_true_iff]
      unfold FormP BareP
      rw [lenP, slt_mk]
      generalize Pr7.mk ls = M
      constructor
      · rintro ⟨a, h⟩
        rcases h with ⟨h, _⟩ | ⟨h, _⟩ | ⟨_, b, c, d, e, f, g, _⟩ | ⟨h, _⟩ | ⟨h, _⟩
        · omega
        · omega
        · exact ⟨a, b, rfl, (e rfl).1, (e rfl).2, (f rfl).1, Classical.not_not.1 (f rfl).2, g rfl, c, by rw [d, ← c], rfl⟩
        · omega
        · omega
      · rintro ⟨a, b, _, c, d, e, f, g, i, j, _⟩
        exact ⟨a, .inr (.inr (.inl ⟨rfl, b, i, by rw [j, ← i], fun _ => ⟨c, d⟩, fun _ => ⟨e, fun h => h f⟩, fun _ => g, fun h => by cases h⟩))⟩
    clear hr hq hs h34 h19
    refine pc_ofV cop43 ?_
    repeat' ((conv => whnf); first | (with_reducible refine SeqP.go ?_) | ((with_reducible refine ObD.mk ?_ ?_); (focus (first | rfl | (simp; done)))) | ((with_reducible refine ObN.mk ?_ ?_); (focus (first | rfl | assumption | omega | (simp only [List.length_map, List.length_append, List.length_cons, List.length_nil]; omega) | (simp; done) | (simp; omega)))) | (with_reducible refine ObT.tt ?_) | (with_reducible refine ObT.ff ?_) | ((with_reducible refine ObB.yes ?_ ?_); (focus (first | assumption | (with_reducible rfl) | omega))) | ((with_reducible refine ObB.no ?_ ?_); (focus (first | assumption | omega))) | (with_reducible refine ObB.mk (fun h => ?_) (fun h => ?_)) | ((with_reducible refine (?_ : ObL _ _)); (refine ObL.mk _ (by first | assumption | exact (List.length_map _).trans (by assumption) | exact List.length_map _ | rfl) ?_)) | ((with_reducible refine (?_ : ObU _ _)); (refine ObU.mk _ (by first | assumption | ((conv => lhs; simp only [List.set_cons_zero, List.set_cons_succ, List.take_succ_cons, List.take_zero, List.drop_succ_cons, List.drop_zero, List.nil_append, List.cons_append, List.append_nil, List.take_nil, List.drop_nil]); try rfl) | rfl) ?_)) | ((with_reducible refine (?_ : ObR _ _ _)); (first | (refine ObR.mk _ (by assumption) ?_) | (refine ObR.mk _ (by with_reducible rfl) ?_) | (refine ObR.map (by (first | omega | assumption | (simp only [List.length_map, List.length_append, List.length_cons, List.length_nil, List.length_take, List.length_drop, List.length_set, List.length_replicate]; omega))) (fun x hx => ?_)) | (refine ObR.mk _ rfl ?_))) | ((with_reducible refine ObC.f 51 ?_); (first | (with_reducible refine ObC.mk _ (h18) ?_) | (refine ObC.mk _ (h18) ?_))) | ((with_reducible refine ObC.f 53 ?_); (first | (with_reducible refine ObC.mk _ (h22) ?_) | (refine ObC.mk _ (h22) ?_))) | ((with_reducible refine ObEq.mk ?_); (focus (first | rfl | assumption | exact (by cases r <;> cases q <;> first | (simp_all; done) | (simp_all; omega))))))
  · obtain ⟨q, hq⟩ : ∃ q, q = decide ((4 : Int) = 4 ∧ ke = ke ∧ va = va ∧ (mp : Int) = 0 ∧ kk = kk ∧ mn = 0 ∧ ls = [] ∧ sz = sz ∧ bi = bi) := ⟨_, rfl⟩
    have h22 := same22 G 4 4 ke ke va va mp 0 kk kk mn 0 ls [] sz sz bi bi (by omega) (by omega) (by omega) (by omega) (by omega) (by omega) (by omega) l1 q hq
    have hr' : r = true ↔ ¬ bi < 0 ∧ ((kk.length : Nat) : Int) = 2 ∧ 1 ≤ sz ∧ q = true := by rw [hr, hq]; simp [FormP, BareP, lenP, lenZ]; intros; constructor <;> (intros; simp_all)
    clear hr hq hs
    refine pc_ofV cop43 ?_
    repeat' ((conv => whnf); first | (with_reducible refine SeqP.go ?_) | ((with_reducible refine ObD.mk ?_ ?_); (focus (first | rfl | (simp; done)))) | ((with_reducible refine ObN.mk ?_ ?_); (focus (first | rfl | assumption | omega | (simp only [List.length_map, List.length_append, List.length_cons, List.length_nil]; omega) | (simp; done) | (simp; omega)))) | (with_reducible refine ObT.tt ?_) | (with_reducible refine ObT.ff ?_) | ((with_reducible refine ObB.yes ?_ ?_); (focus (first | assumption | (with_reducible rfl) | omega))) | ((with_reducible refine ObB.no ?_ ?_); (focus (first | assumption | omega))) | (with_reducible refine ObB.mk (fun h => ?_) (fun h => ?_)) | ((with_reducible refine (?_ : ObL _ _)); (refine ObL.mk _ (by first | assumption | exact (List.length_map _).trans (by assumption) | exact List.length_map _ | rfl) ?_)) | ((with_reducible refine (?_ : ObU _ _)); (refine ObU.mk _ (by first | assumption | ((conv => lhs; simp only [List.set_cons_zero, List.set_cons_succ, List.take_succ_cons, List.take_zero, List.drop_succ_cons, List.drop_zero, List.nil_append, List.cons_append, List.append_nil, List.take_nil, List.drop_nil]); try rfl) | rfl) ?_)) | ((with_reducible refine (?_ : ObR _ _ _)); (first | (refine ObR.mk _ (by assumption) ?_) | (refine ObR.mk _ (by with_reducible rfl) ?_) | (refine ObR.map (by (first | omega | assumption | (simp only [List.length_map, List.length_append, List.length_cons, List.length_nil, List.length_take, List.length_drop, List.length_set, List.length_replicate]; omega))) (fun x hx => ?_)) | (refine ObR.mk _ rfl ?_))) | ((with_reducible refine ObC.f 53 ?_); (first | (with_reducible refine ObC.mk _ (h22) ?_) | (refine ObC.mk _ (h22) ?_))) | ((with_reducible refine ObEq.mk ?_); (focus (first | rfl | assumption | exact (by cases r <;> cases q <;> first | (simp_all; done) | (simp_all; omega))))))
  · obtain ⟨q, hq⟩ : ∃ q, q = decide ((5 : Int) = 5 ∧ ke = ByteArray.mk #[] ∧ va = ByteArray.mk #[] ∧ (mp : Int) = 0 ∧ kk = [] ∧ mn = mn ∧ ls = [] ∧ sz = 0 ∧ bi = bi) := ⟨_, rfl⟩
    have h22 := same22 G 5 5 ke (ByteArray.mk #[]) va (ByteArray.mk #[]) mp 0 kk [] mn mn ls [] sz 0 bi bi (by omega) z0 (by omega) z0 (by omega) l0 (by omega) l1 q hq
    have hr' : r = true ↔ ¬ bi < 0 ∧ ¬ mn = 0 ∧ q = true := by rw [hr, hq]; simp [FormP, BareP, lenP, lenZ]; intros; constructor <;> (intros; simp_all)
    clear hr hq hs
    refine pc_ofV cop43 ?_
    repeat' ((conv => whnf); first | (with_reducible refine SeqP.go ?_) | ((with_reducible refine ObD.mk ?_ ?_); (focus (first | rfl | (simp; done)))) | ((with_reducible refine ObN.mk ?_ ?_); (focus (first | rfl | assumption | omega | (simp only [List.length_map, List.length_append, List.length_cons, List.length_nil]; omega) | (simp; done) | (simp; omega)))) | (with_reducible refine ObT.tt ?_) | (with_reducible refine ObT.ff ?_) | ((with_reducible refine ObB.yes ?_ ?_); (focus (first | assumption | (with_reducible rfl) | omega))) | ((with_reducible refine ObB.no ?_ ?_); (focus (first | assumption | omega))) | (with_reducible refine ObB.mk (fun h => ?_) (fun h => ?_)) | ((with_reducible refine (?_ : ObU _ _)); (refine ObU.mk _ (by first | assumption | ((conv => lhs; simp only [List.set_cons_zero, List.set_cons_succ, List.take_succ_cons, List.take_zero, List.drop_succ_cons, List.drop_zero, List.nil_append, List.cons_append, List.append_nil, List.take_nil, List.drop_nil]); try rfl) | rfl) ?_)) | ((with_reducible refine (?_ : ObR _ _ _)); (first | (refine ObR.mk _ (by assumption) ?_) | (refine ObR.mk _ (by with_reducible rfl) ?_) | (refine ObR.map (by (first | omega | assumption | (simp only [List.length_map, List.length_append, List.length_cons, List.length_nil, List.length_take, List.length_drop, List.length_set, List.length_replicate]; omega))) (fun x hx => ?_)) | (refine ObR.mk _ rfl ?_))) | ((with_reducible refine ObC.f 52 ?_); (first | (with_reducible refine ObC.mk _ ((inner17 G _)) ?_) | (refine ObC.mk _ ((inner17 G _)) ?_))) | ((with_reducible refine ObC.f 53 ?_); (first | (with_reducible refine ObC.mk _ (h22) ?_) | (refine ObC.mk _ (h22) ?_))) | ((with_reducible refine ObEq.mk ?_); (focus (first | rfl | assumption | exact (by cases r <;> cases q <;> first | (simp_all; done) | (simp_all; omega))))))
def mayE (kn : Int) (lo q : Bool) : Int := if kn < 1 then 11 else if 6 < kn then 11 else if lo = true then 6 else if q = true then 0 else 4
theorem may8 (G : Nat → AV) (kn : Int) (ke va : ByteArray) (mp : Nat) (kk : List Int) (mn : Int) (ls : List Pr) (sz bi : Int) (hm : mp < 4294967296) (hke : ke.size ≤ 40) (hva : va.size ≤ 40) (hk : kk.length ≤ 40) (hl : ls.length ≤ 40) (hs : ∀ p ∈ ls, p.1.size ≤ 40 ∧ p.2.size ≤ 40) (q : Bool) (hq : q = true ↔ FormP kn ke va mp kk mn ls sz bi) :
    PC Try.prog G 29 [nV kn ke va (mp : Int) kk mn ls sz bi] (I (mayE kn (lg (ke, va) || ls.any lg) q)) := by
  have h29 := isl29 G ke va
  have h30 := fun H => any30 G ls (by omega) H
  have h31 := fun k1 k6 => hasForm31 G kn ke va mp kk mn ls sz bi k1 k6 hm hke hva hk hl hs q hq
  clear hq hs
  generalize lg (ke, va) = a at *
  generalize ls.any lg = b at *
  refine pc_ofV cop29 ?_
  unfold mayE
  by_cases h1 : kn < 1
  · rw [if_pos h1]
    repeat' ((conv => whnf); first | (with_reducible refine SeqP.go ?_) | ((with_reducible refine ObD.mk ?_ ?_); (focus (first | rfl | (simp; done)))) | ((with_reducible refine ObN.mk ?_ ?_); (focus (first | rfl | assumption | omega | (simp only [List.length_map, List.length_append, List.length_cons, List.length_nil]; omega) | (simp; done) | (simp; omega)))) | (with_reducible refine ObT.tt ?_) | ((with_reducible refine ObB.yes ?_ ?_); (focus (first | assumption | (with_reducible rfl) | omega))) | ((with_reducible refine (?_ : ObR _ _ _)); (first | (refine ObR.mk _ (by assumption) ?_) | (refine ObR.mk _ (by with_reducible rfl) ?_) | (refine ObR.map (by (first | omega | assumption | (simp only [List.length_map, List.length_append, List.length_cons, List.length_nil, List.length_take, List.length_drop, List.length_set, List.length_replicate]; omega))) (fun x hx => ?_)) | (refine ObR.mk _ rfl ?_))) | ((with_reducible refine ObEq.i ?_); (focus (first | (with_reducible rfl) | omega))))
  rw [if_neg h1]
  by_cases h6 : 6 < kn
  · rw [if_pos h6]
    repeat' ((conv => whnf); first | (with_reducible refine SeqP.go ?_) | ((with_reducible refine ObD.mk ?_ ?_); (focus (first | rfl | (simp; done)))) | ((with_reducible refine ObN.mk ?_ ?_); (focus (first | rfl | assumption | omega | (simp only [List.length_map, List.length_append, List.length_cons, List.length_nil]; omega) | (simp; done) | (simp; omega)))) | (with_reducible refine ObT.tt ?_) | (with_reducible refine ObT.ff ?_) | ((with_reducible refine ObB.yes ?_ ?_); (focus (first | assumption | (with_reducible rfl) | omega))) | ((with_reducible refine ObB.no ?_ ?_); (focus (first | assumption | omega))) | ((with_reducible refine (?_ : ObR _ _ _)); (first | (refine ObR.mk _ (by assumption) ?_) | (refine ObR.mk _ (by with_reducible rfl) ?_) | (refine ObR.map (by (first | omega | assumption | (simp only [List.length_map, List.length_append, List.length_cons, List.length_nil, List.length_take, List.length_drop, List.length_set, List.length_replicate]; omega))) (fun x hx => ?_)) | (refine ObR.mk _ rfl ?_))) | ((with_reducible refine ObEq.i ?_); (focus (first | (with_reducible rfl) | omega))))
  rw [if_neg h6]
  have h31 := h31 (by omega) (by omega)
  cases a <;> cases b <;> cases q
  all_goals repeat' ((conv => whnf); first | (with_reducible refine SeqP.go ?_) | ((with_reducible refine ObD.mk ?_ ?_); (focus (first | rfl | (simp; done)))) | ((with_reducible refine ObN.mk ?_ ?_); (focus (first | rfl | assumption | omega | (simp only [List.length_map, List.length_append, List.length_cons, List.length_nil]; omega) | (simp; done) | (simp; omega)))) | (with_reducible refine ObT.tt ?_) | (with_reducible refine ObT.ff ?_) | ((with_reducible refine ObB.no ?_ ?_); (focus (first | assumption | omega))) | ((with_reducible refine (?_ : ObR _ _ _)); (first | (refine ObR.mk _ (by assumption) ?_) | (refine ObR.mk _ (by with_reducible rfl) ?_) | (refine ObR.map (by (first | omega | assumption | (simp only [List.length_map, List.length_append, List.length_cons, List.length_nil, List.length_take, List.length_drop, List.length_set, List.length_replicate]; omega))) (fun x hx => ?_)) | (refine ObR.mk _ rfl ?_))) | ((with_reducible refine ObC.f 41 ?_); (first | (with_reducible refine ObC.mk _ (h29) ?_) | (refine ObC.mk _ (h29) ?_))) | ((with_reducible refine ObH.f 42 ?_); (first | (with_reducible refine ObH.mk _ _ ((h30 _)) ?_) | (refine ObH.mk _ _ ((h30 _)) ?_))) | ((with_reducible refine ObC.f 43 ?_); (first | (with_reducible refine ObC.mk _ (h31) ?_) | (refine ObC.mk _ (h31) ?_))) | ((with_reducible refine ObEq.mk ?_); (focus (first | rfl | assumption))))
theorem may9 (G : Nat → AV) (kn : Int) (ke va : ByteArray) (mp : Nat) (kk : List Int) (mn : Int) (ls : List Pr) (sz bi : Int) (hm : mp < 4294967296) (hk : kk.length ≤ 40) (hl : ls.length ≤ 40) (hs : ∀ p ∈ ls, p.1.size ≤ 40 ∧ p.2.size ≤ 40) (q : Bool) (hq : q = true ↔ FormP kn ke va mp kk mn ls sz bi) :
    PC Try.prog G 33 [nV kn ke va (mp : Int) kk mn ls sz bi] (I (mayE kn (lg (ke, va) || ls.any lg) q)) := by
  have h32 := long32 G kn ke va mp kk mn ls sz bi (by omega)
  have h33 := fun k1 k6 => form33 G kn ke va mp kk mn ls sz bi k1 k6 hm hk hl hs q hq
  clear hq hs
  generalize (lg (ke, va) || ls.any lg) = a at *
  refine pc_ofV cop33 ?_
  unfold mayE
  by_cases h1 : kn < 1
  · rw [if_pos h1]
    repeat' ((conv => whnf); first | (with_reducible refine SeqP.go ?_) | ((with_reducible refine ObD.mk ?_ ?_); (focus (first | rfl | (simp; done)))) | ((with_reducible refine ObN.mk ?_ ?_); (focus (first | rfl | assumption | omega | (simp only [List.length_map, List.length_append, List.length_cons, List.length_nil]; omega) | (simp; done) | (simp; omega)))) | (with_reducible refine ObT.tt ?_) | ((with_reducible refine ObB.yes ?_ ?_); (focus (first | assumption | (with_reducible rfl) | omega))) | ((with_reducible refine (?_ : ObR _ _ _)); (first | (refine ObR.mk _ (by assumption) ?_) | (refine ObR.mk _ (by with_reducible rfl) ?_) | (refine ObR.map (by (first | omega | assumption | (simp only [List.length_map, List.length_append, List.length_cons, List.length_nil, List.length_take, List.length_drop, List.length_set, List.length_replicate]; omega))) (fun x hx => ?_)) | (refine ObR.mk _ rfl ?_))) | ((with_reducible refine ObEq.i ?_); (focus (first | (with_reducible rfl) | omega))))
  rw [if_neg h1]
  by_cases h6 : 6 < kn
  · rw [if_pos h6]
    repeat' ((conv => whnf); first | (with_reducible refine SeqP.go ?_) | ((with_reducible refine ObD.mk ?_ ?_); (focus (first | rfl | (simp; done)))) | ((with_reducible refine ObN.mk ?_ ?_); (focus (first | rfl | assumption | omega | (simp only [List.length_map, List.length_append, List.length_cons, List.length_nil]; omega) | (simp; done) | (simp; omega)))) | (with_reducible refine ObT.tt ?_) | (with_reducible refine ObT.ff ?_) | ((with_reducible refine ObB.yes ?_ ?_); (focus (first | assumption | (with_reducible rfl) | omega))) | ((with_reducible refine ObB.no ?_ ?_); (focus (first | assumption | omega))) | ((with_reducible refine (?_ : ObR _ _ _)); (first | (refine ObR.mk _ (by assumption) ?_) | (refine ObR.mk _ (by with_reducible rfl) ?_) | (refine ObR.map (by (first | omega | assumption | (simp only [List.length_map, List.length_append, List.length_cons, List.length_nil, List.length_take, List.length_drop, List.length_set, List.length_replicate]; omega))) (fun x hx => ?_)) | (refine ObR.mk _ rfl ?_))) | ((with_reducible refine ObEq.i ?_); (focus (first | (with_reducible rfl) | omega))))
  rw [if_neg h6]
  have h33 := h33 (by omega) (by omega)
  cases a <;> cases q
  all_goals repeat' ((conv => whnf); first | (with_reducible refine SeqP.go ?_) | ((with_reducible refine ObD.mk ?_ ?_); (focus (first | rfl | (simp; done)))) | ((with_reducible refine ObN.mk ?_ ?_); (focus (first | rfl | assumption | omega | (simp only [List.length_map, List.length_append, List.length_cons, List.length_nil]; omega) | (simp; done) | (simp; omega)))) | (with_reducible refine ObT.tt ?_) | (with_reducible refine ObT.ff ?_) | ((with_reducible refine ObB.no ?_ ?_); (focus (first | assumption | omega))) | ((with_reducible refine (?_ : ObR _ _ _)); (first | (refine ObR.mk _ (by assumption) ?_) | (refine ObR.mk _ (by with_reducible rfl) ?_) | (refine ObR.map (by (first | omega | assumption | (simp only [List.length_map, List.length_append, List.length_cons, List.length_nil, List.length_take, List.length_drop, List.length_set, List.length_replicate]; omega))) (fun x hx => ?_)) | (refine ObR.mk _ rfl ?_))) | ((with_reducible refine ObC.f 44 ?_); (first | (with_reducible refine ObC.mk _ (h32) ?_) | (refine ObC.mk _ (h32) ?_))) | ((with_reducible refine ObC.f 45 ?_); (first | (with_reducible refine ObC.mk _ (h33) ?_) | (refine ObC.mk _ (h33) ?_))) | ((with_reducible refine ObEq.mk ?_); (focus (first | rfl | assumption))))
end Go.Proofs.Ytnammfeiehikfaa.Sim
namespace Go.Proofs.Ytnammfeiehikfaa.Sim
set_option maxRecDepth 100000
theorem dop30 : copF Try.prog [27,28,39,42,46,66,67,70,71,72,73,74] 30 = some E30 := by kernel_rfl
end Go.Proofs.Ytnammfeiehikfaa.Sim
namespace Go.Proofs.Ytnammfeiehikfaa.Sim
open Go.RowKit
set_option maxRecDepth 100000
structure Nd where
  kn : Int
  ke : ByteArray
  va : ByteArray
  mp : Nat
  kk : List Int
  mn : Int
  ls : List Pr
  sz : Int
  bi : Int
abbrev nA (x : Nd) : AV := nV x.kn x.ke x.va (x.mp : Int) x.kk x.mn x.ls x.sz x.bi
structure Nd.Ok (x : Nd) : Prop where
  mp : x.mp < 4294967296
  ke : x.ke.size ≤ 40
  va : x.va.size ≤ 40
  kk : x.kk.length ≤ 40
  ls : x.ls.length ≤ 40
  sz : ∀ p ∈ x.ls, p.1.size ≤ 40 ∧ p.2.size ≤ 40
  mn : i64 x.mn
  ks : ∀ r ∈ x.kk, i64 r
theorem nA_at {l : List Nd} {k : Nat} (h : k < l.length) : (l.map nA)[k]? = some (.agg [I l[k].kn, S l[k].ke, S l[k].va, .v (.int .u32 (l[k].mp : Int)), .sl 1 (l[k].kk.map iA), I l[k].mn, .sl 2 (l[k].ls.map pA), I l[k].sz, I l[k].bi]) := by simp [h]
noncomputable def mayV (x : Nd) : Int := mayE x.kn (lg (x.ke, x.va) || x.ls.any lg) (@decide (FormP x.kn x.ke x.va x.mp x.kk x.mn x.ls x.sz x.bi) (Classical.propDecidable _))
def rfN (x : Nd) : List Int := (x.kk ++ [x.mn]).filter fun r => decide (r ≠ 0)
section
variable (G : Nat → AV)
theorem may29 (x : Nd) (h : x.Ok) : PC Try.prog G 29 [nA x] (I (mayV x)) := may8 G x.kn x.ke x.va x.mp x.kk x.mn x.ls x.sz x.bi h.mp h.ke h.va h.kk h.ls h.sz _ (by simp)
theorem may33 (x : Nd) (h : x.Ok) : PC Try.prog G 33 [nA x] (I (mayV x)) := may9 G x.kn x.ke x.va x.mp x.kk x.mn x.ls x.sz x.bi h.mp h.kk h.ls h.sz _ (by simp)
def rS (m : Nat) (a : List Int) : AV := match a with | [] => .nl 1 | x :: t => .ol m 0 (t.length + 1)
def rH (a : List Int) : Hp := match a with | [] => [] | x :: t => [kR 0 (x :: t)]
theorem flt_yes {l : List Int} {i : Nat} (h : i < l.length) (h0 : l[i] ≠ 0) : (l.take (i + 1)).filter (fun r => decide (r ≠ 0)) = (l.take i).filter (fun r => decide (r ≠ 0)) ++ [l[i]] := by
  rw [List.take_succ_eq_append_getElem h, List.filter_append]; simp [h0]
theorem flt_no {l : List Int} {i : Nat} (h : i < l.length) (h0 : l[i] = 0) : (l.take (i + 1)).filter (fun r => decide (r ≠ 0)) = (l.take i).filter (fun r => decide (r ≠ 0)) := by
  rw [List.take_succ_eq_append_getElem h, List.filter_append]; simp [h0]
set_option maxHeartbeats 2000000 in
theorem refs30 (x : Nd) (h : x.Ok) : PC Try.prog G 30 [nA x] (.sl 1 ((rfN x).map iA)) := by
  obtain ⟨kn, ke, va, mp, kk, mn, ls, sz, bi⟩ := x
  have hkl := h.kk
  clear h
  dsimp only [rfN] at hkl ⊢
  have hr0 := nr_i kk
  obtain ⟨K, hK⟩ : ∃ K, K = kk ++ [mn] := ⟨_, rfl⟩
  rw [← hK]
  have hKl : K.length ≤ 41 := by rw [hK]; simp; omega
  refine pc_ofV dop30 ?_
  repeat' ((conv => whnf); first | ((with_reducible refine ObD.mk ?_ ?_); (focus (first | rfl | (simp; done)))))
  conv => whnf
  refine SeqP.go ?_
  skip
  conv => whnf
  refine SeqP.go ?_
  refine V_seq (V_cut (α := Unit) (fun _ => True) (fun _ => [(6, none), (0, none), (0, none), (0, none), (0, none), (0, none), (0, some (.ol 1 0 K.length)), (0, some (I K.length)), (0, some (I (0 : Nat)))]) (fun _ => [⟨30, 9, [nV kn ke va mp kk mn ls sz bi], 0, 0⟩, kR 0 K]) ?_ ?_)
  · intro Q hQ
    have hQ1 := fun s' H' (h : s'.getD 12 undefA = .ol 1 1 K.length) hf => hQ s' H' () trivial hf
    have hrK := nr_i K
    rcases kk with _ | ⟨k0, kt⟩
    · have h1 := cpyB0 G
      have hlm : [I mn].length = K.length := by rw [hK]; rfl
      have hKm : K.map iA = [I mn] := by rw [hK]; rfl
      repeat' ((conv => whnf); first | (with_reducible refine ObAnd.mk ?_ ?_) | (with_reducible refine ObDx.each ?_) | ((with_reducible refine ObD.mk ?_ ?_); (focus (first | rfl | (simp; done)))) | ((with_reducible refine ObN.mk ?_ ?_); (focus (first | rfl | assumption | omega | (simp only [List.length_map, List.length_append, List.length_cons, List.length_nil]; omega) | (simp; done) | (simp; omega)))) | ((with_reducible refine (?_ : ObL _ _)); (refine ObL.mk _ (by first | exact (List.length_map _) | exact hlm | assumption | exact (List.length_map _).trans (by assumption) | exact List.length_map _ | rfl) ?_)) | ((with_reducible refine (?_ : ObU _ _)); (refine ObU.mk _ (by first | assumption | ((conv => lhs; simp only [List.set_cons_zero, List.set_cons_succ, List.take_succ_cons, List.take_zero, List.drop_succ_cons, List.drop_zero, List.nil_append, List.cons_append, List.append_nil, List.take_nil, List.drop_nil]); try rfl) | rfl) ?_)) | ((with_reducible refine (?_ : ObR _ _ _)); (first | (refine ObR.mk _ (by assumption) ?_) | (refine ObR.mk _ (by with_reducible rfl) ?_) | (refine ObR.map (by (first | omega | assumption | (simp only [List.length_map, List.length_append, List.length_cons, List.length_nil, List.length_take, List.length_drop, List.length_set, List.length_replicate]; omega))) (fun x hx => ?_)) | (refine ObR.mk _ rfl ?_))) | ((with_reducible refine ObH.f 39 ?_); refine ObH.frn _ (by simp only [List.length_cons, List.length_nil, Nat.reduceAdd]; rfl) [] (h1) (by simp) rfl (by simp) ?_) | ((with_reducible refine ObW.cons ?_ ?_); (focus (first | assumption | (simp; done)))) | ((with_reducible refine ObAs.mk ?_ ?_); (focus (first | rfl | (simp [rnB, rnC, rnL]; done)))) | ((with_reducible refine (?_ : ObRs _ _ _)); (refine ObRs.mk _ rfl ?_)))
      all_goals conv => whnf
      all_goals refine hQ _ _ () trivial (Fg.vw [(0, 0, 0), (0, 2, 0)] ?_ ?_ (by simp) ?_)
      all_goals repeat' ((conv => whnf); first | ((with_reducible refine ObN.mk ?_ ?_); (focus (first | rfl | assumption | omega | (simp only [List.length_map, List.length_append, List.length_cons, List.length_nil]; omega) | (simp; done) | (simp; omega)))) | ((with_reducible refine ObRn.mk ?_ ?_); (focus (first | rfl | (simp [rnB, rnC, rnL]; done)))) | ((with_reducible refine ObRow.same ?_ ?_ ?_); (focus (first | rfl | assumption)); (focus (first | rfl | assumption | (simp; done)))) | ((with_reducible refine ObEqs.mk ?_ ?_); (focus rfl)) | exact True.intro)
    · have h1 := cpyB G (k0 :: kt) (by omega) (by simp)
      have hkl' : kt.length + 1 ≤ 40 := hkl
      have us : ((k0 :: kt).map iA).take (kt.length + 1) ++ [.v (.int .i64 mn)] = K.map iA := by rw [hK]; exact i_snoc (l := k0 :: kt)
      have hlm : ((k0 :: kt).length + [I mn].length) = K.length := by rw [hK]; simp
      repeat' ((conv => whnf); first | (with_reducible refine ObAnd.mk ?_ ?_) | (with_reducible refine ObDx.each ?_) | ((with_reducible refine ObD.mk ?_ ?_); (focus (first | rfl | (simp; done)))) | ((with_reducible refine ObN.mk ?_ ?_); (focus (first | rfl | assumption | omega | (simp only [List.length_map, List.length_append, List.length_cons, List.length_nil]; omega) | (simp; done) | (simp; omega)))) | ((with_reducible refine (?_ : ObL _ _)); (refine ObL.mk _ (by first | exact (List.length_map _) | exact hlm | assumption | exact (List.length_map _).trans (by assumption) | exact List.length_map _ | rfl) ?_)) | ((with_reducible refine (?_ : ObU _ _)); (refine ObU.mk _ (by first | exact us | assumption | ((conv => lhs; simp only [List.set_cons_zero, List.set_cons_succ, List.take_succ_cons, List.take_zero, List.drop_succ_cons, List.drop_zero, List.nil_append, List.cons_append, List.append_nil, List.take_nil, List.drop_nil]); try rfl) | rfl) ?_)) | ((with_reducible refine (?_ : ObR _ _ _)); (first | (refine ObR.mk _ (by assumption) ?_) | (refine ObR.mk _ (by with_reducible rfl) ?_) | (refine ObR.map (by (first | omega | assumption | (simp only [List.length_map, List.length_append, List.length_cons, List.length_nil, List.length_take, List.length_drop, List.length_set, List.length_replicate]; omega))) (fun x hx => ?_)) | (refine ObR.mk _ rfl ?_))) | ((with_reducible refine ObH.f 39 ?_); refine ObH.frn _ (by simp only [List.length_cons, List.length_nil, Nat.reduceAdd]; rfl) [] (h1) (by simp) rfl (by simp) ?_) | ((with_reducible refine ObAs.mk ?_ ?_); (focus (first | rfl | (simp [rnB, rnC, rnL]; done)))) | ((with_reducible refine (?_ : ObRs _ _ _)); (refine ObRs.mk _ rfl ?_)) | ((with_reducible refine ObBk.same ?_ ?_); (focus (first | rfl | assumption | (simp; done)))))
      all_goals conv => whnf
      all_goals first | refine hQ1 _ _ rfl (Fg.vw [(0, 0, 0), (0, 1, 1)] ?_ ?_ (by simp) ?_) | refine hQ _ _ () trivial (Fg.vw [(0, 0, 0), (0, 2, 1)] ?_ ?_ (by simp) ?_)
      all_goals repeat' ((conv => whnf); first | ((with_reducible refine ObN.mk ?_ ?_); (focus (first | rfl | assumption | omega | (simp only [List.length_map, List.length_append, List.length_cons, List.length_nil]; omega) | (simp; done) | (simp; omega)))) | ((with_reducible refine ObRn.mk ?_ ?_); (focus (first | rfl | (simp [rnB, rnC, rnL]; done)))) | ((with_reducible refine ObRow.same ?_ ?_ ?_); (focus (first | rfl | assumption)); (focus (first | rfl | assumption | (simp; done)))) | ((with_reducible refine ObEqs.mk ?_ ?_); (focus rfl)) | exact True.intro)
  · rintro ⟨⟩ -
    skip
    conv => whnf
    refine LoopP.go (α := Nat × List Int) (fun p => p.1 ≤ K.length ∧ p.2 = (K.take p.1).filter (fun r => decide (r ≠ 0))) (fun p => K.length - p.1) (fun p => [(3, some (rS 2 p.2)), (1, none), (8, some (I p.1)), (0, none), (0, none), (0, none), (0, none), (0, none), (0, none), (0, none), (0, none), (0, none), (0, none)]) (fun p => [⟨30, 9, [nV kn ke va mp kk mn ls sz bi], 0, 0⟩, kR 0 K] ++ rH p.2) (0, []) ⟨Nat.zero_le _, rfl⟩ (Fg.go ?_ rfl) ?_
    · repeat' ((conv => whnf); first | ((with_reducible refine ObEqs.mk ?_ ?_); (focus rfl)) | ((with_reducible refine ObEq1.mk ?_ ?_); (focus (first | rfl | assumption))) | exact True.intro)
    rintro ⟨i, l⟩ ⟨hi, hl⟩
    dsimp only at hi hl ⊢
    have hll : l.length ≤ i := by
      have := List.length_filter_le (fun r : Int => decide (r ≠ 0)) (K.take i)
      rw [← hl, List.length_take] at this; omega
    have hrK := nr_i K
    by_cases hiK : i < K.length
    · have hq := iA_at' hiK
      have f1 := flt_yes hiK
      have f2 := flt_no hiK
      generalize K[i] = x at *
      by_cases hx : x = 0
      · rcases l with _ | ⟨l0, lt⟩
        · repeat' ((conv => whnf); first | (with_reducible refine SeqP.go ?_) | ((with_reducible refine ObN.mk ?_ ?_); (focus (first | rfl | assumption | omega | (simp only [List.length_map, List.length_append, List.length_cons, List.length_nil]; omega) | (simp; done) | (simp; omega)))) | (with_reducible refine ObT.tt ?_) | (with_reducible refine ObT.ff ?_) | ((with_reducible refine ObB.yes ?_ ?_); (focus (first | assumption | (with_reducible rfl) | omega))) | ((with_reducible refine ObI.nl ?_ ?_); (focus omega)) | ((with_reducible refine ObX.mk _ rfl ?_ ?_); (focus (first | omega | assumption | (simp only [List.length_map, List.length_append, List.length_cons, List.length_nil, List.length_take, List.length_drop, List.length_set, List.length_replicate]; omega)))) | ((with_reducible refine (?_ : ObR _ _ _)); (first | (refine ObR.mk _ (by assumption) ?_) | (refine ObR.mk _ (by with_reducible rfl) ?_) | (refine ObR.map (by (first | omega | assumption | (simp only [List.length_map, List.length_append, List.length_cons, List.length_nil, List.length_take, List.length_drop, List.length_set, List.length_replicate]; omega))) (fun x hx => ?_)) | (refine ObR.mk _ rfl ?_))))
          conv => whnf
          refine Again.mk (i + 1, []) ⟨by dsimp only; omega, by dsimp only; rw [f2 hx, ← hl]⟩ ?_ (Fg.vw [(0, 0, 0), (0, 1, 0)] ?_ ?_ (by simp) ?_)
          · dsimp only; omega
          all_goals repeat' ((conv => whnf); first | ((with_reducible refine ObRn.mk ?_ ?_); (focus (simp [rnB, rnC, rS]; done))) | ((with_reducible refine ObN.mk ?_ ?_); (focus (first | rfl | assumption | omega | (simp only [List.length_map, List.length_append, List.length_cons, List.length_nil]; omega) | (simp; done) | (simp; omega)))) | ((with_reducible refine ObRow.same ?_ ?_ ?_); (focus (first | rfl | assumption)); (focus (first | rfl | assumption | (simp; done)))) | ((with_reducible refine ObEqs.mk ?_ ?_); (focus rfl)) | exact True.intro)
        · have r1 := nr_i (l0 :: lt)
          repeat' ((conv => whnf); first | (with_reducible refine SeqP.go ?_) | ((with_reducible refine ObN.mk ?_ ?_); (focus (first | rfl | assumption | omega | (simp only [List.length_map, List.length_append, List.length_cons, List.length_nil]; omega) | (simp; done) | (simp; omega)))) | (with_reducible refine ObT.tt ?_) | (with_reducible refine ObT.ff ?_) | ((with_reducible refine ObB.yes ?_ ?_); (focus (first | assumption | (with_reducible rfl) | omega))) | ((with_reducible refine ObI.nl ?_ ?_); (focus omega)) | ((with_reducible refine ObX.mk _ rfl ?_ ?_); (focus (first | omega | assumption | (simp only [List.length_map, List.length_append, List.length_cons, List.length_nil, List.length_take, List.length_drop, List.length_set, List.length_replicate]; omega)))) | ((with_reducible refine (?_ : ObR _ _ _)); (first | (refine ObR.mk _ (by assumption) ?_) | (refine ObR.mk _ (by with_reducible rfl) ?_) | (refine ObR.map (by (first | omega | assumption | (simp only [List.length_map, List.length_append, List.length_cons, List.length_nil, List.length_take, List.length_drop, List.length_set, List.length_replicate]; omega))) (fun x hx => ?_)) | (refine ObR.mk _ rfl ?_))))
          conv => whnf
          refine Again.mk (i + 1, l0 :: lt) ⟨by dsimp only; omega, by dsimp only; rw [f2 hx, ← hl]⟩ ?_ (Fg.vw [(0, 0, 0), (0, 1, 0), (0, 2, 0)] ?_ ?_ (by simp) ?_)
          · dsimp only; omega
          all_goals repeat' ((conv => whnf); first | ((with_reducible refine ObRn.mk ?_ ?_); (focus (simp [rnB, rnC, rS]; done))) | ((with_reducible refine ObN.mk ?_ ?_); (focus (first | rfl | assumption | omega | (simp only [List.length_map, List.length_append, List.length_cons, List.length_nil]; omega) | (simp; done) | (simp; omega)))) | ((with_reducible refine ObRow.same ?_ ?_ ?_); (focus (first | rfl | assumption)); (focus (first | rfl | assumption | (simp; done)))) | ((with_reducible refine ObEqs.mk ?_ ?_); (focus rfl)) | exact True.intro)
      · rcases l with _ | ⟨l0, lt⟩
        · have r1 := nr_i [x]
          repeat' ((conv => whnf); first | (with_reducible refine SeqP.go ?_) | ((with_reducible refine ObD.mk ?_ ?_); (focus (first | rfl | (simp; done)))) | ((with_reducible refine ObN.mk ?_ ?_); (focus (first | rfl | assumption | omega | (simp only [List.length_map, List.length_append, List.length_cons, List.length_nil]; omega) | (simp; done) | (simp; omega)))) | (with_reducible refine ObT.tt ?_) | ((with_reducible refine ObB.yes ?_ ?_); (focus (first | assumption | (with_reducible rfl) | omega))) | ((with_reducible refine ObB.no ?_ ?_); (focus (first | assumption | omega))) | ((with_reducible refine ObI.nl ?_ ?_); (focus omega)) | ((with_reducible refine ObX.mk _ rfl ?_ ?_); (focus (first | omega | assumption | (simp only [List.length_map, List.length_append, List.length_cons, List.length_nil, List.length_take, List.length_drop, List.length_set, List.length_replicate]; omega)))) | ((with_reducible refine (?_ : ObL _ _)); (refine ObL.mk _ (by first | assumption | exact (List.length_map _).trans (by assumption) | exact List.length_map _ | rfl) ?_)) | ((with_reducible refine (?_ : ObU _ _)); (refine ObU.mk _ (by first | assumption | ((conv => lhs; simp only [List.set_cons_zero, List.set_cons_succ, List.take_succ_cons, List.take_zero, List.drop_succ_cons, List.drop_zero, List.nil_append, List.cons_append, List.append_nil, List.take_nil, List.drop_nil]); try rfl) | rfl) ?_)) | ((with_reducible refine (?_ : ObR _ _ _)); (first | (refine ObR.mk _ (by assumption) ?_) | (refine ObR.mk _ (by with_reducible rfl) ?_) | (refine ObR.map (by (first | omega | assumption | (simp only [List.length_map, List.length_append, List.length_cons, List.length_nil, List.length_take, List.length_drop, List.length_set, List.length_replicate]; omega))) (fun x hx => ?_)) | (refine ObR.mk _ rfl ?_))) | ((with_reducible refine ObW.cons ?_ ?_); (focus (first | assumption | (simp; done)))))
          conv => whnf
          refine Again.mk (i + 1, [x]) ⟨by dsimp only; omega, by dsimp only; rw [f1 hx, ← hl]; rfl⟩ ?_ (Fg.vw [(0, 0, 0), (0, 1, 0), (0, 3, 0)] ?_ ?_ (by simp) ?_)
          · dsimp only; omega
          all_goals repeat' ((conv => whnf); first | ((with_reducible refine ObRn.mk ?_ ?_); (focus (simp [rnB, rnC, rS]; done))) | ((with_reducible refine ObN.mk ?_ ?_); (focus (first | rfl | assumption | omega | (simp only [List.length_map, List.length_append, List.length_cons, List.length_nil]; omega) | (simp; done) | (simp; omega)))) | ((with_reducible refine ObRow.same ?_ ?_ ?_); (focus (first | rfl | assumption)); (focus (first | rfl | assumption | (simp; done)))) | ((with_reducible refine ObEqs.mk ?_ ?_); (focus rfl)) | exact True.intro)
        · have hll' : lt.length + 1 ≤ i := hll
          have r1 := nr_i ((l0 :: lt) ++ [x])
          have us : ((l0 :: lt).map iA).take (lt.length + 1) ++ [.v (.int .i64 x)] = ((l0 :: lt) ++ [x]).map iA := i_snoc (l := l0 :: lt)
          repeat' ((conv => whnf); first | (with_reducible refine SeqP.go ?_) | ((with_reducible refine ObD.mk ?_ ?_); (focus (first | rfl | (simp; done)))) | ((with_reducible refine ObN.mk ?_ ?_); (focus (first | rfl | assumption | omega | (simp only [List.length_map, List.length_append, List.length_cons, List.length_nil]; omega) | (simp; done) | (simp; omega)))) | (with_reducible refine ObT.tt ?_) | ((with_reducible refine ObB.yes ?_ ?_); (focus (first | assumption | (with_reducible rfl) | omega))) | ((with_reducible refine ObB.no ?_ ?_); (focus (first | assumption | omega))) | ((with_reducible refine ObI.nl ?_ ?_); (focus omega)) | ((with_reducible refine ObX.mk _ rfl ?_ ?_); (focus (first | omega | assumption | (simp only [List.length_map, List.length_append, List.length_cons, List.length_nil, List.length_take, List.length_drop, List.length_set, List.length_replicate]; omega)))) | ((with_reducible refine (?_ : ObL _ _)); (refine ObL.mk _ (by first | assumption | exact (List.length_map _).trans (by assumption) | exact List.length_map _ | rfl) ?_)) | ((with_reducible refine (?_ : ObU _ _)); (refine ObU.mk _ (by first | exact us | assumption | ((conv => lhs; simp only [List.set_cons_zero, List.set_cons_succ, List.take_succ_cons, List.take_zero, List.drop_succ_cons, List.drop_zero, List.nil_append, List.cons_append, List.append_nil, List.take_nil, List.drop_nil]); try rfl) | rfl) ?_)) | ((with_reducible refine (?_ : ObR _ _ _)); (first | (refine ObR.mk _ (by assumption) ?_) | (refine ObR.mk _ (by with_reducible rfl) ?_) | (refine ObR.map (by (first | omega | assumption | (simp only [List.length_map, List.length_append, List.length_cons, List.length_nil, List.length_take, List.length_drop, List.length_set, List.length_replicate]; omega))) (fun x hx => ?_)) | (refine ObR.mk _ rfl ?_))))
          conv => whnf
          refine Again.mk (i + 1, (l0 :: lt) ++ [x]) ⟨by dsimp only; omega, by dsimp only; rw [f1 hx, ← hl]⟩ ?_ (Fg.vw [(0, 0, 0), (0, 1, 0), (0, 2, 1)] ?_ ?_ (by simp) ?_)
          · dsimp only; omega
          all_goals repeat' ((conv => whnf); first | ((with_reducible refine ObRn.mk ?_ ?_); (focus (simp [rnB, rnC, rS]; done))) | ((with_reducible refine ObN.mk ?_ ?_); (focus (first | rfl | assumption | omega | (simp only [List.length_map, List.length_append, List.length_cons, List.length_nil]; omega) | (simp; done) | (simp; omega)))) | ((with_reducible refine ObRow.same ?_ ?_ ?_); (focus (first | rfl | assumption)); (focus (first | rfl | assumption | (simp; done)))) | ((with_reducible refine ObEqs.mk ?_ ?_); (focus rfl)) | exact True.intro)
    · obtain rfl : i = K.length := by omega
      rw [List.take_length] at hl
      rw [← hl]
      rcases l with _ | ⟨l0, lt⟩
      · repeat' ((conv => whnf); first | (with_reducible refine SeqP.go ?_) | ((with_reducible refine ObN.mk ?_ ?_); (focus (first | rfl | assumption | omega | (simp only [List.length_map, List.length_append, List.length_cons, List.length_nil]; omega) | (simp; done) | (simp; omega)))) | (with_reducible refine ObT.ff ?_) | ((with_reducible refine ObB.no ?_ ?_); (focus (first | assumption | omega))) | ((with_reducible refine ObEq.mk ?_); (focus (first | rfl | assumption))))
      · have la : ((l0 :: lt).map iA).take (lt.length + 1) = (l0 :: lt).map iA := i_all (l := l0 :: lt)
        have lp := p_i (l0 :: lt)
        repeat' ((conv => whnf); first | (with_reducible refine SeqP.go ?_) | ((with_reducible refine ObN.mk ?_ ?_); (focus (first | rfl | assumption | omega | (simp only [List.length_map, List.length_append, List.length_cons, List.length_nil]; omega) | (simp; done) | (simp; omega)))) | (with_reducible refine ObT.ff ?_) | ((with_reducible refine ObB.no ?_ ?_); (focus (first | assumption | omega))) | ((with_reducible refine (?_ : ObU _ _)); (refine ObU.mk _ (by first | exact la | assumption | ((conv => lhs; simp only [List.set_cons_zero, List.set_cons_succ, List.take_succ_cons, List.take_zero, List.drop_succ_cons, List.drop_zero, List.nil_append, List.cons_append, List.append_nil, List.take_nil, List.drop_nil]); try rfl) | rfl) ?_)) | ((with_reducible refine ObEq.mk ?_); (focus (first | rfl | assumption))))
set_option maxHeartbeats 2000000 in
theorem refs32 (x : Nd) (h : x.Ok) : PC Try.prog G 32 [nA x] (.sl 1 ((rfN x).map iA)) := by
  obtain ⟨kn, ke, va, mp, kk, mn, ls, sz, bi⟩ := x
  have hkl := h.kk
  clear h
  dsimp only [rfN] at hkl ⊢
  refine pc_ofV cop32 ?_
  repeat' ((conv => whnf); first | (with_reducible refine SeqP.go ?_) | ((with_reducible refine ObD.mk ?_ ?_); (focus (first | rfl | (simp; done)))))
  conv => whnf
  refine LoopP.go (α := Nat × List Int) (fun p => p.1 ≤ kk.length ∧ p.2 = (kk.take p.1).filter (fun r => decide (r ≠ 0))) (fun p => kk.length - p.1) (fun p => [(3, some (.ol 1 0 p.2.length)), (0, some (I p.1)), (0, none), (0, none), (0, none), (0, none), (0, none), (0, none), (0, none), (0, none), (0, none), (0, none), (0, none), (0, none), (0, none), (0, none), (0, none), (0, none), (0, none), (0, none), (0, none), (0, none), (0, none), (0, none)]) (fun p => [⟨30, 9, [nV kn ke va mp kk mn ls sz bi], 0, 0⟩, kR 0 p.2]) (0, []) ⟨Nat.zero_le _, rfl⟩ (Fg.go ?_ rfl) ?_
  · repeat' ((conv => whnf); first | ((with_reducible refine ObEqs.mk ?_ ?_); (focus rfl)) | ((with_reducible refine ObEq1.i ?_ ?_); (focus (first | (with_reducible rfl) | omega))) | ((with_reducible refine ObEq1.mk ?_ ?_); (focus (first | rfl | assumption))) | exact True.intro)
  rintro ⟨i, l⟩ ⟨hi, hl⟩
  dsimp only at hi hl ⊢
  have hll : l.length ≤ i := by
    have := List.length_filter_le (fun r : Int => decide (r ≠ 0)) (kk.take i)
    rw [← hl, List.length_take] at this; omega
  by_cases hiK : i < kk.length
  · have hq := iA_at' hiK
    have f1 := flt_yes hiK
    have f2 := flt_no hiK
    generalize kk[i] = x at *
    by_cases hx : x = 0
    · have r1 := nr_i l
      repeat' ((conv => whnf); first | (with_reducible refine SeqP.go ?_) | ((with_reducible refine ObN.mk ?_ ?_); (focus (first | rfl | assumption | omega | (simp only [List.length_map, List.length_append, List.length_cons, List.length_nil]; omega) | (simp; done) | (simp; omega)))) | (with_reducible refine ObT.tt ?_) | (with_reducible refine ObT.ff ?_) | ((with_reducible refine ObB.yes ?_ ?_); (focus (first | assumption | (with_reducible rfl) | omega))) | ((with_reducible refine ObI.nl ?_ ?_); (focus omega)) | ((with_reducible refine ObX.mk _ rfl ?_ ?_); (focus (first | omega | assumption | (simp only [List.length_map, List.length_append, List.length_cons, List.length_nil, List.length_take, List.length_drop, List.length_set, List.length_replicate]; omega)))) | ((with_reducible refine (?_ : ObL _ _)); (refine ObL.mk _ (by first | exact (List.length_map _) | assumption | exact (List.length_map _).trans (by assumption) | exact List.length_map _ | rfl) ?_)) | ((with_reducible refine (?_ : ObR _ _ _)); (first | (refine ObR.mk _ (by assumption) ?_) | (refine ObR.mk _ (by with_reducible rfl) ?_) | (refine ObR.map (by (first | omega | assumption | (simp only [List.length_map, List.length_append, List.length_cons, List.length_nil, List.length_take, List.length_drop, List.length_set, List.length_replicate]; omega))) (fun x hx => ?_)) | (refine ObR.mk _ rfl ?_))))
      conv => whnf
      refine Again.mk (i + 1, l) ⟨by dsimp only; omega, by dsimp only; rw [f2 hx, ← hl]⟩ ?_ (Fg.vw [(0, 0, 0), (0, 1, 0)] ?_ ?_ (by simp) ?_)
      · dsimp only; omega
      all_goals repeat' ((conv => whnf); first | ((with_reducible refine ObN.mk ?_ ?_); (focus (first | rfl | assumption | omega | (simp only [List.length_map, List.length_append, List.length_cons, List.length_nil]; omega) | (simp; done) | (simp; omega)))) | ((with_reducible refine ObRn.mk ?_ ?_); (focus (first | rfl | (simp [rnB, rnC, rnL]; done)))) | ((with_reducible refine ObRow.same ?_ ?_ ?_); (focus (first | rfl | assumption)); (focus (first | rfl | assumption | (simp; done)))) | ((with_reducible refine ObEqs.mk ?_ ?_); (focus rfl)) | exact True.intro)
    · have r1 := nr_i (l ++ [x])
      have us := i_snoc (l := l) (x := x)
      repeat' ((conv => whnf); first | (with_reducible refine SeqP.go ?_) | ((with_reducible refine ObD.mk ?_ ?_); (focus (first | rfl | (simp; done)))) | ((with_reducible refine ObN.mk ?_ ?_); (focus (first | rfl | assumption | omega | (simp only [List.length_map, List.length_append, List.length_cons, List.length_nil]; omega) | (simp; done) | (simp; omega)))) | (with_reducible refine ObT.tt ?_) | ((with_reducible refine ObB.yes ?_ ?_); (focus (first | assumption | (with_reducible rfl) | omega))) | ((with_reducible refine ObB.no ?_ ?_); (focus (first | assumption | omega))) | ((with_reducible refine ObI.nl ?_ ?_); (focus omega)) | ((with_reducible refine ObX.mk _ rfl ?_ ?_); (focus (first | omega | assumption | (simp only [List.length_map, List.length_append, List.length_cons, List.length_nil, List.length_take, List.length_drop, List.length_set, List.length_replicate]; omega)))) | ((with_reducible refine (?_ : ObL _ _)); (refine ObL.mk _ (by first | exact (List.length_map _) | assumption | exact (List.length_map _).trans (by assumption) | exact List.length_map _ | rfl) ?_)) | ((with_reducible refine (?_ : ObU _ _)); (refine ObU.mk _ (by first | exact us | assumption | ((conv => lhs; simp only [List.set_cons_zero, List.set_cons_succ, List.take_succ_cons, List.take_zero, List.drop_succ_cons, List.drop_zero, List.nil_append, List.cons_append, List.append_nil, List.take_nil, List.drop_nil]); try rfl) | rfl) ?_)) | ((with_reducible refine (?_ : ObR _ _ _)); (first | (refine ObR.mk _ (by assumption) ?_) | (refine ObR.mk _ (by with_reducible rfl) ?_) | (refine ObR.map (by (first | omega | assumption | (simp only [List.length_map, List.length_append, List.length_cons, List.length_nil, List.length_take, List.length_drop, List.length_set, List.length_replicate]; omega))) (fun x hx => ?_)) | (refine ObR.mk _ rfl ?_))))
      conv => whnf
      refine Again.mk (i + 1, l ++ [x]) ⟨by dsimp only; omega, by dsimp only; rw [f1 hx, ← hl]⟩ ?_ (Fg.vw [(0, 0, 0), (0, 1, 1)] ?_ ?_ (by simp) ?_)
      · dsimp only; omega
      all_goals repeat' ((conv => whnf); first | ((with_reducible refine ObN.mk ?_ ?_); (focus (first | rfl | assumption | omega | (simp only [List.length_map, List.length_append, List.length_cons, List.length_nil]; omega) | (simp; done) | (simp; omega)))) | ((with_reducible refine ObRn.mk ?_ ?_); (focus (first | rfl | (simp [rnB, rnC, rnL]; done)))) | ((with_reducible refine ObRow.same ?_ ?_ ?_); (focus (first | rfl | assumption)); (focus (first | rfl | assumption | (simp; done)))) | ((with_reducible refine ObEqs.mk ?_ ?_); (focus rfl)) | exact True.intro)
  · obtain rfl : i = kk.length := by omega
    rw [List.take_length] at hl
    rw [List.filter_append, ← hl]
    by_cases hm : mn = 0
    · have e : [mn].filter (fun r => decide (r ≠ 0)) = [] := by simp [hm]
      have la := i_all (l := l)
      have lp := p_i l
      rw [e, List.append_nil]
      repeat' ((conv => whnf); first | (with_reducible refine SeqP.go ?_) | ((with_reducible refine ObN.mk ?_ ?_); (focus (first | rfl | assumption | omega | (simp only [List.length_map, List.length_append, List.length_cons, List.length_nil]; omega) | (simp; done) | (simp; omega)))) | (with_reducible refine ObT.ff ?_) | ((with_reducible refine ObB.yes ?_ ?_); (focus (first | assumption | (with_reducible rfl) | omega))) | ((with_reducible refine ObB.no ?_ ?_); (focus (first | assumption | omega))) | ((with_reducible refine (?_ : ObL _ _)); (refine ObL.mk _ (by first | exact (List.length_map _) | assumption | exact (List.length_map _).trans (by assumption) | exact List.length_map _ | rfl) ?_)) | ((with_reducible refine (?_ : ObU _ _)); (refine ObU.mk _ (by first | exact la | assumption | ((conv => lhs; simp only [List.set_cons_zero, List.set_cons_succ, List.take_succ_cons, List.take_zero, List.drop_succ_cons, List.drop_zero, List.nil_append, List.cons_append, List.append_nil, List.take_nil, List.drop_nil]); try rfl) | rfl) ?_)) | ((with_reducible refine (?_ : ObR _ _ _)); (first | (refine ObR.mk _ (by assumption) ?_) | (refine ObR.mk _ (by with_reducible rfl) ?_) | (refine ObR.map (by (first | omega | assumption | (simp only [List.length_map, List.length_append, List.length_cons, List.length_nil, List.length_take, List.length_drop, List.length_set, List.length_replicate]; omega))) (fun x hx => ?_)) | (refine ObR.mk _ rfl ?_))) | ((with_reducible refine ObEq.mk ?_); (focus (first | rfl | assumption))))
    · have e : [mn].filter (fun r => decide (r ≠ 0)) = [mn] := by simp [hm]
      have us := i_snoc (l := l) (x := mn)
      have hl1 : l.length + [I mn].length = (l ++ [mn]).length := by simp
      have la : ((l ++ [mn]).map iA).take (l ++ [mn]).length = (l ++ [mn]).map iA := i_all
      have lp := p_i (l ++ [mn])
      rw [e]
      repeat' ((conv => whnf); first | (with_reducible refine SeqP.go ?_) | ((with_reducible refine ObD.mk ?_ ?_); (focus (first | rfl | (simp; done)))) | ((with_reducible refine ObN.mk ?_ ?_); (focus (first | rfl | assumption | omega | (simp only [List.length_map, List.length_append, List.length_cons, List.length_nil]; omega) | (simp; done) | (simp; omega)))) | (with_reducible refine ObT.tt ?_) | (with_reducible refine ObT.ff ?_) | ((with_reducible refine ObB.no ?_ ?_); (focus (first | assumption | omega))) | ((with_reducible refine (?_ : ObL _ _)); (refine ObL.mk _ (by first | exact hl1 | exact (List.length_map _) | assumption | exact (List.length_map _).trans (by assumption) | exact List.length_map _ | rfl) ?_)) | ((with_reducible refine (?_ : ObU _ _)); (refine ObU.mk _ (by first | exact us | exact la | assumption | ((conv => lhs; simp only [List.set_cons_zero, List.set_cons_succ, List.take_succ_cons, List.take_zero, List.drop_succ_cons, List.drop_zero, List.nil_append, List.cons_append, List.append_nil, List.take_nil, List.drop_nil]); try rfl) | rfl) ?_)) | ((with_reducible refine (?_ : ObR _ _ _)); (first | (refine ObR.mk _ (by assumption) ?_) | (refine ObR.mk _ (by with_reducible rfl) ?_) | (refine ObR.map (by (first | omega | assumption | (simp only [List.length_map, List.length_append, List.length_cons, List.length_nil, List.length_take, List.length_drop, List.length_set, List.length_replicate]; omega))) (fun x hx => ?_)) | (refine ObR.mk _ rfl ?_))) | ((with_reducible refine ObEq.mk ?_); (focus (first | rfl | assumption))))
end
end Go.Proofs.Ytnammfeiehikfaa.Sim
namespace Go.Proofs.Ytnammfeiehikfaa.Sim
open Go.RowKit
set_option maxRecDepth 100000
noncomputable def okI (i : Nat) (x : Nd) : Bool := decide (mayV x = 0) && (rfN x).all fun r => decide (-1 - r < (i : Int))
noncomputable def aI (l : List Nd) (k : Nat) : Bool := (List.range k).all fun i => match l[i]? with | some x => okI i x | none => true
theorem aI_succ {l : List Nd} {k : Nat} (h : k < l.length) : aI l (k + 1) = (aI l k && okI k l[k]) := by
  simp [aI, List.range_succ, List.getElem?_eq_getElem h]
theorem aI_no {l : List Nd} {k n : Nat} (h : k < l.length) (hn : k < n) (h0 : okI k l[k] = false) : aI l n = false := by
  rw [aI, List.all_eq_false]
  exact ⟨k, List.mem_range.2 hn, by simp [List.getElem?_eq_getElem h, h0]⟩
noncomputable def okP (l : List Nd) (rt : Int) (od : List Int) : Bool := (od.all fun r => decide (0 < r)) && aI l l.length && decide (-1 - rt < (l.length : Int))
theorem rf_i64 {x : Nd} (h : x.Ok) : ∀ r ∈ rfN x, i64 r := fun r hr => by
  simp only [rfN, List.mem_filter, List.mem_append, List.mem_singleton] at hr
  rcases hr.1 with h1 | h1
  · exact h.ks r h1
  · rw [h1]; exact h.mn
theorem rf_len {x : Nd} (h : x.Ok) : (rfN x).length ≤ 41 := by
  have h1 := List.length_filter_le (fun r : Int => decide (r ≠ 0)) (x.kk ++ [x.mn])
  have h2 := h.kk
  rw [List.length_append] at h1
  unfold rfN
  simp only [List.length_cons, List.length_nil] at h1
  omega
abbrev plA (l : List Nd) (rt : Int) (od : List Int) : AV := .agg [.sl 9 (l.map nA), I rt, .sl 1 (od.map iA)]
section
variable (G : Nat → AV)
set_option maxHeartbeats 4000000 in
theorem may11 (l : List Nd) (rt : Int) (od : List Int) (hl : l.length ≤ 1000) (hx : ∀ x ∈ l, x.Ok) (hr : i64 rt) (ho : od.length ≤ 1000) (c : Bool) (hc : c = okP l rt od) : PC Try.prog G 11 [plA l rt od] (I (eo c)) := by
  have hrt := num31 G rt hr.1 hr.2
  refine pc_ofV cop11 ?_
  repeat' ((conv => whnf); first | (with_reducible refine SeqP.go ?_) | ((with_reducible refine ObD.mk ?_ ?_); (focus (first | rfl | (simp; done)))) | ((with_reducible refine ObN.mk ?_ ?_); (focus (first | rfl | assumption | omega | (simp only [List.length_map, List.length_append, List.length_cons, List.length_nil]; omega) | (simp; done) | (simp; omega)))) | ((with_reducible refine (?_ : ObL _ _)); (refine ObL.mk _ (by first | exact (List.length_map _) | assumption | exact (List.length_map _).trans (by assumption) | exact List.length_map _ | rfl) ?_)) | ((with_reducible refine (?_ : ObR _ _ _)); (first | (refine ObR.mk _ (by assumption) ?_) | (refine ObR.mk _ (by with_reducible rfl) ?_) | (refine ObR.map (by (first | omega | assumption | (simp only [List.length_map, List.length_append, List.length_cons, List.length_nil, List.length_take, List.length_drop, List.length_set, List.length_replicate]; omega))) (fun x hx => ?_)) | (refine ObR.mk _ rfl ?_))))
  conv => whnf
  refine LoopP.go (α := Nat) (fun i => i ≤ od.length ∧ (od.take i).all (fun r => decide (0 < r)) = true) (fun i => od.length - i) (fun i => [(2, some (I 0)), (1, none), (7, some (I i)), (0, none), (0, none), (0, none), (0, none), (0, none), (0, none)]) (fun _ => [⟨32, 3, [plA l rt od], 0, 0⟩]) 0 ⟨Nat.zero_le _, rfl⟩ (Fg.go ?_ rfl) ?_
  · repeat' ((conv => whnf); first | ((with_reducible refine ObEqs.mk ?_ ?_); (focus rfl)) | ((with_reducible refine ObEq1.i ?_ ?_); (focus (first | (with_reducible rfl) | omega))) | exact True.intro)
  rintro i ⟨hi, h0⟩
  by_cases hio : i < od.length
  · have hq := iA_at' hio
    by_cases hz : 0 < od[i]
    · have h1 := all_tk (p := fun r => decide (0 < r)) hio h0 (by simpa using hz)
      repeat' ((conv => whnf); first | (with_reducible refine SeqP.go ?_) | ((with_reducible refine ObN.mk ?_ ?_); (focus (first | rfl | assumption | omega | (simp only [List.length_map, List.length_append, List.length_cons, List.length_nil]; omega) | (simp; done) | (simp; omega)))) | (with_reducible refine ObT.tt ?_) | (with_reducible refine ObT.ff ?_) | ((with_reducible refine ObB.yes ?_ ?_); (focus (first | assumption | (with_reducible rfl) | omega))) | ((with_reducible refine ObB.no ?_ ?_); (focus (first | assumption | omega))) | ((with_reducible refine ObI.nl ?_ ?_); (focus omega)) | ((with_reducible refine ObX.mk _ rfl ?_ ?_); (focus (first | omega | assumption | (simp only [List.length_map, List.length_append, List.length_cons, List.length_nil, List.length_take, List.length_drop, List.length_set, List.length_replicate]; omega)))) | ((with_reducible refine (?_ : ObR _ _ _)); (first | (refine ObR.mk _ (by assumption) ?_) | (refine ObR.mk _ (by with_reducible rfl) ?_) | (refine ObR.map (by (first | omega | assumption | (simp only [List.length_map, List.length_append, List.length_cons, List.length_nil, List.length_take, List.length_drop, List.length_set, List.length_replicate]; omega))) (fun x hx => ?_)) | (refine ObR.mk _ rfl ?_))))
      conv => whnf
      refine Again.mk (i + 1) ⟨by omega, h1⟩ ?_ (Fg.go ?_ rfl)
      · omega
      repeat' ((conv => whnf); first | ((with_reducible refine ObEqs.mk ?_ ?_); (focus rfl)) | ((with_reducible refine ObEq1.i ?_ ?_); (focus (first | (with_reducible rfl) | omega))) | exact True.intro)
    · have h1 := all_no (p := fun r => decide (0 < r)) hio (by simpa using hz)
      obtain rfl : c = false := by rw [hc, okP, h1]; rfl
      simp only [eo]
      repeat' ((conv => whnf); first | (with_reducible refine SeqP.go ?_) | ((with_reducible refine ObN.mk ?_ ?_); (focus (first | rfl | assumption | omega | (simp only [List.length_map, List.length_append, List.length_cons, List.length_nil]; omega) | (simp; done) | (simp; omega)))) | (with_reducible refine ObT.tt ?_) | ((with_reducible refine ObB.yes ?_ ?_); (focus (first | assumption | (with_reducible rfl) | omega))) | ((with_reducible refine ObX.mk _ rfl ?_ ?_); (focus (first | omega | assumption | (simp only [List.length_map, List.length_append, List.length_cons, List.length_nil, List.length_take, List.length_drop, List.length_set, List.length_replicate]; omega)))) | ((with_reducible refine (?_ : ObR _ _ _)); (first | (refine ObR.mk _ (by assumption) ?_) | (refine ObR.mk _ (by with_reducible rfl) ?_) | (refine ObR.map (by (first | omega | assumption | (simp only [List.length_map, List.length_append, List.length_cons, List.length_nil, List.length_take, List.length_drop, List.length_set, List.length_replicate]; omega))) (fun x hx => ?_)) | (refine ObR.mk _ rfl ?_))) | ((with_reducible refine ObEq.i ?_); (focus (first | (with_reducible rfl) | omega))))
  obtain rfl : i = od.length := by omega
  rw [List.take_length] at h0
  repeat' ((conv => whnf); first | (with_reducible refine SeqP.go ?_) | ((with_reducible refine ObN.mk ?_ ?_); (focus (first | rfl | assumption | omega | (simp only [List.length_map, List.length_append, List.length_cons, List.length_nil]; omega) | (simp; done) | (simp; omega)))) | (with_reducible refine ObT.ff ?_) | ((with_reducible refine ObB.no ?_ ?_); (focus (first | assumption | omega))) | ((with_reducible refine (?_ : ObL _ _)); (refine ObL.mk _ (by first | exact (List.length_map _) | assumption | exact (List.length_map _).trans (by assumption) | exact List.length_map _ | rfl) ?_)) | ((with_reducible refine (?_ : ObR _ _ _)); (first | (refine ObR.mk _ (by assumption) ?_) | (refine ObR.mk _ (by with_reducible rfl) ?_) | (refine ObR.map (by (first | omega | assumption | (simp only [List.length_map, List.length_append, List.length_cons, List.length_nil, List.length_take, List.length_drop, List.length_set, List.length_replicate]; omega))) (fun x hx => ?_)) | (refine ObR.mk _ rfl ?_))))
  conv => whnf
  refine LoopP.go (α := Nat) (fun i => i ≤ l.length ∧ aI l i = true) (fun i => l.length - i) (fun i => [(2, some (I 0)), (2, none), (0, none), (1, none), (13, some (I i)), (0, none), (0, none), (0, none), (0, none), (0, none), (0, none), (0, none), (0, none), (0, none), (0, none), (0, none), (0, none), (0, none), (0, none), (0, none), (0, none), (0, none), (0, none), (0, none), (0, none)]) (fun _ => [⟨32, 3, [plA l rt od], 0, 0⟩]) 0 ⟨Nat.zero_le _, rfl⟩ (Fg.go ?_ rfl) ?_
  · repeat' ((conv => whnf); first | ((with_reducible refine ObEqs.mk ?_ ?_); (focus rfl)) | ((with_reducible refine ObEq1.i ?_ ?_); (focus (first | (with_reducible rfl) | omega))) | exact True.intro)
  rintro i ⟨hi, hai⟩
  by_cases hil : i < l.length
  · have hq := nA_at hil
    have hxo := hx _ (List.getElem_mem hil)
    have hs := aI_succ hil
    have hno := aI_no hil hil
    have hm := may29 G l[i] hxo
    have hrf := refs30 G l[i] hxo
    have hri := rf_i64 hxo
    have hrl := rf_len hxo
    rw [hai, Bool.true_and] at hs
    generalize l[i] = x at *
    by_cases hmz : mayV x = 0
    · rw [hmz] at hm
      repeat' ((conv => whnf); first | (with_reducible refine SeqP.go ?_) | ((with_reducible refine ObD.mk ?_ ?_); (focus (first | rfl | (simp; done)))) | ((with_reducible refine ObN.mk ?_ ?_); (focus (first | rfl | assumption | omega | (simp only [List.length_map, List.length_append, List.length_cons, List.length_nil]; omega) | (simp; done) | (simp; omega)))) | (with_reducible refine ObT.tt ?_) | (with_reducible refine ObT.ff ?_) | ((with_reducible refine ObB.yes ?_ ?_); (focus (first | assumption | (with_reducible rfl) | omega))) | ((with_reducible refine ObX.mk _ rfl ?_ ?_); (focus (first | omega | assumption | (simp only [List.length_map, List.length_append, List.length_cons, List.length_nil, List.length_take, List.length_drop, List.length_set, List.length_replicate]; omega)))) | ((with_reducible refine (?_ : ObL _ _)); (refine ObL.mk _ (by first | exact (List.length_map _) | assumption | exact (List.length_map _).trans (by assumption) | exact List.length_map _ | rfl) ?_)) | ((with_reducible refine (?_ : ObU _ _)); (refine ObU.mk _ (by first | assumption | ((conv => lhs; simp only [List.set_cons_zero, List.set_cons_succ, List.take_succ_cons, List.take_zero, List.drop_succ_cons, List.drop_zero, List.nil_append, List.cons_append, List.append_nil, List.take_nil, List.drop_nil]); try rfl) | rfl) ?_)) | ((with_reducible refine (?_ : ObR _ _ _)); (first | (refine ObR.mk _ (by assumption) ?_) | (refine ObR.mk _ (by with_reducible rfl) ?_) | (refine ObR.map (by (first | omega | assumption | (simp only [List.length_map, List.length_append, List.length_cons, List.length_nil, List.length_take, List.length_drop, List.length_set, List.length_replicate]; omega))) (fun x hx => ?_)) | (refine ObR.mk _ rfl ?_))) | ((with_reducible refine ObC.f 29 ?_); (first | (with_reducible refine ObC.mk _ (hm) ?_) | (refine ObC.mk _ (hm) ?_))) | ((with_reducible refine ObC.f 30 ?_); (first | (with_reducible refine ObC.mk _ (hrf) ?_) | (refine ObC.mk _ (hrf) ?_))))
      conv => whnf
      refine LoopP.go (α := Nat) (fun k => k ≤ (rfN x).length ∧ ((rfN x).take k).all (fun r => decide (-1 - r < (i : Int))) = true) (fun k => (rfN x).length - k) (fun k => [(2, some (I 0)), (3, none), (1, none), (24, some (I k)), (0, none), (0, none), (0, none), (0, none), (0, none), (0, none), (0, none), (0, none)]) (fun _ => [⟨32, 3, [plA l rt od], 0, 0⟩]) 0 ⟨Nat.zero_le _, rfl⟩ (Fg.vw [(0, 0, 0)] (by repeat' ((conv => whnf); first | ((with_reducible refine ObN.mk ?_ ?_); (focus (first | rfl | assumption | omega | (simp only [List.length_map, List.length_append, List.length_cons, List.length_nil]; omega) | (simp; done) | (simp; omega)))) | ((with_reducible refine ObRn.mk ?_ ?_); (focus (first | rfl | (simp [rnB, rnC, rnL]; done)))) | ((with_reducible refine ObEqs.mk ?_ ?_); (focus rfl)) | exact True.intro)) (by repeat' ((conv => whnf); first | ((with_reducible refine ObN.mk ?_ ?_); (focus (first | rfl | assumption | omega | (simp only [List.length_map, List.length_append, List.length_cons, List.length_nil]; omega) | (simp; done) | (simp; omega)))) | ((with_reducible refine ObRow.same ?_ ?_ ?_); (focus (first | rfl | assumption)); (focus (first | rfl | assumption | (simp; done)))) | exact True.intro)) (by simp) (by repeat' ((conv => whnf); first | exact True.intro))) ?_
      rintro k ⟨hk, hk0⟩
      by_cases hkr : k < (rfN x).length
      · have hq2 := iA_at' hkr
        have hr2 := hri _ (List.getElem_mem hkr)
        have hn := num31 G (rfN x)[k] hr2.1 hr2.2
        by_cases hz : -1 - (rfN x)[k] < (i : Int)
        · have h1 := all_tk (p := fun r => decide (-1 - r < (i : Int))) hkr hk0 (by simpa using hz)
          repeat' ((conv => whnf); first | (with_reducible refine SeqP.go ?_) | ((with_reducible refine ObN.mk ?_ ?_); (focus (first | rfl | assumption | omega | (simp only [List.length_map, List.length_append, List.length_cons, List.length_nil]; omega) | (simp; done) | (simp; omega)))) | (with_reducible refine ObT.tt ?_) | (with_reducible refine ObT.ff ?_) | ((with_reducible refine ObB.yes ?_ ?_); (focus (first | assumption | (with_reducible rfl) | omega))) | ((with_reducible refine ObB.no ?_ ?_); (focus (first | assumption | omega))) | ((with_reducible refine ObI.nl ?_ ?_); (focus omega)) | ((with_reducible refine ObX.mk _ rfl ?_ ?_); (focus (first | omega | assumption | (simp only [List.length_map, List.length_append, List.length_cons, List.length_nil, List.length_take, List.length_drop, List.length_set, List.length_replicate]; omega)))) | ((with_reducible refine (?_ : ObR _ _ _)); (first | (refine ObR.mk _ (by assumption) ?_) | (refine ObR.mk _ (by with_reducible rfl) ?_) | (refine ObR.map (by (first | omega | assumption | (simp only [List.length_map, List.length_append, List.length_cons, List.length_nil, List.length_take, List.length_drop, List.length_set, List.length_replicate]; omega))) (fun x hx => ?_)) | (refine ObR.mk _ rfl ?_))) | ((with_reducible refine ObC.f 31 ?_); (first | (with_reducible refine ObC.mk _ (hn) ?_) | (refine ObC.mk _ (hn) ?_))))
          conv => whnf
          refine Again.mk (k + 1) ⟨by omega, h1⟩ ?_ (Fg.go ?_ rfl)
          · omega
          repeat' ((conv => whnf); first | ((with_reducible refine ObEqs.mk ?_ ?_); (focus rfl)) | ((with_reducible refine ObEq1.i ?_ ?_); (focus (first | (with_reducible rfl) | omega))) | exact True.intro)
        · have h1 := all_no (p := fun r => decide (-1 - r < (i : Int))) hkr (by simpa using hz)
          obtain rfl : c = false := by rw [hc, okP, hno (by rw [okI, h1, Bool.and_false])]; simp
          simp only [eo]
          repeat' ((conv => whnf); first | (with_reducible refine SeqP.go ?_) | ((with_reducible refine ObN.mk ?_ ?_); (focus (first | rfl | assumption | omega | (simp only [List.length_map, List.length_append, List.length_cons, List.length_nil]; omega) | (simp; done) | (simp; omega)))) | (with_reducible refine ObT.tt ?_) | ((with_reducible refine ObB.yes ?_ ?_); (focus (first | assumption | (with_reducible rfl) | omega))) | ((with_reducible refine ObX.mk _ rfl ?_ ?_); (focus (first | omega | assumption | (simp only [List.length_map, List.length_append, List.length_cons, List.length_nil, List.length_take, List.length_drop, List.length_set, List.length_replicate]; omega)))) | ((with_reducible refine (?_ : ObR _ _ _)); (first | (refine ObR.mk _ (by assumption) ?_) | (refine ObR.mk _ (by with_reducible rfl) ?_) | (refine ObR.map (by (first | omega | assumption | (simp only [List.length_map, List.length_append, List.length_cons, List.length_nil, List.length_take, List.length_drop, List.length_set, List.length_replicate]; omega))) (fun x hx => ?_)) | (refine ObR.mk _ rfl ?_))) | ((with_reducible refine ObC.f 31 ?_); (first | (with_reducible refine ObC.mk _ (hn) ?_) | (refine ObC.mk _ (hn) ?_))) | ((with_reducible refine ObEq.i ?_); (focus (first | (with_reducible rfl) | omega))))
      · obtain rfl : k = (rfN x).length := by omega
        rw [List.take_length] at hk0
        have h2 : okI i x = true := by rw [okI, hk0, hmz]; rfl
        repeat' ((conv => whnf); first | (with_reducible refine SeqP.go ?_) | ((with_reducible refine ObN.mk ?_ ?_); (focus (first | rfl | assumption | omega | (simp only [List.length_map, List.length_append, List.length_cons, List.length_nil]; omega) | (simp; done) | (simp; omega)))) | (with_reducible refine ObT.ff ?_) | ((with_reducible refine ObB.no ?_ ?_); (focus (first | assumption | omega))) | ((with_reducible refine ObI.nl ?_ ?_); (focus omega)))
        conv => whnf
        refine Again.mk (i + 1) ⟨by omega, by rw [hs, h2]⟩ ?_ (Fg.go ?_ rfl)
        · omega
        repeat' ((conv => whnf); first | ((with_reducible refine ObEqs.mk ?_ ?_); (focus rfl)) | ((with_reducible refine ObEq1.i ?_ ?_); (focus (first | (with_reducible rfl) | omega))) | exact True.intro)
    · obtain rfl : c = false := by rw [hc, okP, hno (by rw [okI, decide_eq_false hmz, Bool.false_and])]; simp
      simp only [eo]
      repeat' ((conv => whnf); first | (with_reducible refine SeqP.go ?_) | ((with_reducible refine ObD.mk ?_ ?_); (focus (first | rfl | (simp; done)))) | ((with_reducible refine ObN.mk ?_ ?_); (focus (first | rfl | assumption | omega | (simp only [List.length_map, List.length_append, List.length_cons, List.length_nil]; omega) | (simp; done) | (simp; omega)))) | (with_reducible refine ObT.tt ?_) | ((with_reducible refine ObB.yes ?_ ?_); (focus (first | assumption | (with_reducible rfl) | omega))) | ((with_reducible refine ObB.no ?_ ?_); (focus (first | assumption | omega))) | ((with_reducible refine ObX.mk _ rfl ?_ ?_); (focus (first | omega | assumption | (simp only [List.length_map, List.length_append, List.length_cons, List.length_nil, List.length_take, List.length_drop, List.length_set, List.length_replicate]; omega)))) | ((with_reducible refine (?_ : ObU _ _)); (refine ObU.mk _ (by first | assumption | ((conv => lhs; simp only [List.set_cons_zero, List.set_cons_succ, List.take_succ_cons, List.take_zero, List.drop_succ_cons, List.drop_zero, List.nil_append, List.cons_append, List.append_nil, List.take_nil, List.drop_nil]); try rfl) | rfl) ?_)) | ((with_reducible refine (?_ : ObR _ _ _)); (first | (refine ObR.mk _ (by assumption) ?_) | (refine ObR.mk _ (by with_reducible rfl) ?_) | (refine ObR.map (by (first | omega | assumption | (simp only [List.length_map, List.length_append, List.length_cons, List.length_nil, List.length_take, List.length_drop, List.length_set, List.length_replicate]; omega))) (fun x hx => ?_)) | (refine ObR.mk _ rfl ?_))) | ((with_reducible refine ObC.f 29 ?_); (first | (with_reducible refine ObC.mk _ (hm) ?_) | (refine ObC.mk _ (hm) ?_))) | ((with_reducible refine ObEq.i ?_); (focus (first | (with_reducible rfl) | omega))))
  obtain rfl : i = l.length := by omega
  by_cases hz : -1 - rt < (l.length : Int)
  · obtain rfl : c = true := by rw [hc, okP, h0, hai]; simp [hz]
    simp only [eo]
    repeat' ((conv => whnf); first | (with_reducible refine SeqP.go ?_) | ((with_reducible refine ObD.mk ?_ ?_); (focus (first | rfl | (simp; done)))) | ((with_reducible refine ObN.mk ?_ ?_); (focus (first | rfl | assumption | omega | (simp only [List.length_map, List.length_append, List.length_cons, List.length_nil]; omega) | (simp; done) | (simp; omega)))) | (with_reducible refine ObT.ff ?_) | ((with_reducible refine ObB.no ?_ ?_); (focus (first | assumption | omega))) | ((with_reducible refine (?_ : ObL _ _)); (refine ObL.mk _ (by first | exact (List.length_map _) | assumption | exact (List.length_map _).trans (by assumption) | exact List.length_map _ | rfl) ?_)) | ((with_reducible refine (?_ : ObR _ _ _)); (first | (refine ObR.mk _ (by assumption) ?_) | (refine ObR.mk _ (by with_reducible rfl) ?_) | (refine ObR.map (by (first | omega | assumption | (simp only [List.length_map, List.length_append, List.length_cons, List.length_nil, List.length_take, List.length_drop, List.length_set, List.length_replicate]; omega))) (fun x hx => ?_)) | (refine ObR.mk _ rfl ?_))) | ((with_reducible refine ObC.f 31 ?_); (first | (with_reducible refine ObC.mk _ (hrt) ?_) | (refine ObC.mk _ (hrt) ?_))) | ((with_reducible refine ObEq.i ?_); (focus (first | (with_reducible rfl) | omega))))
  · obtain rfl : c = false := by rw [hc, okP, h0, hai]; simp [hz]
    simp only [eo]
    repeat' ((conv => whnf); first | (with_reducible refine SeqP.go ?_) | ((with_reducible refine ObD.mk ?_ ?_); (focus (first | rfl | (simp; done)))) | ((with_reducible refine ObN.mk ?_ ?_); (focus (first | rfl | assumption | omega | (simp only [List.length_map, List.length_append, List.length_cons, List.length_nil]; omega) | (simp; done) | (simp; omega)))) | (with_reducible refine ObT.tt ?_) | (with_reducible refine ObT.ff ?_) | ((with_reducible refine ObB.yes ?_ ?_); (focus (first | assumption | (with_reducible rfl) | omega))) | ((with_reducible refine ObB.no ?_ ?_); (focus (first | assumption | omega))) | ((with_reducible refine (?_ : ObL _ _)); (refine ObL.mk _ (by first | exact (List.length_map _) | assumption | exact (List.length_map _).trans (by assumption) | exact List.length_map _ | rfl) ?_)) | ((with_reducible refine (?_ : ObR _ _ _)); (first | (refine ObR.mk _ (by assumption) ?_) | (refine ObR.mk _ (by with_reducible rfl) ?_) | (refine ObR.map (by (first | omega | assumption | (simp only [List.length_map, List.length_append, List.length_cons, List.length_nil, List.length_take, List.length_drop, List.length_set, List.length_replicate]; omega))) (fun x hx => ?_)) | (refine ObR.mk _ rfl ?_))) | ((with_reducible refine ObC.f 31 ?_); (first | (with_reducible refine ObC.mk _ (hrt) ?_) | (refine ObC.mk _ (hrt) ?_))) | ((with_reducible refine ObEq.i ?_); (focus (first | (with_reducible rfl) | omega))))
end
end Go.Proofs.Ytnammfeiehikfaa.Sim
namespace Go.Proofs.Ytnammfeiehikfaa.Sim
open Go.RowKit
set_option maxRecDepth 100000
section
variable (G : Nat → AV)
set_option maxHeartbeats 4000000 in
theorem may12 (l : List Nd) (rt : Int) (od : List Int) (hl : l.length ≤ 1000) (hx : ∀ x ∈ l, x.Ok) (ho : od.length ≤ 1000) (c : Bool) (hc : c = okP l rt od) : PC Try.prog G 12 [plA l rt od] (Bo c) := by
  refine pc_ofV cop12 ?_
  repeat' ((conv => whnf); first | (with_reducible refine SeqP.go ?_) | ((with_reducible refine ObD.mk ?_ ?_); (focus (first | rfl | (simp; done)))))
  conv => whnf
  refine LoopP.go (α := Nat) (fun i => i ≤ l.length ∧ aI l i = true) (fun i => l.length - i) (fun i => [(2, some (Bo false)), (0, some (I i)), (0, none), (0, none), (1, none), (0, none), (0, none), (0, none), (0, none), (0, none), (0, none), (0, none), (0, none), (0, none), (0, none), (0, none), (0, none), (0, none), (0, none), (0, none), (0, none), (0, none), (0, none), (0, none), (0, none), (0, none), (0, none), (0, none), (0, none), (0, none), (0, none), (0, none), (0, none), (0, none), (0, none), (0, none), (0, none)]) (fun _ => [⟨26, 3, [plA l rt od], 0, 0⟩]) 0 ⟨Nat.zero_le _, rfl⟩ (Fg.go ?_ rfl) ?_
  · repeat' ((conv => whnf); first | ((with_reducible refine ObEqs.mk ?_ ?_); (focus rfl)) | ((with_reducible refine ObEq1.i ?_ ?_); (focus (first | (with_reducible rfl) | omega))) | ((with_reducible refine ObEq1.mk ?_ ?_); (focus (first | rfl | assumption))) | exact True.intro)
  rintro i ⟨hi, hai⟩
  by_cases hil : i < l.length
  · have hq := nA_at hil
    have hxo := hx _ (List.getElem_mem hil)
    have hs := aI_succ hil
    have hno := aI_no hil hil
    have hm := may33 G l[i] hxo
    have hrf := refs32 G l[i] hxo
    have hri := rf_i64 hxo
    have hrl := rf_len hxo
    rw [hai, Bool.true_and] at hs
    generalize l[i] = x at *
    repeat' ((conv => whnf); first | (with_reducible refine SeqP.go ?_) | ((with_reducible refine ObD.mk ?_ ?_); (focus (first | rfl | (simp; done)))) | ((with_reducible refine ObN.mk ?_ ?_); (focus (first | rfl | assumption | omega | (simp only [List.length_map, List.length_append, List.length_cons, List.length_nil]; omega) | (simp; done) | (simp; omega)))) | (with_reducible refine ObT.tt ?_) | ((with_reducible refine ObB.yes ?_ ?_); (focus (first | assumption | (with_reducible rfl) | omega))) | ((with_reducible refine ObX.mk _ rfl ?_ ?_); (focus (first | omega | assumption | (simp only [List.length_map, List.length_append, List.length_cons, List.length_nil, List.length_take, List.length_drop, List.length_set, List.length_replicate]; omega)))) | ((with_reducible refine (?_ : ObL _ _)); (refine ObL.mk _ (by first | exact (List.length_map _) | assumption | exact (List.length_map _).trans (by assumption) | exact List.length_map _ | rfl) ?_)) | ((with_reducible refine (?_ : ObR _ _ _)); (first | (refine ObR.mk _ (by assumption) ?_) | (refine ObR.mk _ (by with_reducible rfl) ?_) | (refine ObR.map (by (first | omega | assumption | (simp only [List.length_map, List.length_append, List.length_cons, List.length_nil, List.length_take, List.length_drop, List.length_set, List.length_replicate]; omega))) (fun x hx => ?_)) | (refine ObR.mk _ rfl ?_))) | ((with_reducible refine ObC.f 32 ?_); (first | (with_reducible refine ObC.mk _ (hrf) ?_) | (refine ObC.mk _ (hrf) ?_))))
    conv => whnf
    refine LoopP.go (α := Nat) (fun k => k ≤ (rfN x).length ∧ ((rfN x).take k).all (fun r => decide (-1 - r < (i : Int))) = true) (fun k => (rfN x).length - k) (fun k => [(2, some (Bo false)), (2, some (I k)), (14, none), (0, none), (0, none), (0, none), (0, none), (0, none), (0, none), (0, none), (0, none), (0, none), (0, none), (0, none), (0, none)]) (fun _ => [⟨26, 3, [plA l rt od], 0, 0⟩]) 0 ⟨Nat.zero_le _, rfl⟩ (Fg.go ?_ rfl) ?_
    · repeat' ((conv => whnf); first | ((with_reducible refine ObEqs.mk ?_ ?_); (focus rfl)) | ((with_reducible refine ObEq1.i ?_ ?_); (focus (first | (with_reducible rfl) | omega))) | ((with_reducible refine ObEq1.mk ?_ ?_); (focus (first | rfl | assumption))) | exact True.intro)
    rintro k ⟨hk, hk0⟩
    by_cases hkr : k < (rfN x).length
    · have hq2 := iA_at' hkr
      by_cases hz : -1 - (rfN x)[k] < (i : Int)
      · have h1 := all_tk (p := fun r => decide (-1 - r < (i : Int))) hkr hk0 (by simpa using hz)
        repeat' ((conv => whnf); first | (with_reducible refine SeqP.go ?_) | ((with_reducible refine ObN.mk ?_ ?_); (focus (first | rfl | assumption | omega | (simp only [List.length_map, List.length_append, List.length_cons, List.length_nil]; omega) | (simp; done) | (simp; omega)))) | (with_reducible refine ObT.tt ?_) | (with_reducible refine ObT.ff ?_) | ((with_reducible refine ObB.yes ?_ ?_); (focus (first | assumption | (with_reducible rfl) | omega))) | ((with_reducible refine ObB.no ?_ ?_); (focus (first | assumption | omega))) | ((with_reducible refine ObI.nl ?_ ?_); (focus omega)) | ((with_reducible refine ObI.mk _ rfl ?_ ?_ ?_); (focus omega); (focus omega)) | ((with_reducible refine ObX.mk _ rfl ?_ ?_); (focus (first | omega | assumption | (simp only [List.length_map, List.length_append, List.length_cons, List.length_nil, List.length_take, List.length_drop, List.length_set, List.length_replicate]; omega)))) | ((with_reducible refine (?_ : ObL _ _)); (refine ObL.mk _ (by first | exact (List.length_map _) | assumption | exact (List.length_map _).trans (by assumption) | exact List.length_map _ | rfl) ?_)) | ((with_reducible refine (?_ : ObR _ _ _)); (first | (refine ObR.mk _ (by assumption) ?_) | (refine ObR.mk _ (by with_reducible rfl) ?_) | (refine ObR.map (by (first | omega | assumption | (simp only [List.length_map, List.length_append, List.length_cons, List.length_nil, List.length_take, List.length_drop, List.length_set, List.length_replicate]; omega))) (fun x hx => ?_)) | (refine ObR.mk _ rfl ?_))))
        conv => whnf
        refine Again.mk (k + 1) ⟨by omega, h1⟩ ?_ (Fg.go ?_ rfl)
        · omega
        repeat' ((conv => whnf); first | ((with_reducible refine ObEqs.mk ?_ ?_); (focus rfl)) | ((with_reducible refine ObEq1.i ?_ ?_); (focus (first | (with_reducible rfl) | omega))) | ((with_reducible refine ObEq1.mk ?_ ?_); (focus (first | rfl | assumption))) | exact True.intro)
      · have h1 := all_no (p := fun r => decide (-1 - r < (i : Int))) hkr (by simpa using hz)
        obtain rfl : c = false := by rw [hc, okP, hno (by rw [okI, h1, Bool.and_false])]; simp
        repeat' ((conv => whnf); first | (with_reducible refine SeqP.go ?_) | ((with_reducible refine ObN.mk ?_ ?_); (focus (first | rfl | assumption | omega | (simp only [List.length_map, List.length_append, List.length_cons, List.length_nil]; omega) | (simp; done) | (simp; omega)))) | (with_reducible refine ObT.tt ?_) | ((with_reducible refine ObB.yes ?_ ?_); (focus (first | assumption | (with_reducible rfl) | omega))) | ((with_reducible refine ObI.mk _ rfl ?_ ?_ ?_); (focus omega); (focus omega)) | ((with_reducible refine ObX.mk _ rfl ?_ ?_); (focus (first | omega | assumption | (simp only [List.length_map, List.length_append, List.length_cons, List.length_nil, List.length_take, List.length_drop, List.length_set, List.length_replicate]; omega)))) | ((with_reducible refine (?_ : ObL _ _)); (refine ObL.mk _ (by first | exact (List.length_map _) | assumption | exact (List.length_map _).trans (by assumption) | exact List.length_map _ | rfl) ?_)) | ((with_reducible refine (?_ : ObR _ _ _)); (first | (refine ObR.mk _ (by assumption) ?_) | (refine ObR.mk _ (by with_reducible rfl) ?_) | (refine ObR.map (by (first | omega | assumption | (simp only [List.length_map, List.length_append, List.length_cons, List.length_nil, List.length_take, List.length_drop, List.length_set, List.length_replicate]; omega))) (fun x hx => ?_)) | (refine ObR.mk _ rfl ?_))) | ((with_reducible refine ObEq.mk ?_); (focus (first | rfl | assumption))))
    · obtain rfl : k = (rfN x).length := by omega
      rw [List.take_length] at hk0
      by_cases hmz : mayV x = 0
      · rw [hmz] at hm
        have h2 : okI i x = true := by rw [okI, hk0, hmz]; rfl
        repeat' ((conv => whnf); first | (with_reducible refine SeqP.go ?_) | ((with_reducible refine ObD.mk ?_ ?_); (focus (first | rfl | (simp; done)))) | ((with_reducible refine ObN.mk ?_ ?_); (focus (first | rfl | assumption | omega | (simp only [List.length_map, List.length_append, List.length_cons, List.length_nil]; omega) | (simp; done) | (simp; omega)))) | (with_reducible refine ObT.ff ?_) | ((with_reducible refine ObB.yes ?_ ?_); (focus (first | assumption | (with_reducible rfl) | omega))) | ((with_reducible refine ObB.no ?_ ?_); (focus (first | assumption | omega))) | ((with_reducible refine ObI.nl ?_ ?_); (focus omega)) | ((with_reducible refine ObX.mk _ rfl ?_ ?_); (focus (first | omega | assumption | (simp only [List.length_map, List.length_append, List.length_cons, List.length_nil, List.length_take, List.length_drop, List.length_set, List.length_replicate]; omega)))) | ((with_reducible refine (?_ : ObL _ _)); (refine ObL.mk _ (by first | exact (List.length_map _) | assumption | exact (List.length_map _).trans (by assumption) | exact List.length_map _ | rfl) ?_)) | ((with_reducible refine (?_ : ObR _ _ _)); (first | (refine ObR.mk _ (by assumption) ?_) | (refine ObR.mk _ (by with_reducible rfl) ?_) | (refine ObR.map (by (first | omega | assumption | (simp only [List.length_map, List.length_append, List.length_cons, List.length_nil, List.length_take, List.length_drop, List.length_set, List.length_replicate]; omega))) (fun x hx => ?_)) | (refine ObR.mk _ rfl ?_))) | ((with_reducible refine ObC.f 33 ?_); (first | (with_reducible refine ObC.mk _ (hm) ?_) | (refine ObC.mk _ (hm) ?_))))
        conv => whnf
        refine Again.mk (i + 1) ⟨by omega, by rw [hs, h2]⟩ ?_ (Fg.go ?_ rfl)
        · omega
        repeat' ((conv => whnf); first | ((with_reducible refine ObEqs.mk ?_ ?_); (focus rfl)) | ((with_reducible refine ObEq1.i ?_ ?_); (focus (first | (with_reducible rfl) | omega))) | ((with_reducible refine ObEq1.mk ?_ ?_); (focus (first | rfl | assumption))) | exact True.intro)
      · obtain rfl : c = false := by rw [hc, okP, hno (by rw [okI, decide_eq_false hmz, Bool.false_and])]; simp
        repeat' ((conv => whnf); first | (with_reducible refine SeqP.go ?_) | ((with_reducible refine ObD.mk ?_ ?_); (focus (first | rfl | (simp; done)))) | ((with_reducible refine ObN.mk ?_ ?_); (focus (first | rfl | assumption | omega | (simp only [List.length_map, List.length_append, List.length_cons, List.length_nil]; omega) | (simp; done) | (simp; omega)))) | (with_reducible refine ObT.tt ?_) | (with_reducible refine ObT.ff ?_) | ((with_reducible refine ObB.no ?_ ?_); (focus (first | assumption | omega))) | ((with_reducible refine ObX.mk _ rfl ?_ ?_); (focus (first | omega | assumption | (simp only [List.length_map, List.length_append, List.length_cons, List.length_nil, List.length_take, List.length_drop, List.length_set, List.length_replicate]; omega)))) | ((with_reducible refine (?_ : ObL _ _)); (refine ObL.mk _ (by first | exact (List.length_map _) | assumption | exact (List.length_map _).trans (by assumption) | exact List.length_map _ | rfl) ?_)) | ((with_reducible refine (?_ : ObR _ _ _)); (first | (refine ObR.mk _ (by assumption) ?_) | (refine ObR.mk _ (by with_reducible rfl) ?_) | (refine ObR.map (by (first | omega | assumption | (simp only [List.length_map, List.length_append, List.length_cons, List.length_nil, List.length_take, List.length_drop, List.length_set, List.length_replicate]; omega))) (fun x hx => ?_)) | (refine ObR.mk _ rfl ?_))) | ((with_reducible refine ObC.f 33 ?_); (first | (with_reducible refine ObC.mk _ (hm) ?_) | (refine ObC.mk _ (hm) ?_))) | ((with_reducible refine ObEq.mk ?_); (focus (first | rfl | assumption))))
  obtain rfl : i = l.length := by omega
  repeat' ((conv => whnf); first | (with_reducible refine SeqP.go ?_) | ((with_reducible refine ObN.mk ?_ ?_); (focus (first | rfl | assumption | omega | (simp only [List.length_map, List.length_append, List.length_cons, List.length_nil]; omega) | (simp; done) | (simp; omega)))) | (with_reducible refine ObT.ff ?_) | ((with_reducible refine ObB.no ?_ ?_); (focus (first | assumption | omega))) | ((with_reducible refine (?_ : ObL _ _)); (refine ObL.mk _ (by first | exact (List.length_map _) | assumption | exact (List.length_map _).trans (by assumption) | exact List.length_map _ | rfl) ?_)) | ((with_reducible refine (?_ : ObR _ _ _)); (first | (refine ObR.mk _ (by assumption) ?_) | (refine ObR.mk _ (by with_reducible rfl) ?_) | (refine ObR.map (by (first | omega | assumption | (simp only [List.length_map, List.length_append, List.length_cons, List.length_nil, List.length_take, List.length_drop, List.length_set, List.length_replicate]; omega))) (fun x hx => ?_)) | (refine ObR.mk _ rfl ?_))))
  conv => whnf
  refine LoopP.go (α := Nat) (fun i => i ≤ od.length ∧ (od.take i).all (fun r => decide (0 < r)) = true) (fun i => od.length - i) (fun i => [(2, some (Bo false)), (3, some (I i)), (33, none), (0, none), (0, none), (0, none), (0, none), (0, none), (0, none), (0, none), (0, none), (0, none), (0, none), (0, none), (0, none)]) (fun _ => [⟨26, 3, [plA l rt od], 0, 0⟩]) 0 ⟨Nat.zero_le _, rfl⟩ (Fg.go ?_ rfl) ?_
  · repeat' ((conv => whnf); first | ((with_reducible refine ObEqs.mk ?_ ?_); (focus rfl)) | ((with_reducible refine ObEq1.i ?_ ?_); (focus (first | (with_reducible rfl) | omega))) | ((with_reducible refine ObEq1.mk ?_ ?_); (focus (first | rfl | assumption))) | exact True.intro)
  rintro i ⟨hi, h0⟩
  by_cases hio : i < od.length
  · have hq := iA_at' hio
    by_cases hz : 0 < od[i]
    · have h1 := all_tk (p := fun r => decide (0 < r)) hio h0 (by simpa using hz)
      repeat' ((conv => whnf); first | (with_reducible refine SeqP.go ?_) | ((with_reducible refine ObN.mk ?_ ?_); (focus (first | rfl | assumption | omega | (simp only [List.length_map, List.length_append, List.length_cons, List.length_nil]; omega) | (simp; done) | (simp; omega)))) | (with_reducible refine ObT.tt ?_) | (with_reducible refine ObT.ff ?_) | ((with_reducible refine ObB.yes ?_ ?_); (focus (first | assumption | (with_reducible rfl) | omega))) | ((with_reducible refine ObB.no ?_ ?_); (focus (first | assumption | omega))) | ((with_reducible refine ObI.nl ?_ ?_); (focus omega)) | ((with_reducible refine ObX.mk _ rfl ?_ ?_); (focus (first | omega | assumption | (simp only [List.length_map, List.length_append, List.length_cons, List.length_nil, List.length_take, List.length_drop, List.length_set, List.length_replicate]; omega)))) | ((with_reducible refine (?_ : ObL _ _)); (refine ObL.mk _ (by first | exact (List.length_map _) | assumption | exact (List.length_map _).trans (by assumption) | exact List.length_map _ | rfl) ?_)) | ((with_reducible refine (?_ : ObR _ _ _)); (first | (refine ObR.mk _ (by assumption) ?_) | (refine ObR.mk _ (by with_reducible rfl) ?_) | (refine ObR.map (by (first | omega | assumption | (simp only [List.length_map, List.length_append, List.length_cons, List.length_nil, List.length_take, List.length_drop, List.length_set, List.length_replicate]; omega))) (fun x hx => ?_)) | (refine ObR.mk _ rfl ?_))))
      conv => whnf
      refine Again.mk (i + 1) ⟨by omega, h1⟩ ?_ (Fg.go ?_ rfl)
      · omega
      repeat' ((conv => whnf); first | ((with_reducible refine ObEqs.mk ?_ ?_); (focus rfl)) | ((with_reducible refine ObEq1.i ?_ ?_); (focus (first | (with_reducible rfl) | omega))) | ((with_reducible refine ObEq1.mk ?_ ?_); (focus (first | rfl | assumption))) | exact True.intro)
    · have h1 := all_no (p := fun r => decide (0 < r)) hio (by simpa using hz)
      obtain rfl : c = false := by rw [hc, okP, h1]; rfl
      repeat' ((conv => whnf); first | (with_reducible refine SeqP.go ?_) | ((with_reducible refine ObN.mk ?_ ?_); (focus (first | rfl | assumption | omega | (simp only [List.length_map, List.length_append, List.length_cons, List.length_nil]; omega) | (simp; done) | (simp; omega)))) | (with_reducible refine ObT.tt ?_) | ((with_reducible refine ObB.yes ?_ ?_); (focus (first | assumption | (with_reducible rfl) | omega))) | ((with_reducible refine ObX.mk _ rfl ?_ ?_); (focus (first | omega | assumption | (simp only [List.length_map, List.length_append, List.length_cons, List.length_nil, List.length_take, List.length_drop, List.length_set, List.length_replicate]; omega)))) | ((with_reducible refine (?_ : ObL _ _)); (refine ObL.mk _ (by first | exact (List.length_map _) | assumption | exact (List.length_map _).trans (by assumption) | exact List.length_map _ | rfl) ?_)) | ((with_reducible refine (?_ : ObR _ _ _)); (first | (refine ObR.mk _ (by assumption) ?_) | (refine ObR.mk _ (by with_reducible rfl) ?_) | (refine ObR.map (by (first | omega | assumption | (simp only [List.length_map, List.length_append, List.length_cons, List.length_nil, List.length_take, List.length_drop, List.length_set, List.length_replicate]; omega))) (fun x hx => ?_)) | (refine ObR.mk _ rfl ?_))) | ((with_reducible refine ObEq.mk ?_); (focus (first | rfl | assumption))))
  obtain rfl : i = od.length := by omega
  rw [List.take_length] at h0
  by_cases hz : -1 - rt < (l.length : Int)
  · obtain rfl : c = true := by rw [hc, okP, h0, hai]; simp [hz]
    repeat' ((conv => whnf); first | (with_reducible refine SeqP.go ?_) | ((with_reducible refine ObN.mk ?_ ?_); (focus (first | rfl | assumption | omega | (simp only [List.length_map, List.length_append, List.length_cons, List.length_nil]; omega) | (simp; done) | (simp; omega)))) | (with_reducible refine ObT.ff ?_) | ((with_reducible refine ObB.yes ?_ ?_); (focus (first | assumption | (with_reducible rfl) | omega))) | ((with_reducible refine ObB.no ?_ ?_); (focus (first | assumption | omega))) | ((with_reducible refine ObI.mk _ rfl ?_ ?_ ?_); (focus omega); (focus omega)) | ((with_reducible refine (?_ : ObL _ _)); (refine ObL.mk _ (by first | exact (List.length_map _) | assumption | exact (List.length_map _).trans (by assumption) | exact List.length_map _ | rfl) ?_)) | ((with_reducible refine (?_ : ObR _ _ _)); (first | (refine ObR.mk _ (by assumption) ?_) | (refine ObR.mk _ (by with_reducible rfl) ?_) | (refine ObR.map (by (first | omega | assumption | (simp only [List.length_map, List.length_append, List.length_cons, List.length_nil, List.length_take, List.length_drop, List.length_set, List.length_replicate]; omega))) (fun x hx => ?_)) | (refine ObR.mk _ rfl ?_))) | ((with_reducible refine ObEq.mk ?_); (focus (first | rfl | assumption | exact (by congr 2; exact decide_eq_true (by omega))))))
  · obtain rfl : c = false := by rw [hc, okP, h0, hai]; simp [hz]
    repeat' ((conv => whnf); first | (with_reducible refine SeqP.go ?_) | ((with_reducible refine ObN.mk ?_ ?_); (focus (first | rfl | assumption | omega | (simp only [List.length_map, List.length_append, List.length_cons, List.length_nil]; omega) | (simp; done) | (simp; omega)))) | (with_reducible refine ObT.ff ?_) | ((with_reducible refine ObB.no ?_ ?_); (focus (first | assumption | omega))) | ((with_reducible refine ObI.mk _ rfl ?_ ?_ ?_); (focus omega); (focus omega)) | ((with_reducible refine (?_ : ObL _ _)); (refine ObL.mk _ (by first | exact (List.length_map _) | assumption | exact (List.length_map _).trans (by assumption) | exact List.length_map _ | rfl) ?_)) | ((with_reducible refine (?_ : ObR _ _ _)); (first | (refine ObR.mk _ (by assumption) ?_) | (refine ObR.mk _ (by with_reducible rfl) ?_) | (refine ObR.map (by (first | omega | assumption | (simp only [List.length_map, List.length_append, List.length_cons, List.length_nil, List.length_take, List.length_drop, List.length_set, List.length_replicate]; omega))) (fun x hx => ?_)) | (refine ObR.mk _ rfl ?_))) | ((with_reducible refine ObEq.mk ?_); (focus (first | rfl | assumption | exact (by congr 2; exact decide_eq_false (by omega))))))
theorem back7 (l : List Nd) (rt : Int) (od : List Int) : PC Try.prog G 7 [plA l rt od] (plA l rt od) := by
  refine pc_ofV cop7 ?_
  repeat' ((conv => whnf); first | (with_reducible refine SeqP.go ?_) | ((with_reducible refine ObD.mk ?_ ?_); (focus (first | rfl | (simp; done)))) | ((with_reducible refine ObN.mk ?_ ?_); (focus (first | rfl | assumption | omega | (simp only [List.length_map, List.length_append, List.length_cons, List.length_nil]; omega) | (simp; done) | (simp; omega)))) | ((with_reducible refine (?_ : ObU _ _)); (refine ObU.mk _ (by first | assumption | ((conv => lhs; simp only [List.set_cons_zero, List.set_cons_succ, List.take_succ_cons, List.take_zero, List.drop_succ_cons, List.drop_zero, List.nil_append, List.cons_append, List.append_nil, List.take_nil, List.drop_nil]); try rfl) | rfl) ?_)) | ((with_reducible refine (?_ : ObR _ _ _)); (first | (refine ObR.mk _ (by assumption) ?_) | (refine ObR.mk _ (by with_reducible rfl) ?_) | (refine ObR.map (by (first | omega | assumption | (simp only [List.length_map, List.length_append, List.length_cons, List.length_nil, List.length_take, List.length_drop, List.length_set, List.length_replicate]; omega))) (fun x hx => ?_)) | (refine ObR.mk _ rfl ?_))) | ((with_reducible refine ObEq.mk ?_); (focus (first | rfl | assumption))))
theorem sameN (x : Nd) (h : x.Ok) : PC Try.prog G 20 [nA x, nA x] (Bo true) := by
  have h1 := h.ke
  have h2 := h.va
  have h3 := h.kk
  have h4 := h.ls
  exact same13 G _ _ _ _ _ _ _ _ _ _ _ _ _ _ _ _ _ _ (by omega) (by omega) (by omega) (by omega) (by omega) (by omega) (by omega) (by omega) true (by simp)
theorem heap13 (l : List Nd) (hl : l.length ≤ 1000) (hx : ∀ x ∈ l, x.Ok) : PC Try.prog G 13 [.sl 9 (l.map nA), .sl 9 (l.map nA)] (Bo true) := by
  refine pc_ofV cop13 ?_
  repeat' ((conv => whnf); first | (with_reducible refine SeqP.go ?_) | ((with_reducible refine ObN.mk ?_ ?_); (focus (first | rfl | assumption | omega | (simp only [List.length_map, List.length_append, List.length_cons, List.length_nil]; omega) | (simp; done) | (simp; omega)))) | (with_reducible refine ObT.ff ?_) | ((with_reducible refine ObB.yes ?_ ?_); (focus (first | assumption | (with_reducible rfl) | omega))) | ((with_reducible refine (?_ : ObL _ _)); (refine ObL.mk _ (by first | exact (List.length_map _) | assumption | exact (List.length_map _).trans (by assumption) | exact List.length_map _ | rfl) ?_)))
  conv => whnf
  refine LoopP.go (α := Nat) (fun i => i ≤ l.length) (fun i => l.length - i) (fun i => [(4, some (Bo false)), (0, some (I i)), (5, none), (0, none), (0, none), (0, none), (0, none), (0, none), (0, none), (0, none), (0, none), (0, none), (0, none), (0, none), (0, none), (0, none), (0, none), (0, none)]) (fun _ => []) 0 (Nat.zero_le _) (Fg.go ?_ rfl) ?_
  · repeat' ((conv => whnf); first | ((with_reducible refine ObEqs.mk ?_ ?_); (focus rfl)) | ((with_reducible refine ObEq1.i ?_ ?_); (focus (first | (with_reducible rfl) | omega))) | ((with_reducible refine ObEq1.mk ?_ ?_); (focus (first | rfl | assumption))) | exact True.intro)
  intro i hi
  by_cases hil : i < l.length
  · have hq := nA_at hil
    have hs := sameN G l[i] (hx _ (List.getElem_mem hil))
    generalize l[i] = x at *
    repeat' ((conv => whnf); first | (with_reducible refine SeqP.go ?_) | ((with_reducible refine ObD.mk ?_ ?_); (focus (first | rfl | (simp; done)))) | ((with_reducible refine ObN.mk ?_ ?_); (focus (first | rfl | assumption | omega | (simp only [List.length_map, List.length_append, List.length_cons, List.length_nil]; omega) | (simp; done) | (simp; omega)))) | (with_reducible refine ObT.tt ?_) | (with_reducible refine ObT.ff ?_) | ((with_reducible refine ObB.yes ?_ ?_); (focus (first | assumption | (with_reducible rfl) | omega))) | ((with_reducible refine ObI.nl ?_ ?_); (focus omega)) | ((with_reducible refine ObX.mk _ rfl ?_ ?_); (focus (first | omega | assumption | (simp only [List.length_map, List.length_append, List.length_cons, List.length_nil, List.length_take, List.length_drop, List.length_set, List.length_replicate]; omega)))) | ((with_reducible refine (?_ : ObL _ _)); (refine ObL.mk _ (by first | exact (List.length_map _) | assumption | exact (List.length_map _).trans (by assumption) | exact List.length_map _ | rfl) ?_)) | ((with_reducible refine (?_ : ObR _ _ _)); (first | (refine ObR.mk _ (by assumption) ?_) | (refine ObR.mk _ (by with_reducible rfl) ?_) | (refine ObR.map (by (first | omega | assumption | (simp only [List.length_map, List.length_append, List.length_cons, List.length_nil, List.length_take, List.length_drop, List.length_set, List.length_replicate]; omega))) (fun x hx => ?_)) | (refine ObR.mk _ rfl ?_))) | ((with_reducible refine ObC.f 20 ?_); (first | (with_reducible refine ObC.mk _ (hs) ?_) | (refine ObC.mk _ (hs) ?_))))
    conv => whnf
    refine Again.mk (i + 1) ?_ ?_ (Fg.go ?_ rfl)
    · omega
    · omega
    repeat' ((conv => whnf); first | ((with_reducible refine ObEqs.mk ?_ ?_); (focus rfl)) | ((with_reducible refine ObEq1.i ?_ ?_); (focus (first | (with_reducible rfl) | omega))) | ((with_reducible refine ObEq1.mk ?_ ?_); (focus (first | rfl | assumption))) | exact True.intro)
  · obtain rfl : i = l.length := by omega
    repeat' ((conv => whnf); first | (with_reducible refine SeqP.go ?_) | ((with_reducible refine ObN.mk ?_ ?_); (focus (first | rfl | assumption | omega | (simp only [List.length_map, List.length_append, List.length_cons, List.length_nil]; omega) | (simp; done) | (simp; omega)))) | (with_reducible refine ObT.ff ?_) | ((with_reducible refine ObB.no ?_ ?_); (focus (first | assumption | omega))) | ((with_reducible refine (?_ : ObL _ _)); (refine ObL.mk _ (by first | exact (List.length_map _) | assumption | exact (List.length_map _).trans (by assumption) | exact List.length_map _ | rfl) ?_)) | ((with_reducible refine ObEq.mk ?_); (focus (first | rfl | assumption))))
end
end Go.Proofs.Ytnammfeiehikfaa.Sim
namespace Go.Proofs.Ytnammfeiehikfaa.Sim
set_option maxRecDepth 100000
abbrev q0y7 : AI := (AI.mk (some 11) (AOp.fad 0 (AX.t 2)) none)
abbrev q1y7 : AI := (AI.mk (some 12) (AOp.load false 1 (AX.t 11)) none)
abbrev q2y7 : AI := (AI.mk (some 13) (AOp.callm 27 [(AX.t 12)]) none)
abbrev q3y7 : AI := (AI.mk (some 14) (AOp.load true 9 (AX.t 3)) none)
abbrev q4y7 : AI := (AI.mk (some 15) (AOp.call 28 [(AX.t 14)]) none)
abbrev q5y7 : AI := (AI.mk (some 16) (AOp.bsl 30 9 [(AX.t 15)]) none)
abbrev q6y7 : AI := (AI.mk (some 17) (AOp.app 30 9 120 (AX.t 13) (AX.t 16)) none)
abbrev q7y7 : AI := (AI.mk (some 18) (AOp.fad 1 (AX.t 2)) none)
abbrev q8y7 : AI := (AI.mk (some 19) (AOp.load false 1 (AX.t 18)) none)
abbrev q9y7 : AI := (AI.mk (some 20) (AOp.fad 2 (AX.t 2)) none)
abbrev q10y7 : AI := (AI.mk (some 21) (AOp.load false 1 (AX.t 20)) none)
abbrev q11y7 : AI := (AI.mk (some 22) (AOp.app 23 1 8 (AX.c (AV.nl 1)) (AX.t 21)) none)
abbrev q12y7 : AI := (AI.mk (some 23) (AOp.bld [(AV.nl 9), (AV.v (Value.int IntKind.i64 0)), (AV.nl 1)] [(0, (1, (AX.t 17))), (1, (1, (AX.t 19))), (2, (1, (AX.t 22)))]) none)
abbrev q13y7 : AI := (AI.mk (some 24) (AOp.mv (AX.t 6)) none)
abbrev q14y7 : AI := (AI.mk none (AOp.store 3 (AX.t 4) (AX.t 23)) none)
abbrev q15y7 : AI := (AI.mk (some 5) (AOp.mv (AX.t 24)) none)
def D10 : AF := (AF.mk 25 [(4, (some (true, 3))), (5, none)] (AC.seq (AC.region [(AI.mk (some 2) (AOp.new 32 3 (AX.t 0)) none), (AI.mk (some 3) (AOp.new 30 9 (AX.t 1)) none), (AI.mk (some 4) (AOp.new 32 3 (AX.c (AV.agg [(AV.nl 9), (AV.v (Value.int IntKind.i64 0)), (AV.nl 1)]))) none), (AI.mk (some 5) (AOp.mv (AX.c (AV.v (Value.int IntKind.i64 0)))) none)]) (AC.seq (AC.region [(AI.mk (some 7) (AOp.fad 0 (AX.t 2)) none), (AI.mk (some 8) (AOp.load false 1 (AX.t 7)) none), (AI.mk (some 9) (AOp.len (AX.t 8)) none), (AI.mk (some 10) (AOp.call 26 [(AX.t 9)]) none), (AI.mk (some 6) (AOp.mv (AX.t 10)) none)]) (AC.seq (AC.drawx [[q0y7, q1y7, q2y7, q3y7, q4y7, q5y7, q6y7, q7y7, q8y7, q9y7, q10y7, q11y7, q12y7, q13y7, q14y7, q15y7], [q0y7, q1y7, q2y7, q3y7, q4y7, q5y7, q6y7, q7y7, q9y7, q8y7, q10y7, q11y7, q12y7, q13y7, q14y7, q15y7], [q0y7, q1y7, q2y7, q3y7, q4y7, q5y7, q6y7, q7y7, q9y7, q10y7, q8y7, q11y7, q12y7, q13y7, q14y7, q15y7], [q0y7, q1y7, q2y7, q3y7, q4y7, q5y7, q6y7, q7y7, q9y7, q10y7, q11y7, q8y7, q12y7, q13y7, q14y7, q15y7], [q0y7, q1y7, q2y7, q3y7, q4y7, q5y7, q6y7, q9y7, q7y7, q8y7, q10y7, q11y7, q12y7, q13y7, q14y7, q15y7], [q0y7, q1y7, q2y7, q3y7, q4y7, q5y7, q6y7, q9y7, q7y7, q10y7, q8y7, q11y7, q12y7, q13y7, q14y7, q15y7], [q0y7, q1y7, q2y7, q3y7, q4y7, q5y7, q6y7, q9y7, q7y7, q10y7, q11y7, q8y7, q12y7, q13y7, q14y7, q15y7], [q0y7, q1y7, q2y7, q3y7, q4y7, q5y7, q6y7, q9y7, q10y7, q7y7, q8y7, q11y7, q12y7, q13y7, q14y7, q15y7], [q0y7, q1y7, q2y7, q3y7, q4y7, q5y7, q6y7, q9y7, q10y7, q7y7, q11y7, q8y7, q12y7, q13y7, q14y7, q15y7], [q0y7, q1y7, q2y7, q3y7, q4y7, q5y7, q6y7, q9y7, q10y7, q11y7, q7y7, q8y7, q12y7, q13y7, q14y7, q15y7], [q0y7, q1y7, q2y7, q3y7, q4y7, q5y7, q7y7, q6y7, q8y7, q9y7, q10y7, q11y7, q12y7, q13y7, q14y7, q15y7], [q0y7, q1y7, q2y7, q3y7, q4y7, q5y7, q7y7, q6y7, q9y7, q8y7, q10y7, q11y7, q12y7, q13y7, q14y7, q15y7], [q0y7, q1y7, q2y7, q3y7, q4y7, q5y7, q7y7, q6y7, q9y7, q10y7, q8y7, q11y7, q12y7, q13y7, q14y7, q15y7], [q0y7, q1y7, q2y7, q3y7, q4y7, q5y7, q7y7, q6y7, q9y7, q10y7, q11y7, q8y7, q12y7, q13y7, q14y7, q15y7], [q0y7, q1y7, q2y7, q3y7, q4y7, q5y7, q7y7, q8y7, q6y7, q9y7, q10y7, q11y7, q12y7, q13y7, q14y7, q15y7], [q0y7, q1y7, q2y7, q3y7, q4y7, q5y7, q7y7, q8y7, q9y7, q6y7, q10y7, q11y7, q12y7, q13y7, q14y7, q15y7], [q0y7, q1y7, q2y7, q3y7, q4y7, q5y7, q7y7, q8y7, q9y7, q10y7, q6y7, q11y7, q12y7, q13y7, q14y7, q15y7], [q0y7, q1y7, q2y7, q3y7, q4y7, q5y7, q7y7, q9y7, q6y7, q8y7, q10y7, q11y7, q12y7, q13y7, q14y7, q15y7], [q0y7, q1y7, q2y7, q3y7, q4y7, q5y7, q7y7, q9y7, q6y7, q10y7, q8y7, q11y7, q12y7, q13y7, q14y7, q15y7], [q0y7, q1y7, q2y7, q3y7, q4y7, q5y7, q7y7, q9y7, q6y7, q10y7, q11y7, q8y7, q12y7, q13y7, q14y7, q15y7], [q0y7, q1y7, q2y7, q3y7, q4y7, q5y7, q7y7, q9y7, q8y7, q6y7, q10y7, q11y7, q12y7, q13y7, q14y7, q15y7], [q0y7, q1y7, q2y7, q3y7, q4y7, q5y7, q7y7, q9y7, q8y7, q10y7, q6y7, q11y7, q12y7, q13y7, q14y7, q15y7], [q0y7, q1y7, q2y7, q3y7, q4y7, q5y7, q7y7, q9y7, q10y7, q6y7, q8y7, q11y7, q12y7, q13y7, q14y7, q15y7], [q0y7, q1y7, q2y7, q3y7, q4y7, q5y7, q7y7, q9y7, q10y7, q6y7, q11y7, q8y7, q12y7, q13y7, q14y7, q15y7], [q0y7, q1y7, q2y7, q3y7, q4y7, q5y7, q7y7, q9y7, q10y7, q8y7, q6y7, q11y7, q12y7, q13y7, q14y7, q15y7], [q0y7, q1y7, q2y7, q3y7, q4y7, q5y7, q9y7, q6y7, q7y7, q8y7, q10y7, q11y7, q12y7, q13y7, q14y7, q15y7], [q0y7, q1y7, q2y7, q3y7, q4y7, q5y7, q9y7, q6y7, q7y7, q10y7, q8y7, q11y7, q12y7, q13y7, q14y7, q15y7], [q0y7, q1y7, q2y7, q3y7, q4y7, q5y7, q9y7, q6y7, q7y7, q10y7, q11y7, q8y7, q12y7, q13y7, q14y7, q15y7], [q0y7, q1y7, q2y7, q3y7, q4y7, q5y7, q9y7, q6y7, q10y7, q7y7, q8y7, q11y7, q12y7, q13y7, q14y7, q15y7], [q0y7, q1y7, q2y7, q3y7, q4y7, q5y7, q9y7, q6y7, q10y7, q7y7, q11y7, q8y7, q12y7, q13y7, q14y7, q15y7], [q0y7, q1y7, q2y7, q3y7, q4y7, q5y7, q9y7, q6y7, q10y7, q11y7, q7y7, q8y7, q12y7, q13y7, q14y7, q15y7], [q0y7, q1y7, q2y7, q3y7, q4y7, q5y7, q9y7, q7y7, q6y7, q8y7, q10y7, q11y7, q12y7, q13y7, q14y7, q15y7], [q0y7, q1y7, q2y7, q3y7, q4y7, q5y7, q9y7, q7y7, q6y7, q10y7, q8y7, q11y7, q12y7, q13y7, q14y7, q15y7], [q0y7, q1y7, q2y7, q3y7, q4y7, q5y7, q9y7, q7y7, q6y7, q10y7, q11y7, q8y7, q12y7, q13y7, q14y7, q15y7], [q0y7, q1y7, q2y7, q3y7, q4y7, q5y7, q9y7, q7y7, q8y7, q6y7, q10y7, q11y7, q12y7, q13y7, q14y7, q15y7], [q0y7, q1y7, q2y7, q3y7, q4y7, q5y7, q9y7, q7y7, q8y7, q10y7, q6y7, q11y7, q12y7, q13y7, q14y7, q15y7], [q0y7, q1y7, q2y7, q3y7, q4y7, q5y7, q9y7, q7y7, q10y7, q6y7, q8y7, q11y7, q12y7, q13y7, q14y7, q15y7], [q0y7, q1y7, q2y7, q3y7, q4y7, q5y7, q9y7, q7y7, q10y7, q6y7, q11y7, q8y7, q12y7, q13y7, q14y7, q15y7], [q0y7, q1y7, q2y7, q3y7, q4y7, q5y7, q9y7, q7y7, q10y7, q8y7, q6y7, q11y7, q12y7, q13y7, q14y7, q15y7], [q0y7, q1y7, q2y7, q3y7, q4y7, q5y7, q9y7, q10y7, q6y7, q7y7, q8y7, q11y7, q12y7, q13y7, q14y7, q15y7], [q0y7, q1y7, q2y7, q3y7, q4y7, q5y7, q9y7, q10y7, q6y7, q7y7, q11y7, q8y7, q12y7, q13y7, q14y7, q15y7], [q0y7, q1y7, q2y7, q3y7, q4y7, q5y7, q9y7, q10y7, q6y7, q11y7, q7y7, q8y7, q12y7, q13y7, q14y7, q15y7], [q0y7, q1y7, q2y7, q3y7, q4y7, q5y7, q9y7, q10y7, q7y7, q6y7, q8y7, q11y7, q12y7, q13y7, q14y7, q15y7], [q0y7, q1y7, q2y7, q3y7, q4y7, q5y7, q9y7, q10y7, q7y7, q6y7, q11y7, q8y7, q12y7, q13y7, q14y7, q15y7], [q0y7, q1y7, q2y7, q3y7, q4y7, q5y7, q9y7, q10y7, q7y7, q8y7, q6y7, q11y7, q12y7, q13y7, q14y7, q15y7]]) AC.ret))))
theorem fop10 : copF Try.prog [1000027,39,42,46,66,67,70,71,72,73,74] 10 = some D10 := by kernel_rfl
end Go.Proofs.Ytnammfeiehikfaa.Sim
namespace Go.Proofs.Ytnammfeiehikfaa.Sim
open Go.RowKit
set_option maxRecDepth 100000
structure Nd.Wd (x : Nd) : Prop where
  mp : x.mp < 4294967296
  ke : x.ke.size ≤ 9223372036854775807
  va : x.va.size ≤ 9223372036854775807
  kk : x.kk.length ≤ 9223372036854775807
  ls : x.ls.length ≤ 9223372036854775807
  sz : ∀ p ∈ x.ls, p.1.size ≤ 9223372036854775807 ∧ p.2.size ≤ 9223372036854775807
  mn : i64 x.mn
  ks : ∀ r ∈ x.kk, i64 r
def fewX (x : Nd) : Nd := ⟨x.kn, cutB x.ke 40, cutB x.va 40, x.mp, few1 x.kk, x.mn, few x.ls, x.sz, x.bi⟩
theorem fewX_ok {x : Nd} (h : x.Wd) : (fewX x).Ok :=
  ⟨h.mp, cutB_size _, cutB_size _, by show (few1 x.kk).length ≤ 40; rw [few1_len]; omega, few_len _, few_sizes, h.mn, fun r hr => h.ks r (List.mem_of_mem_take hr)⟩
section
variable (G : Nat → AV)
theorem few9 (x : Nd) (h : x.Wd) : PC Try.prog G 9 [nA x] (nA (fewX x)) := fewN G x.kn x.ke x.va x.mp x.kk x.mn x.ls x.sz x.bi h.ke h.va h.kk h.ls h.sz
theorem few9s (x : Nd) (h : x.Ok) : PC Try.prog G 9 [nA x] (nA x) := fewS G x.kn x.ke x.va x.mp x.kk x.mn x.ls x.sz x.bi h.ke h.va h.kk h.ls h.sz
end
theorem Nd.Ok.wd {x : Nd} (h : x.Ok) : x.Wd := ⟨h.mp, by have := h.ke; omega, by have := h.va; omega, by have := h.kk; omega, by have := h.ls; omega, fun p hp => by have := h.sz p hp; omega, h.mn, h.ks⟩
theorem fewX_eq {x : Nd} (h : x.Ok) : fewX x = x := by
  obtain ⟨kn, ke, va, mp, kk, mn, ls, sz, bi⟩ := x
  have h1 := h.ke; have h2 := h.va; have h3 := h.kk; have h4 := h.ls; have h5 := h.sz
  dsimp only at h1 h2 h3 h4 h5
  simp only [fewX, cutB_short h1, cutB_short h2, few1_short h3, few_short h4 h5]
def nS (m : Nat) (a : List Nd) : AV := match a with | [] => .nl 9 | x :: t => .ol m 0 (t.length + 1)
def nH (a : List Nd) : Hp := match a with | [] => [] | x :: t => [⟨30, 9, (x :: t).map nA, 0, 0⟩]
theorem nr_n (l : List Nd) : (l.map nA).all nrB = true := by simp [nrB, AV.cells]
theorem p_n (l : List Nd) : (l.map nA).all AV.isP = true := by simp [AV.isP, AV.isC, AV.isC0]
theorem n_snoc {l : List Nd} {x : Nd} : (l.map nA).take l.length ++ [nA x] = (l ++ [x]).map nA := by
  rw [List.take_of_length_le (by simp)]; simp
theorem n_all {l : List Nd} : (l.map nA).take l.length = l.map nA := List.take_of_length_le (by simp)
theorem fx_snoc {l : List Nd} {i : Nat} (h : i < l.length) : (l.take i).map fewX ++ [fewX l[i]] = (l.take (i + 1)).map fewX := by
  rw [List.take_succ_eq_append_getElem h, List.map_append]; rfl
section
variable (G : Nat → AV)
set_option maxHeartbeats 2000000 in
theorem give8 (l : List Nd) (rt : Int) (od : List Int) (hl : l.length ≤ 9223372036854775807) (hx : ∀ x ∈ l, x.Wd) (ho : od.length ≤ 9223372036854775807) : PC Try.prog G 8 [plA l rt od] (plA ((l.take 12).map fewX) rt (od.take 20)) := by
  refine pc_ofV cop8 ?_
  repeat' ((conv => whnf); first | (with_reducible refine SeqP.go ?_) | ((with_reducible refine ObD.mk ?_ ?_); (focus (first | rfl | (simp; done)))) | ((with_reducible refine ObN.mk ?_ ?_); (focus (first | rfl | assumption | omega | (simp only [List.length_map, List.length_append, List.length_cons, List.length_nil]; omega) | (simp; done) | (simp; omega)))) | ((with_reducible refine (?_ : ObU _ _)); (refine ObU.mk _ (by first | assumption | ((conv => lhs; simp only [List.set_cons_zero, List.set_cons_succ, List.take_succ_cons, List.take_zero, List.drop_succ_cons, List.drop_zero, List.nil_append, List.cons_append, List.append_nil, List.take_nil, List.drop_nil]); try rfl) | rfl) ?_)) | ((with_reducible refine (?_ : ObR _ _ _)); (first | (refine ObR.mk _ (by assumption) ?_) | (refine ObR.mk _ (by with_reducible rfl) ?_) | (refine ObR.map (by (first | omega | assumption | (simp only [List.length_map, List.length_append, List.length_cons, List.length_nil, List.length_take, List.length_drop, List.length_set, List.length_replicate]; omega))) (fun x hx => ?_)) | (refine ObR.mk _ rfl ?_))))
  conv => whnf
  refine LoopP.go (α := Nat × List Nd) (fun p => p.1 ≤ l.length ∧ p.1 ≤ 12 ∧ p.2 = (l.take p.1).map fewX) (fun p => l.length - p.1) (fun p => [(4, some (I p.1)), (3, none), (0, none), (0, none), (0, none), (0, none), (0, none), (0, none), (0, none), (0, none), (0, none), (0, none), (0, none), (0, none), (0, none), (0, none), (0, none), (0, none), (0, none), (0, none), (0, none), (0, none), (0, none)]) (fun p => [⟨26, 3, [plA l rt od], 0, 0⟩, ⟨32, 3, [.agg [.nl 9, I 0, .nl 1]], 0, 0⟩, ⟨32, 3, [.agg [nS 3 p.2, I rt, .nl 1]], 0, 0⟩] ++ nH p.2) (0, []) ⟨Nat.zero_le _, Nat.zero_le _, rfl⟩ (Fg.go ?_ rfl) ?_
  · repeat' ((conv => whnf); first | ((with_reducible refine ObEqs.mk ?_ ?_); (focus rfl)) | ((with_reducible refine ObEq1.i ?_ ?_); (focus (first | (with_reducible rfl) | omega))) | exact True.intro)
  rintro ⟨i, o⟩ ⟨hi, hi2, hoo⟩
  dsimp only at hi hi2 hoo ⊢
  have hol : o.length = i := by rw [hoo, List.length_map, List.length_take]; omega
  by_cases hil : i < l.length ∧ i < 12
  · obtain ⟨hil, hil2⟩ := hil
    have hq := nA_at hil
    have hsn := fx_snoc hil
    have hf := few9 G l[i] (hx _ (List.getElem_mem hil))
    generalize fewX l[i] = y at *
    generalize l[i] = x at *
    have r1 := nr_n (o ++ [y])
    cases o with
    | nil =>
      repeat' ((conv => whnf); first | (with_reducible refine SeqP.go ?_) | ((with_reducible refine ObD.mk ?_ ?_); (focus (first | rfl | (simp; done)))) | ((with_reducible refine ObN.mk ?_ ?_); (focus (first | rfl | assumption | omega | (simp only [List.length_map, List.length_append, List.length_cons, List.length_nil]; omega) | (simp; done) | (simp; omega)))) | (with_reducible refine ObT.tt ?_) | ((with_reducible refine ObB.yes ?_ ?_); (focus (first | assumption | (with_reducible rfl) | omega))) | ((with_reducible refine ObI.nl ?_ ?_); (focus omega)) | ((with_reducible refine ObX.mk _ rfl ?_ ?_); (focus (first | omega | assumption | (simp only [List.length_map, List.length_append, List.length_cons, List.length_nil, List.length_take, List.length_drop, List.length_set, List.length_replicate]; omega)))) | ((with_reducible refine (?_ : ObL _ _)); (refine ObL.mk _ (by first | exact (List.length_map _) | assumption | exact (List.length_map _).trans (by assumption) | exact List.length_map _ | rfl) ?_)) | ((with_reducible refine (?_ : ObU _ _)); (refine ObU.mk _ (by first | assumption | ((conv => lhs; simp only [List.set_cons_zero, List.set_cons_succ, List.take_succ_cons, List.take_zero, List.drop_succ_cons, List.drop_zero, List.nil_append, List.cons_append, List.append_nil, List.take_nil, List.drop_nil]); try rfl) | rfl) ?_)) | ((with_reducible refine (?_ : ObR _ _ _)); (first | (refine ObR.mk _ (by assumption) ?_) | (refine ObR.mk _ (by with_reducible rfl) ?_) | (refine ObR.map (by (first | omega | assumption | (simp only [List.length_map, List.length_append, List.length_cons, List.length_nil, List.length_take, List.length_drop, List.length_set, List.length_replicate]; omega))) (fun x hx => ?_)) | (refine ObR.mk _ rfl ?_))) | ((with_reducible refine ObC.f 9 ?_); (first | (with_reducible refine ObC.mk _ (hf) ?_) | (refine ObC.mk _ (hf) ?_))) | ((with_reducible refine ObW.cons ?_ ?_); (focus (first | assumption | (simp; done)))))
      conv => whnf
      refine Again.mk (i + 1, [y]) ?_ ?_ (Fg.vw [(0, 0, 0), (0, 1, 0), (0, 2, 0), (0, 4, 0)] ?_ ?_ (by simp) ?_)
      · exact ⟨by dsimp only; omega, by dsimp only; omega, by rw [← hsn, ← hoo]; rfl⟩
      · dsimp only; omega
      all_goals repeat' ((conv => whnf); first | ((with_reducible refine ObRow.lit ?_ ?_); (focus (simp [rnB, rnC, rnL, AV.cells, nS]; done))) | ((with_reducible refine ObN.mk ?_ ?_); (focus (first | rfl | assumption | omega | (simp only [List.length_map, List.length_append, List.length_cons, List.length_nil]; omega) | (simp; done) | (simp; omega)))) | ((with_reducible refine ObRn.mk ?_ ?_); (focus (first | rfl | (simp [rnB, rnC, rnL]; done)))) | ((with_reducible refine ObEqs.mk ?_ ?_); (focus rfl)) | exact True.intro)
    | cons o0 ot =>
      have hol' : ot.length + 1 = i := hol
      have us : ((o0 :: ot).map nA).take (ot.length + 1) ++ [nA y] = ((o0 :: ot) ++ [y]).map nA := n_snoc (l := o0 :: ot)
      repeat' ((conv => whnf); first | (with_reducible refine SeqP.go ?_) | ((with_reducible refine ObD.mk ?_ ?_); (focus (first | rfl | (simp; done)))) | ((with_reducible refine ObN.mk ?_ ?_); (focus (first | rfl | assumption | omega | (simp only [List.length_map, List.length_append, List.length_cons, List.length_nil]; omega) | (simp; done) | (simp; omega)))) | (with_reducible refine ObT.tt ?_) | ((with_reducible refine ObB.yes ?_ ?_); (focus (first | assumption | (with_reducible rfl) | omega))) | ((with_reducible refine ObI.nl ?_ ?_); (focus omega)) | ((with_reducible refine ObX.mk _ rfl ?_ ?_); (focus (first | omega | assumption | (simp only [List.length_map, List.length_append, List.length_cons, List.length_nil, List.length_take, List.length_drop, List.length_set, List.length_replicate]; omega)))) | ((with_reducible refine (?_ : ObL _ _)); (refine ObL.mk _ (by first | exact (List.length_map _) | assumption | exact (List.length_map _).trans (by assumption) | exact List.length_map _ | rfl) ?_)) | ((with_reducible refine (?_ : ObU _ _)); (refine ObU.mk _ (by first | exact us | assumption | ((conv => lhs; simp only [List.set_cons_zero, List.set_cons_succ, List.take_succ_cons, List.take_zero, List.drop_succ_cons, List.drop_zero, List.nil_append, List.cons_append, List.append_nil, List.take_nil, List.drop_nil]); try rfl) | rfl) ?_)) | ((with_reducible refine (?_ : ObR _ _ _)); (first | (refine ObR.mk _ (by assumption) ?_) | (refine ObR.mk _ (by with_reducible rfl) ?_) | (refine ObR.map (by (first | omega | assumption | (simp only [List.length_map, List.length_append, List.length_cons, List.length_nil, List.length_take, List.length_drop, List.length_set, List.length_replicate]; omega))) (fun x hx => ?_)) | (refine ObR.mk _ rfl ?_))) | ((with_reducible refine ObC.f 9 ?_); (first | (with_reducible refine ObC.mk _ (hf) ?_) | (refine ObC.mk _ (hf) ?_))))
      conv => whnf
      refine Again.mk (i + 1, (o0 :: ot) ++ [y]) ?_ ?_ (Fg.vw [(0, 0, 0), (0, 1, 0), (0, 2, 0), (0, 3, 1)] ?_ ?_ (by simp) ?_)
      · exact ⟨by dsimp only; omega, by dsimp only; omega, by rw [← hsn, ← hoo]⟩
      · dsimp only; omega
      all_goals repeat' ((conv => whnf); first | ((with_reducible refine ObRow.lit ?_ ?_); (focus (simp [rnB, rnC, rnL, AV.cells, nS]; done))) | ((with_reducible refine ObN.mk ?_ ?_); (focus (first | rfl | assumption | omega | (simp only [List.length_map, List.length_append, List.length_cons, List.length_nil]; omega) | (simp; done) | (simp; omega)))) | ((with_reducible refine ObRn.mk ?_ ?_); (focus (first | rfl | (simp [rnB, rnC, rnL]; done)))) | ((with_reducible refine ObEqs.mk ?_ ?_); (focus rfl)) | exact True.intro)
  · have ho' : o = (l.take 12).map fewX := by
      rw [hoo]
      rcases Nat.lt_or_ge i l.length with h | h
      · rw [show i = 12 by omega]
      · rw [List.take_of_length_le h, List.take_of_length_le (by omega)]
    have htk := @tk_min od
    have htl : (od.take 20).length ≤ 20 := by rw [List.length_take]; omega
    have hlt : min od.length 20 = (od.take 20).length := by rw [List.length_take]; omega
    rw [← ho']
    have hor : i = l.length ∨ (i < l.length ∧ i = 12) := by omega
    generalize od.take 20 = T at *
    rcases o with _ | ⟨o0, ot⟩ <;> rcases T with _ | ⟨t0, tt⟩ <;> rcases hor with hor | ⟨hor, hor2⟩
    all_goals try (exfalso; simp only [List.length_nil] at hol; omega)
    · repeat' ((conv => whnf); first | (with_reducible refine SeqP.go ?_) | (rw [min20]) | ((with_reducible refine ObD.mk ?_ ?_); (focus (first | rfl | (simp; done)))) | ((with_reducible refine ObN.mk ?_ ?_); (focus (first | rfl | assumption | omega | (simp only [List.length_map, List.length_append, List.length_cons, List.length_nil]; omega) | (simp; done) | (simp; omega)))) | (with_reducible refine ObT.ff ?_) | ((with_reducible refine ObB.no ?_ ?_); (focus (first | assumption | omega))) | (with_reducible refine ObZ.mk _ rfl ?_) | ((with_reducible refine (?_ : ObL _ _)); (refine ObL.mk _ (by first | exact (List.length_map _) | assumption | exact (List.length_map _).trans (by assumption) | exact List.length_map _ | rfl) ?_)) | ((with_reducible refine (?_ : ObU _ _)); (refine ObU.mk _ (by first | exact htk | assumption | ((conv => lhs; simp only [List.set_cons_zero, List.set_cons_succ, List.take_succ_cons, List.take_zero, List.drop_succ_cons, List.drop_zero, List.nil_append, List.cons_append, List.append_nil, List.take_nil, List.drop_nil]); try rfl) | rfl) ?_)) | ((with_reducible refine (?_ : ObR _ _ _)); (first | (refine ObR.mk _ (by assumption) ?_) | (refine ObR.mk _ (by with_reducible rfl) ?_) | (refine ObR.map (by (first | omega | assumption | (simp only [List.length_map, List.length_append, List.length_cons, List.length_nil, List.length_take, List.length_drop, List.length_set, List.length_replicate]; omega))) (fun x hx => ?_)) | (refine ObR.mk _ rfl ?_))) | ((with_reducible refine ObW.nil ?_ ?_); (focus (first | rfl | assumption))) | ((with_reducible refine ObJ.zn ?_ ?_); (focus (first | omega | assumption | (simp only [List.length_map, List.length_append, List.length_cons, List.length_nil, List.length_take, List.length_drop, List.length_set, List.length_replicate]; omega)))) | ((with_reducible refine ObEq.mk ?_); (focus (first | rfl | assumption))) | (with_reducible refine ObE.min ?_))
    · have ta : ((t0 :: tt).map iA).take (tt.length + 1) = (t0 :: tt).map iA := i_all (l := t0 :: tt)
      have tp := p_i (t0 :: tt)
      have htl' : tt.length + 1 ≤ 20 := htl
      repeat' ((conv => whnf); first | (with_reducible refine SeqP.go ?_) | (rw [min20]) | ((with_reducible refine ObD.mk ?_ ?_); (focus (first | rfl | (simp; done)))) | ((with_reducible refine ObN.mk ?_ ?_); (focus (first | rfl | assumption | omega | (simp only [List.length_map, List.length_append, List.length_cons, List.length_nil]; omega) | (simp; done) | (simp; omega)))) | (with_reducible refine ObT.ff ?_) | ((with_reducible refine ObB.no ?_ ?_); (focus (first | assumption | omega))) | (with_reducible refine ObZ.mk _ rfl ?_) | ((with_reducible refine (?_ : ObL _ _)); (refine ObL.mk _ (by first | exact (List.length_map _) | assumption | exact (List.length_map _).trans (by assumption) | exact List.length_map _ | rfl) ?_)) | ((with_reducible refine (?_ : ObU _ _)); (refine ObU.mk _ (by first | exact htk | exact ta | assumption | ((conv => lhs; simp only [List.set_cons_zero, List.set_cons_succ, List.take_succ_cons, List.take_zero, List.drop_succ_cons, List.drop_zero, List.nil_append, List.cons_append, List.append_nil, List.take_nil, List.drop_nil]); try rfl) | rfl) ?_)) | ((with_reducible refine (?_ : ObR _ _ _)); (first | (refine ObR.mk _ (by assumption) ?_) | (refine ObR.mk _ (by with_reducible rfl) ?_) | (refine ObR.map (by (first | omega | assumption | (simp only [List.length_map, List.length_append, List.length_cons, List.length_nil, List.length_take, List.length_drop, List.length_set, List.length_replicate]; omega))) (fun x hx => ?_)) | (refine ObR.mk _ rfl ?_))) | ((with_reducible refine ObW.cons ?_ ?_); (focus (first | assumption | (simp; done)))) | ((with_reducible refine ObJ.zn ?_ ?_); (focus (first | omega | assumption | (simp only [List.length_map, List.length_append, List.length_cons, List.length_nil, List.length_take, List.length_drop, List.length_set, List.length_replicate]; omega)))) | ((with_reducible refine ObEq.mk ?_); (focus (first | rfl | assumption))) | (with_reducible refine ObE.min ?_))
    all_goals
      have oa : ((o0 :: ot).map nA).take (ot.length + 1) = (o0 :: ot).map nA := n_all (l := o0 :: ot)
      have op := p_n (o0 :: ot)
    · repeat' ((conv => whnf); first | (with_reducible refine SeqP.go ?_) | (rw [min20]) | ((with_reducible refine ObD.mk ?_ ?_); (focus (first | rfl | (simp; done)))) | ((with_reducible refine ObN.mk ?_ ?_); (focus (first | rfl | assumption | omega | (simp only [List.length_map, List.length_append, List.length_cons, List.length_nil]; omega) | (simp; done) | (simp; omega)))) | (with_reducible refine ObT.ff ?_) | ((with_reducible refine ObB.no ?_ ?_); (focus (first | assumption | omega))) | (with_reducible refine ObZ.mk _ rfl ?_) | ((with_reducible refine (?_ : ObL _ _)); (refine ObL.mk _ (by first | exact (List.length_map _) | assumption | exact (List.length_map _).trans (by assumption) | exact List.length_map _ | rfl) ?_)) | ((with_reducible refine (?_ : ObU _ _)); (refine ObU.mk _ (by first | exact htk | exact oa | assumption | ((conv => lhs; simp only [List.set_cons_zero, List.set_cons_succ, List.take_succ_cons, List.take_zero, List.drop_succ_cons, List.drop_zero, List.nil_append, List.cons_append, List.append_nil, List.take_nil, List.drop_nil]); try rfl) | rfl) ?_)) | ((with_reducible refine (?_ : ObR _ _ _)); (first | (refine ObR.mk _ (by assumption) ?_) | (refine ObR.mk _ (by with_reducible rfl) ?_) | (refine ObR.map (by (first | omega | assumption | (simp only [List.length_map, List.length_append, List.length_cons, List.length_nil, List.length_take, List.length_drop, List.length_set, List.length_replicate]; omega))) (fun x hx => ?_)) | (refine ObR.mk _ rfl ?_))) | ((with_reducible refine ObW.nil ?_ ?_); (focus (first | rfl | assumption))) | ((with_reducible refine ObJ.zn ?_ ?_); (focus (first | omega | assumption | (simp only [List.length_map, List.length_append, List.length_cons, List.length_nil, List.length_take, List.length_drop, List.length_set, List.length_replicate]; omega)))) | ((with_reducible refine ObEq.mk ?_); (focus (first | rfl | assumption))) | (with_reducible refine ObE.min ?_))
    · repeat' ((conv => whnf); first | (with_reducible refine SeqP.go ?_) | (rw [min20]) | ((with_reducible refine ObD.mk ?_ ?_); (focus (first | rfl | (simp; done)))) | ((with_reducible refine ObN.mk ?_ ?_); (focus (first | rfl | assumption | omega | (simp only [List.length_map, List.length_append, List.length_cons, List.length_nil]; omega) | (simp; done) | (simp; omega)))) | (with_reducible refine ObT.tt ?_) | (with_reducible refine ObT.ff ?_) | ((with_reducible refine ObB.yes ?_ ?_); (focus (first | assumption | (with_reducible rfl) | omega))) | ((with_reducible refine ObB.no ?_ ?_); (focus (first | assumption | omega))) | (with_reducible refine ObZ.mk _ rfl ?_) | ((with_reducible refine (?_ : ObL _ _)); (refine ObL.mk _ (by first | exact (List.length_map _) | assumption | exact (List.length_map _).trans (by assumption) | exact List.length_map _ | rfl) ?_)) | ((with_reducible refine (?_ : ObU _ _)); (refine ObU.mk _ (by first | exact htk | exact oa | assumption | ((conv => lhs; simp only [List.set_cons_zero, List.set_cons_succ, List.take_succ_cons, List.take_zero, List.drop_succ_cons, List.drop_zero, List.nil_append, List.cons_append, List.append_nil, List.take_nil, List.drop_nil]); try rfl) | rfl) ?_)) | ((with_reducible refine (?_ : ObR _ _ _)); (first | (refine ObR.mk _ (by assumption) ?_) | (refine ObR.mk _ (by with_reducible rfl) ?_) | (refine ObR.map (by (first | omega | assumption | (simp only [List.length_map, List.length_append, List.length_cons, List.length_nil, List.length_take, List.length_drop, List.length_set, List.length_replicate]; omega))) (fun x hx => ?_)) | (refine ObR.mk _ rfl ?_))) | ((with_reducible refine ObW.nil ?_ ?_); (focus (first | rfl | assumption))) | ((with_reducible refine ObJ.zn ?_ ?_); (focus (first | omega | assumption | (simp only [List.length_map, List.length_append, List.length_cons, List.length_nil, List.length_take, List.length_drop, List.length_set, List.length_replicate]; omega)))) | ((with_reducible refine ObEq.mk ?_); (focus (first | rfl | assumption))) | (with_reducible refine ObE.min ?_))
    · have ta : ((t0 :: tt).map iA).take (tt.length + 1) = (t0 :: tt).map iA := i_all (l := t0 :: tt)
      have tp := p_i (t0 :: tt)
      have htl' : tt.length + 1 ≤ 20 := htl
      repeat' ((conv => whnf); first | (with_reducible refine SeqP.go ?_) | (rw [min20]) | ((with_reducible refine ObD.mk ?_ ?_); (focus (first | rfl | (simp; done)))) | ((with_reducible refine ObN.mk ?_ ?_); (focus (first | rfl | assumption | omega | (simp only [List.length_map, List.length_append, List.length_cons, List.length_nil]; omega) | (simp; done) | (simp; omega)))) | (with_reducible refine ObT.ff ?_) | ((with_reducible refine ObB.no ?_ ?_); (focus (first | assumption | omega))) | (with_reducible refine ObZ.mk _ rfl ?_) | ((with_reducible refine (?_ : ObL _ _)); (refine ObL.mk _ (by first | exact (List.length_map _) | assumption | exact (List.length_map _).trans (by assumption) | exact List.length_map _ | rfl) ?_)) | ((with_reducible refine (?_ : ObU _ _)); (refine ObU.mk _ (by first | exact htk | exact ta | exact oa | assumption | ((conv => lhs; simp only [List.set_cons_zero, List.set_cons_succ, List.take_succ_cons, List.take_zero, List.drop_succ_cons, List.drop_zero, List.nil_append, List.cons_append, List.append_nil, List.take_nil, List.drop_nil]); try rfl) | rfl) ?_)) | ((with_reducible refine (?_ : ObR _ _ _)); (first | (refine ObR.mk _ (by assumption) ?_) | (refine ObR.mk _ (by with_reducible rfl) ?_) | (refine ObR.map (by (first | omega | assumption | (simp only [List.length_map, List.length_append, List.length_cons, List.length_nil, List.length_take, List.length_drop, List.length_set, List.length_replicate]; omega))) (fun x hx => ?_)) | (refine ObR.mk _ rfl ?_))) | ((with_reducible refine ObW.cons ?_ ?_); (focus (first | assumption | (simp; done)))) | ((with_reducible refine ObJ.zn ?_ ?_); (focus (first | omega | assumption | (simp only [List.length_map, List.length_append, List.length_cons, List.length_nil, List.length_take, List.length_drop, List.length_set, List.length_replicate]; omega)))) | ((with_reducible refine ObEq.mk ?_); (focus (first | rfl | assumption))) | (with_reducible refine ObE.min ?_))
    · have ta : ((t0 :: tt).map iA).take (tt.length + 1) = (t0 :: tt).map iA := i_all (l := t0 :: tt)
      have tp := p_i (t0 :: tt)
      have htl' : tt.length + 1 ≤ 20 := htl
      repeat' ((conv => whnf); first | (with_reducible refine SeqP.go ?_) | (rw [min20]) | ((with_reducible refine ObD.mk ?_ ?_); (focus (first | rfl | (simp; done)))) | ((with_reducible refine ObN.mk ?_ ?_); (focus (first | rfl | assumption | omega | (simp only [List.length_map, List.length_append, List.length_cons, List.length_nil]; omega) | (simp; done) | (simp; omega)))) | (with_reducible refine ObT.tt ?_) | (with_reducible refine ObT.ff ?_) | ((with_reducible refine ObB.yes ?_ ?_); (focus (first | assumption | (with_reducible rfl) | omega))) | ((with_reducible refine ObB.no ?_ ?_); (focus (first | assumption | omega))) | (with_reducible refine ObZ.mk _ rfl ?_) | ((with_reducible refine (?_ : ObL _ _)); (refine ObL.mk _ (by first | exact (List.length_map _) | assumption | exact (List.length_map _).trans (by assumption) | exact List.length_map _ | rfl) ?_)) | ((with_reducible refine (?_ : ObU _ _)); (refine ObU.mk _ (by first | exact htk | exact ta | exact oa | assumption | ((conv => lhs; simp only [List.set_cons_zero, List.set_cons_succ, List.take_succ_cons, List.take_zero, List.drop_succ_cons, List.drop_zero, List.nil_append, List.cons_append, List.append_nil, List.take_nil, List.drop_nil]); try rfl) | rfl) ?_)) | ((with_reducible refine (?_ : ObR _ _ _)); (first | (refine ObR.mk _ (by assumption) ?_) | (refine ObR.mk _ (by with_reducible rfl) ?_) | (refine ObR.map (by (first | omega | assumption | (simp only [List.length_map, List.length_append, List.length_cons, List.length_nil, List.length_take, List.length_drop, List.length_set, List.length_replicate]; omega))) (fun x hx => ?_)) | (refine ObR.mk _ rfl ?_))) | ((with_reducible refine ObW.cons ?_ ?_); (focus (first | assumption | (simp; done)))) | ((with_reducible refine ObJ.zn ?_ ?_); (focus (first | omega | assumption | (simp only [List.length_map, List.length_append, List.length_cons, List.length_nil, List.length_take, List.length_drop, List.length_set, List.length_replicate]; omega)))) | ((with_reducible refine ObEq.mk ?_); (focus (first | rfl | assumption))) | (with_reducible refine ObE.min ?_))
end
end Go.Proofs.Ytnammfeiehikfaa.Sim
namespace Go.Proofs.Ytnammfeiehikfaa.Sim
open Go.RowKit
set_option maxRecDepth 100000
abbrev z9 : AV := .agg [I 0, S ⟨#[]⟩, S ⟨#[]⟩, .v (.int .u32 0), .nl 1, I 0, .nl 2, I 0, I 0]
def mixN (l : List Nd) (i : Nat) : List AV := (l.take i).map nA ++ List.replicate (l.length - i) z9
theorem mixN_len (l : List Nd) {i : Nat} (h : i ≤ l.length) : (mixN l i).length = l.length := by simp [mixN]; omega
theorem mixN_set {l : List Nd} {i : Nat} (h : i < l.length) : (mixN l i).set i (nA l[i]) = mixN l (i + 1) := by
  obtain ⟨k, hk⟩ : ∃ k, l.length - i = k + 1 := ⟨l.length - i - 1, by omega⟩
  have hl : ((l.take i).map nA).length = i := by simp; omega
  unfold mixN
  rw [hk, show l.length - (i + 1) = k by omega, List.replicate_succ, List.set_append_right _ _ (by omega), hl, Nat.sub_self, List.set_cons_zero, List.take_succ_eq_append_getElem h]
  simp only [List.map_append, List.map_cons, List.map_nil, List.append_assoc, List.cons_append, List.nil_append]
theorem mixN_at {l : List Nd} {i : Nat} (h : i < l.length) : (mixN l i)[i]? = some z9 := by
  obtain ⟨k, hk⟩ : ∃ k, l.length - i = k + 1 := ⟨l.length - i - 1, by omega⟩
  have hl : ((l.take i).map nA).length = i := by simp; omega
  unfold mixN
  rw [List.getElem?_append_right (by omega), hl, Nat.sub_self, hk, List.replicate_succ]; rfl
theorem mixN_nr (l : List Nd) (i : Nat) : (mixN l i).all nrB = true := by
  rw [mixN, List.all_append, nr_n, Bool.true_and, List.all_eq_true]
  intro x hx
  rw [(List.mem_replicate.1 hx).2]; rfl
section
variable (G : Nat → AV)
theorem copyNd (x : Nd) (h : x.Ok) : PC Try.prog G 28 [nA x] (nA x) := copyN G x.kn x.ke x.va x.mp x.kk x.mn x.ls x.sz x.bi h.kk h.ls
set_option maxHeartbeats 2000000 in
theorem copies27 (l : List Nd) (hl : l.length ≤ 1000) (hx : ∀ x ∈ l, x.Ok) : HC Try.prog G 27 [.sl 9 (l.map nA)] [] (.ol 0 0 l.length) [⟨30, 9, l.map nA, 0, 0⟩] := by
  have hz : List.replicate ((l.length : Nat) : Int).toNat z9 = mixN l 0 := by simp [mixN]
  have hn : mixN l l.length = l.map nA := by simp [mixN]
  refine hc_ofV cop27 rfl ?_
  repeat' ((conv => whnf); first | (with_reducible refine SeqP.go ?_) | ((with_reducible refine ObN.mk ?_ ?_); (focus (first | rfl | assumption | omega | (simp only [List.length_map, List.length_append, List.length_cons, List.length_nil]; omega) | (simp; done) | (simp; omega)))) | ((with_reducible refine (?_ : ObL _ _)); (refine ObL.mk _ (by first | exact (List.length_map _) | assumption | exact (List.length_map _).trans (by assumption) | exact List.length_map _ | rfl) ?_)) | ((with_reducible refine (?_ : ObU _ _)); (refine ObU.mk _ (by first | exact hz | assumption | ((conv => lhs; simp only [List.set_cons_zero, List.set_cons_succ, List.take_succ_cons, List.take_zero, List.drop_succ_cons, List.drop_zero, List.nil_append, List.cons_append, List.append_nil, List.take_nil, List.drop_nil]); try rfl) | rfl) ?_)))
  conv => whnf
  refine LoopP.go (α := Nat) (fun i => i ≤ l.length) (fun i => l.length - i) (fun i => [(4, none), (0, none), (5, some (I i)), (0, none), (0, none), (0, none), (0, none), (0, none), (0, none), (0, none), (0, none), (0, none), (0, none)]) (fun i => [⟨30, 9, mixN l i, 0, 0⟩]) 0 (Nat.zero_le _) (Fg.go ?_ (by first | rfl | exact congrArg (fun e => [OB.mk 30 9 e 0 0]) hz)) ?_
  · repeat' ((conv => whnf); first | ((with_reducible refine ObEqs.mk ?_ ?_); (focus rfl)) | ((with_reducible refine ObEq1.i ?_ ?_); (focus (first | (with_reducible rfl) | omega))) | exact True.intro)
  intro i hi
  have hml := mixN_len l hi
  by_cases hil : i < l.length
  · have hq := nA_at hil
    have hu := mixN_set hil
    have hold := mixN_at hil
    have hc := copyNd G l[i] (hx _ (List.getElem_mem hil))
    have hr := mixN_nr l (i + 1)
    generalize l[i] = x at *
    repeat' ((conv => whnf); first | (with_reducible refine SeqP.go ?_) | ((with_reducible refine ObD.mk ?_ ?_); (focus (first | rfl | (simp; done)))) | ((with_reducible refine ObN.mk ?_ ?_); (focus (first | rfl | assumption | omega | (simp only [List.length_map, List.length_append, List.length_cons, List.length_nil]; omega) | (simp; done) | (simp; omega)))) | (with_reducible refine ObT.tt ?_) | ((with_reducible refine ObB.yes ?_ ?_); (focus (first | assumption | (with_reducible rfl) | omega))) | ((with_reducible refine ObI.nl ?_ ?_); (focus omega)) | ((with_reducible refine ObX.mk _ rfl ?_ ?_); (focus (first | omega | assumption | (simp only [List.length_map, List.length_append, List.length_cons, List.length_nil, List.length_take, List.length_drop, List.length_set, List.length_replicate]; omega)))) | ((with_reducible refine (?_ : ObU _ _)); (refine ObU.mk _ (by first | exact hu | assumption | ((conv => lhs; simp only [List.set_cons_zero, List.set_cons_succ, List.take_succ_cons, List.take_zero, List.drop_succ_cons, List.drop_zero, List.nil_append, List.cons_append, List.append_nil, List.take_nil, List.drop_nil]); try rfl) | rfl) ?_)) | ((with_reducible refine (?_ : ObR _ _ _)); (first | (refine ObR.mk _ (by assumption) ?_) | (refine ObR.mk _ (by with_reducible rfl) ?_) | (refine ObR.map (by (first | omega | assumption | (simp only [List.length_map, List.length_append, List.length_cons, List.length_nil, List.length_take, List.length_drop, List.length_set, List.length_replicate]; omega))) (fun x hx => ?_)) | (refine ObR.mk _ rfl ?_))) | ((with_reducible refine ObC.f 28 ?_); (first | (with_reducible refine ObC.mk _ (hc) ?_) | (refine ObC.mk _ (hc) ?_))))
    conv => whnf
    refine Again.mk (i + 1) ?_ ?_ (Fg.vw [(0, 0, 0)] ?_ ?_ (by simp) ?_)
    · omega
    · omega
    all_goals repeat' ((conv => whnf); first | ((with_reducible refine ObN.mk ?_ ?_); (focus (first | rfl | assumption | omega | (simp only [List.length_map, List.length_append, List.length_cons, List.length_nil]; omega) | (simp; done) | (simp; omega)))) | ((with_reducible refine ObRn.mk ?_ ?_); (focus (first | rfl | (simp [rnB, rnC, rnL]; done)))) | ((with_reducible refine ObRow.same ?_ ?_ ?_); (focus (first | rfl | assumption)); (focus (first | rfl | assumption | (simp; done)))) | ((with_reducible refine ObEqs.mk ?_ ?_); (focus rfl)) | exact True.intro)
  · obtain rfl : i = l.length := by omega
    rw [hn]
    repeat' ((conv => whnf); first | (with_reducible refine SeqP.go ?_) | ((with_reducible refine ObN.mk ?_ ?_); (focus (first | rfl | assumption | omega | (simp only [List.length_map, List.length_append, List.length_cons, List.length_nil]; omega) | (simp; done) | (simp; omega)))) | (with_reducible refine ObT.ff ?_) | ((with_reducible refine ObB.no ?_ ?_); (focus (first | assumption | omega))) | (exact ObEnd.eq rfl rfl))
theorem hc_any {f : FuncId} {aa : List AV} {n e k : Nat} {es : List AV} (h : HC Try.prog G f aa [] (.ol 0 0 n) [⟨e, k, es, 0, 0⟩]) (ha : ∀ a ∈ aa, rnB [] a = some a) (hes : es.all nrB = true) (H : Hp) : HC Try.prog G f aa H (.ol H.length 0 n) (H ++ [⟨e, k, es, 0, 0⟩]) := by
  refine HC.frame [] h ⟨rfl, fun j ob2 hj => by simp at hj, fun j j' g2 i g g2' g' t1 => by simp at t1⟩ (fun j g2 i g t => by simp at t) rfl (fun i b hb => ⟨b, hb, ha b (List.mem_of_getElem? hb)⟩) (by simp [bkB, bkC, rho]) ⟨by simp, by simp, fun j ob hj => ?_, fun J hJ _ => by rw [List.getElem?_append_left hJ]⟩
  cases j with
  | zero =>
    simp only [List.getElem?_cons_zero, Option.some.injEq] at hj
    subst hj
    refine ⟨⟨e, k, es, 0, 0⟩, by simp [rho], rfl, rfl, rfl, rfl, rfl, fun n e2 he => ⟨e2, he, nrB_bk (List.all_eq_true.1 hes e2 (List.mem_of_getElem? he))⟩⟩
  | succ j => simp at hj
theorem mk27 {l : List Nd} {H : Hp} {k : KK} (hm : ∀ H : Hp, HC Try.prog G 27 [.sl 9 (l.map nA)] H (.ol H.length 0 l.length) (H ++ [⟨30, 9, l.map nA, 0, 0⟩])) (hk : k (.ol H.length 0 l.length) (H ++ [⟨30, 9, l.map nA, 0, 0⟩])) : ObM Try.prog G 27 [.sl 9 (l.map nA)] H k :=
  ObM.mk _ _ (fun H2 hh => by have h := hm H2; rwa [hh (by simp)] at h) hk
theorem fresh26 (n : Int) (h1 : -9223372036854775808 ≤ n) (h2 : n ≤ 9223372036854775807) : PC Try.prog G 26 [I n] (I (-1 - n)) := by
  refine pc_ofV cop26 ?_
  repeat' ((conv => whnf); first | (with_reducible refine SeqP.go ?_) | ((with_reducible refine (?_ : ObE _ _)); (refine eNot h1 h2 ?_)) | ((with_reducible refine ObEq.i ?_); (focus (first | (with_reducible rfl) | omega))))
set_option maxHeartbeats 4000000 in
theorem add10 (l : List Nd) (rt : Int) (od : List Int) (x : Nd) (hl : l.length ≤ 100) (hx : ∀ x ∈ l, x.Ok) (hxx : x.Ok) (ho : od.length ≤ 100) : PC Try.prog G 10 [plA l rt od, nA x] (.tup [plA (l ++ [x]) rt od, I (-1 - (l.length : Nat))]) := by
  have hf := fresh26 G (l.length : Nat) (by omega) (by omega)
  have hc := copyNd G x hxx
  have h27 := copies27 G l (by omega) hx
  have hm := hc_any G h27 (by intro a ha; simp only [List.mem_singleton] at ha; subst ha; rfl) (nr_n l)
  have us := n_snoc (l := l) (x := x)
  have hl1 : l.length + [nA x].length = (l ++ [x]).length := by simp
  have la : ((l ++ [x]).map nA).take (l ++ [x]).length = (l ++ [x]).map nA := n_all
  have lp := p_n (l ++ [x])
  refine pc_ofV fop10 ?_
  rcases od with _ | ⟨t0, tt⟩
  · repeat' ((conv => whnf); first | (with_reducible refine SeqP.go ?_) | (with_reducible refine ObAnd.mk ?_ ?_) | (with_reducible refine ObDx.each ?_) | ((with_reducible refine ObM.f 27 ?_); (refine mk27 G hm ?_)) | ((with_reducible refine ObD.mk ?_ ?_); (focus (first | rfl | (simp; done)))) | ((with_reducible refine ObN.mk ?_ ?_); (focus (first | rfl | assumption | omega | (simp only [List.length_map, List.length_append, List.length_cons, List.length_nil]; omega) | (simp; done) | (simp; omega)))) | ((with_reducible refine (?_ : ObL _ _)); (refine ObL.mk _ (by first | exact hl1 | exact (List.length_map _) | assumption | exact (List.length_map _).trans (by assumption) | exact List.length_map _ | rfl) ?_)) | ((with_reducible refine (?_ : ObU _ _)); (refine ObU.mk _ (by first | exact us | exact la | assumption | ((conv => lhs; simp only [List.set_cons_zero, List.set_cons_succ, List.take_succ_cons, List.take_zero, List.drop_succ_cons, List.drop_zero, List.nil_append, List.cons_append, List.append_nil, List.take_nil, List.drop_nil]); try rfl) | rfl) ?_)) | ((with_reducible refine (?_ : ObR _ _ _)); (first | (refine ObR.mk _ (by assumption) ?_) | (refine ObR.mk _ (by with_reducible rfl) ?_) | (refine ObR.map (by (first | omega | assumption | (simp only [List.length_map, List.length_append, List.length_cons, List.length_nil, List.length_take, List.length_drop, List.length_set, List.length_replicate]; omega))) (fun x hx => ?_)) | (refine ObR.mk _ rfl ?_))) | ((with_reducible refine ObC.f 26 ?_); (first | (with_reducible refine ObC.mk _ (hf) ?_) | (refine ObC.mk _ (hf) ?_))) | ((with_reducible refine ObC.f 28 ?_); (first | (with_reducible refine ObC.mk _ (hc) ?_) | (refine ObC.mk _ (hc) ?_))) | ((with_reducible refine ObW.nil ?_ ?_); (focus (first | rfl | assumption))) | ((with_reducible refine ObEq.mk ?_); (focus (first | rfl | assumption))))
  · have ta : ((t0 :: tt).map iA).take (tt.length + 1) = (t0 :: tt).map iA := i_all (l := t0 :: tt)
    have tp := p_i (t0 :: tt)
    have htl' : tt.length + 1 ≤ 100 := ho
    repeat' ((conv => whnf); first | (with_reducible refine SeqP.go ?_) | (with_reducible refine ObAnd.mk ?_ ?_) | (with_reducible refine ObDx.each ?_) | ((with_reducible refine ObM.f 27 ?_); (refine mk27 G hm ?_)) | ((with_reducible refine ObD.mk ?_ ?_); (focus (first | rfl | (simp; done)))) | ((with_reducible refine ObN.mk ?_ ?_); (focus (first | rfl | assumption | omega | (simp only [List.length_map, List.length_append, List.length_cons, List.length_nil]; omega) | (simp; done) | (simp; omega)))) | ((with_reducible refine (?_ : ObL _ _)); (refine ObL.mk _ (by first | exact hl1 | exact (List.length_map _) | assumption | exact (List.length_map _).trans (by assumption) | exact List.length_map _ | rfl) ?_)) | ((with_reducible refine (?_ : ObU _ _)); (refine ObU.mk _ (by first | exact us | exact la | exact ta | assumption | ((conv => lhs; simp only [List.set_cons_zero, List.set_cons_succ, List.take_succ_cons, List.take_zero, List.drop_succ_cons, List.drop_zero, List.nil_append, List.cons_append, List.append_nil, List.take_nil, List.drop_nil]); try rfl) | rfl) ?_)) | ((with_reducible refine (?_ : ObR _ _ _)); (first | (refine ObR.mk _ (by assumption) ?_) | (refine ObR.mk _ (by with_reducible rfl) ?_) | (refine ObR.map (by (first | omega | assumption | (simp only [List.length_map, List.length_append, List.length_cons, List.length_nil, List.length_take, List.length_drop, List.length_set, List.length_replicate]; omega))) (fun x hx => ?_)) | (refine ObR.mk _ rfl ?_))) | ((with_reducible refine ObC.f 26 ?_); (first | (with_reducible refine ObC.mk _ (hf) ?_) | (refine ObC.mk _ (hf) ?_))) | ((with_reducible refine ObC.f 28 ?_); (first | (with_reducible refine ObC.mk _ (hc) ?_) | (refine ObC.mk _ (hc) ?_))) | ((with_reducible refine ObW.cons ?_ ?_); (focus (first | assumption | (simp; done)))) | ((with_reducible refine ObEq.mk ?_); (focus (first | rfl | assumption))))
end
end Go.Proofs.Ytnammfeiehikfaa.Sim
namespace Go.Proofs.Ytnammfeiehikfaa.Sim
open Go.RowKit
set_option maxRecDepth 100000
section
variable (G : Nat → AV)
set_option maxHeartbeats 16000000 in
theorem maysC (L : List Nd) (rt : Int) (T : List Int) (y : Nd) (l : List Nd) (od : List Int) (x : Nd) (hL : L.length ≤ 12) (hLo : ∀ x ∈ L, x.Ok) (hy : y.Ok) (hT : T.length ≤ 20) (hr : i64 rt)
    (c8 : PC Try.prog G 8 [plA l rt od] (plA L rt T)) (c9 : PC Try.prog G 9 [nA x] (nA y)) (c : Bool) (hc : c = okP L rt T) : PC Try.prog G 3 [plA l rt od, nA x] (Bo true) := by
  have c8b : PC Try.prog G 8 [plA L rt T] (plA L rt T) := by
    have h := give8 G L rt T (by omega) (fun x hx => (hLo x hx).wd) (by omega)
    rw [List.take_of_length_le hL, List.take_of_length_le hT] at h
    have e : L.map fewX = L := by
      conv => rhs; rw [← List.map_id L]
      exact List.map_congr_left fun x hx => fewX_eq (hLo x hx)
    rwa [e] at h
  have c7 := back7 G L rt T
  have c9b := few9s G y hy
  have c10 := add10 G L rt T y (by omega) hLo hy (by omega)
  have c11 := may11 G L rt T (by omega) hLo hr (by omega) c hc
  have c12 := may12 G L rt T (by omega) hLo (by omega) c hc
  have c13 := heap13 G (L ++ [y]) (by simp; omega) (fun z hz => by rcases List.mem_append.1 hz with h | h; exact hLo z h; rw [List.mem_singleton.1 h]; exact hy)
  have c14 := eq23 G T T (by omega) (by omega) true (by simp)
  have c15 := works18 G
  have hl1 : L.length + [nA y].length = (L ++ [y]).length := by simp
  have hl2 : 0 + (L.map nA).length + [nA y].length = (L ++ [y]).length := by simp
  have hlen : ((L ++ [y]).length : Int) = (L.length : Int) + 1 := by simp
  have n1 : (L.map nA).take (0 + (L.map nA).length) = L.map nA := List.take_of_length_le (by simp)
  have n2 := n_all (l := L)
  have us1 := n_snoc (l := L) (x := y)
  have us2 : (L.map nA).take (0 + (L.map nA).length) ++ [nA y] = (L ++ [y]).map nA := by rw [n1]; simp
  have la : ((L ++ [y]).map nA).take (L ++ [y]).length = (L ++ [y]).map nA := n_all
  have lp := p_n (L ++ [y])
  have lp0 := p_n L
  clear hc
  refine pc_ofV cop3 ?_
  cases c
  all_goals simp only [eo] at c11
  all_goals repeat' ((conv => whnf); first | (with_reducible refine SeqP.go ?_) | (with_reducible refine ObAnd.mk ?_ ?_) | (with_reducible refine ObDx.each ?_) | ((with_reducible refine ObD.mk ?_ ?_); (focus (first | rfl | (simp; done)))) | ((with_reducible refine ObN.mk ?_ ?_); (focus (first | rfl | assumption | omega | (simp only [List.length_map, List.length_append, List.length_cons, List.length_nil]; omega) | (simp; done) | (simp; omega)))) | (with_reducible refine ObT.tt ?_) | (with_reducible refine ObT.ff ?_) | ((with_reducible refine ObB.yes ?_ ?_); (focus (first | assumption | (with_reducible rfl) | omega))) | ((with_reducible refine ObB.no ?_ ?_); (focus (first | assumption | omega))) | ((with_reducible refine ObI.mk _ rfl ?_ ?_ ?_); (focus omega); (focus omega)) | ((with_reducible refine (?_ : ObL _ _)); (refine ObL.mk _ (by first | exact hl2 | exact hl1 | exact (List.length_map _) | assumption | exact (List.length_map _).trans (by assumption) | exact List.length_map _ | rfl) ?_)) | ((with_reducible refine (?_ : ObU _ _)); (refine ObU.mk _ (by first | exact n1 | exact n2 | exact us1 | exact us2 | exact la | assumption | ((conv => lhs; simp only [List.set_cons_zero, List.set_cons_succ, List.take_succ_cons, List.take_zero, List.drop_succ_cons, List.drop_zero, List.nil_append, List.cons_append, List.append_nil, List.take_nil, List.drop_nil]); try rfl) | rfl) ?_)) | ((with_reducible refine (?_ : ObR _ _ _)); (first | (refine ObR.mk _ (by assumption) ?_) | (refine ObR.mk _ (by with_reducible rfl) ?_) | (refine ObR.map (by (first | omega | assumption | (simp only [List.length_map, List.length_append, List.length_cons, List.length_nil, List.length_take, List.length_drop, List.length_set, List.length_replicate]; omega))) (fun x hx => ?_)) | (refine ObR.mk _ rfl ?_))) | ((with_reducible refine ObC.f 8 ?_); (first | (with_reducible refine ObC.mk _ (c8) ?_) | (refine ObC.mk _ (c8) ?_))) | ((with_reducible refine ObC.f 8 ?_); (first | (with_reducible refine ObC.mk _ (c8b) ?_) | (refine ObC.mk _ (c8b) ?_))) | ((with_reducible refine ObC.f 7 ?_); (first | (with_reducible refine ObC.mk _ (c7) ?_) | (refine ObC.mk _ (c7) ?_))) | ((with_reducible refine ObC.f 9 ?_); (first | (with_reducible refine ObC.mk _ (c9) ?_) | (refine ObC.mk _ (c9) ?_))) | ((with_reducible refine ObC.f 9 ?_); (first | (with_reducible refine ObC.mk _ (c9b) ?_) | (refine ObC.mk _ (c9b) ?_))) | ((with_reducible refine ObC.f 10 ?_); (first | (with_reducible refine ObC.mk _ (c10) ?_) | (refine ObC.mk _ (c10) ?_))) | ((with_reducible refine ObC.f 11 ?_); (first | (with_reducible refine ObC.mk _ (c11) ?_) | (refine ObC.mk _ (c11) ?_))) | ((with_reducible refine ObC.f 12 ?_); (first | (with_reducible refine ObC.mk _ (c12) ?_) | (refine ObC.mk _ (c12) ?_))) | ((with_reducible refine ObC.f 13 ?_); (first | (with_reducible refine ObC.mk _ (c13) ?_) | (refine ObC.mk _ (c13) ?_))) | ((with_reducible refine ObC.f 14 ?_); (first | (with_reducible refine ObC.mk _ (c14) ?_) | (refine ObC.mk _ (c14) ?_))) | ((with_reducible refine ObC.f 15 ?_); (first | (with_reducible refine ObC.mk _ (c15) ?_) | (refine ObC.mk _ (c15) ?_))) | ((with_reducible refine ObEq.mk ?_); (focus (first | rfl | assumption))))
end
end Go.Proofs.Ytnammfeiehikfaa.Sim
namespace Go.Proofs.Ytnammfeiehikfaa.Sim
open Go.RowKit
set_option maxRecDepth 100000
theorem mays (G : Nat → AV) (l : List Nd) (rt : Int) (od : List Int) (x : Nd) (hl : l.length ≤ 9223372036854775807) (hx : ∀ x ∈ l, x.Wd) (ho : od.length ≤ 9223372036854775807) (hxx : x.Wd) (hr : i64 rt) : PC Try.prog G 3 [plA l rt od, nA x] (Bo true) := by
  have h8 := give8 G l rt od hl hx ho
  have h9 := few9 G x hxx
  exact maysC G ((l.take 12).map fewX) rt (od.take 20) (fewX x) l od x (by rw [List.length_map, List.length_take]; omega) (fun y hy => by
    obtain ⟨z, hz, rfl⟩ := List.mem_map.1 hy
    exact fewX_ok (hx z (List.mem_of_mem_take hz))) (fewX_ok hxx) (by rw [List.length_take]; omega) hr h8 h9 _ rfl
abbrev NdS := {x : Nd // x.Wd}
def ndC (x : NdS) : List AV := [I x.1.kn, S x.1.ke, S x.1.va, .v (.int .u32 (x.1.mp : Int)), .sl 1 (x.1.kk.map iA), I x.1.mn, .sl 2 (x.1.ls.map pA), I x.1.sz, I x.1.bi]
theorem nd_inv {cs : List AV} (h : ShC Try.prog 30 cs) : ∃ x : NdS, cs = ndC x := by
  have i1 : (Try.prog).underlying 3 = some (.int .i64) := by kernel_rfl
  have i2 : (Try.prog).underlying 23 = some (.int .i64) := by kernel_rfl
  have e1 : isAggT Try.prog 23 = false := by kernel_rfl
  have e2 : isAggT Try.prog 72 = true := by kernel_rfl
  have e3 : (Try.prog).cellsOf 23 = 1 := by kernel_rfl
  have e4 : (Try.prog).cellsOf 72 = 2 := by kernel_rfl
  obtain ⟨p0, q, rfl, hp0, h⟩ := (h.flds (ts := [3, 9, 9, 27, 24, 23, 28, 3, 3]) (by kernel_rfl)).cons
  obtain ⟨p1, q, rfl, hp1, h⟩ := h.cons
  obtain ⟨p2, q, rfl, hp2, h⟩ := h.cons
  obtain ⟨p3, q, rfl, hp3, h⟩ := h.cons
  obtain ⟨p4, q, rfl, hp4, h⟩ := h.cons
  obtain ⟨p5, q, rfl, hp5, h⟩ := h.cons
  obtain ⟨p6, q, rfl, hp6, h⟩ := h.cons
  obtain ⟨p7, q, rfl, hp7, h⟩ := h.cons
  obtain ⟨p8, q, rfl, hp8, h⟩ := h.cons
  obtain rfl := h.nil
  obtain ⟨kn, rfl, _⟩ := hp0.i64_inv i1
  obtain ⟨ke, rfl, hke⟩ := hp1.str_inv u_str
  obtain ⟨va, rfl, hva⟩ := hp2.str_inv u_str
  obtain ⟨mp0, rfl, hm0, hm1⟩ := hp3.u32_inv (by kernel_rfl)
  obtain ⟨mp, rfl⟩ := Int.eq_ofNat_of_zero_le hm0
  obtain ⟨css, rfl, hk, hkk⟩ := hp4.slice_inv (e := 23) (by kernel_rfl)
  obtain ⟨kk, rfl⟩ := pick_list (f := fun n : i64S => [I n.1]) (fun cs h => by obtain ⟨n, e, h1, h2⟩ := h.i64_inv i2; exact ⟨⟨n, h1, h2⟩, e⟩) css hkk
  obtain ⟨mn, rfl, hmn⟩ := hp5.i64_inv i2
  obtain ⟨dss, rfl, hl, hll⟩ := hp6.slice_inv (e := 72) (by kernel_rfl)
  obtain ⟨ls, rfl⟩ := pick_list (f := pC) (fun cs h => pair_inv h) dss hll
  obtain ⟨sz, rfl, _⟩ := hp7.i64_inv i1
  obtain ⟨bi, rfl, _⟩ := hp8.i64_inv i1
  have g1 : (List.map (fun n : i64S => [I n.1]) kk).map (mkE (isAggT Try.prog 23)) = (kk.map Subtype.val).map iA := by rw [e1, List.map_map, List.map_map]; rfl
  have g2 : (List.map pC ls).map (mkE (isAggT Try.prog 72)) = (ls.map Subtype.val).map pA := by rw [e2, List.map_map, List.map_map]; rfl
  refine ⟨⟨⟨kn, ke, va, mp, kk.map Subtype.val, mn, ls.map Subtype.val, sz, bi⟩, ⟨by show mp < 4294967296; omega, hke, hva, by simpa using hk, by simpa using hl, fun p hp => by obtain ⟨q, _, rfl⟩ := List.mem_map.1 hp; exact q.2, hmn, fun r hr => by obtain ⟨q, _, rfl⟩ := List.mem_map.1 hr; exact q.2⟩⟩, ?_⟩
  rw [g1, g2, e3, e4]; rfl
theorem plan_inv {cs : List AV} (h : ShC Try.prog 26 cs) : ∃ (l : List Nd) (rt : Int) (od : List Int), mkE true cs = plA l rt od ∧ l.length ≤ 9223372036854775807 ∧ (∀ x ∈ l, x.Wd) ∧ od.length ≤ 9223372036854775807 ∧ i64 rt := by
  have i2 : (Try.prog).underlying 23 = some (.int .i64) := by kernel_rfl
  have e1 : isAggT Try.prog 23 = false := by kernel_rfl
  have e2 : isAggT Try.prog 30 = true := by kernel_rfl
  have e3 : (Try.prog).cellsOf 23 = 1 := by kernel_rfl
  have e4 : (Try.prog).cellsOf 30 = 9 := by kernel_rfl
  obtain ⟨p0, q, rfl, hp0, h⟩ := (h.flds (ts := [22, 23, 24]) (by kernel_rfl)).cons
  obtain ⟨p1, q, rfl, hp1, h⟩ := h.cons
  obtain ⟨p2, q, rfl, hp2, h⟩ := h.cons
  obtain rfl := h.nil
  obtain ⟨nss, rfl, hn, hnn⟩ := hp0.slice_inv (e := 30) (by kernel_rfl)
  obtain ⟨l, rfl⟩ := pick_list (f := ndC) (fun cs h => nd_inv h) nss hnn
  obtain ⟨rt, rfl, hrt⟩ := hp1.i64_inv i2
  obtain ⟨oss, rfl, ho, hoo⟩ := hp2.slice_inv (e := 23) (by kernel_rfl)
  obtain ⟨od, rfl⟩ := pick_list (f := fun n : Int => [I n]) (fun cs h => by obtain ⟨n, e, _⟩ := h.i64_inv i2; exact ⟨n, e⟩) oss hoo
  have g1 : (List.map (fun n : Int => [I n]) od).map (mkE (isAggT Try.prog 23)) = od.map iA := by rw [e1, List.map_map]; rfl
  have g2 : (List.map ndC l).map (mkE (isAggT Try.prog 30)) = (l.map Subtype.val).map nA := by rw [e2, List.map_map, List.map_map]; rfl
  refine ⟨l.map Subtype.val, rt, od, by rw [g1, g2, e3, e4]; rfl, by simpa using hn, fun x hx => ?_, by simpa using ho, hrt⟩
  obtain ⟨q, _, rfl⟩ := List.mem_map.1 hx
  exact q.2
theorem PlanMays_calls (as0 as1 : List AV) (s0 : ShC Try.prog 26 as0) (s1 : ShC Try.prog 30 as1) : PC Try.prog (fun _ => .unk) 3 [mkE (isAggT Try.prog 26) as0, mkE (isAggT Try.prog 30) as1] (Bo true) := by
  obtain ⟨l, rt, od, h1, h2, h3, h4, h5⟩ := plan_inv s0
  obtain ⟨⟨x, hx⟩, rfl⟩ := nd_inv s1
  have e1 : isAggT Try.prog 26 = true := by kernel_rfl
  have e2 : isAggT Try.prog 30 = true := by kernel_rfl
  rw [e1, e2, h1]
  exact mays _ l rt od x h2 h3 h4 hx h5
end Go.Proofs.Ytnammfeiehikfaa.Sim
