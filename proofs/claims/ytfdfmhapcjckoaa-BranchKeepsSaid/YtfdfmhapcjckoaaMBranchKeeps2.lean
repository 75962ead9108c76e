/- Texts of this claim, part 2. -/
import Derived.Test.YtfdfmhapcjckoaaMBranchKeeps1
import Derived.Test.YtfdfmhapcjckoaaTAc19
import Derived.Test.YtfdfmhapcjckoaaTRairO
import Derived.Test.YtfdfmhapcjckoaaTRairV
import Derived.Test.YtfdfmhapcjckoaaTSimVf
import Derived.Test.YtfdfmhapcjckoaaTSimW
set_option linter.unusedVariables false
set_option linter.unusedSimpArgs false
namespace Go.Proofs.Ytfdfmhapcjckoaa.Sim
open Go.RowKit
set_option maxRecDepth 100000
end Go.Proofs.Ytfdfmhapcjckoaa.Sim
namespace Go.Proofs.Ytfdfmhapcjckoaa.Sim
open Go.RowKit
set_option maxRecDepth 100000
theorem leaf14 (G : Nat → AV) (k v : ByteArray) : PC Try.prog G 45 [S k, S v] (nV 1 k v 0 [] 0 [] 1 0) := by
  refine pc_ofV cop45 ?_
  repeat' ((conv => whnf); first | (with_reducible refine SeqP.go ?_) | ((with_reducible refine ObD.mk ?_ ?_); (focus (first | rfl | (simp; done)))) | ((with_reducible refine ObN.mk ?_ ?_); (focus (first | rfl | assumption | omega | (simp only [List.length_map, List.length_append, List.length_cons, List.length_nil]; omega) | (simp; done) | (simp; omega)))) | ((with_reducible refine (?_ : ObU _ _)); (refine ObU.mk _ (by first | assumption | ((conv => lhs; simp only [List.set_cons_zero, List.set_cons_succ, List.take_succ_cons, List.take_zero, List.drop_succ_cons, List.drop_zero, List.nil_append, List.cons_append, List.append_nil, List.take_nil, List.drop_nil]); try rfl) | rfl) ?_)) | ((with_reducible refine (?_ : ObR _ _ _)); (first | (refine ObR.mk _ (by assumption) ?_) | (refine ObR.mk _ (by with_reducible rfl) ?_) | (refine ObR.map (by (first | omega | assumption | (simp only [List.length_map, List.length_append, List.length_cons, List.length_nil, List.length_take, List.length_drop, List.length_set, List.length_replicate]; omega))) (fun x hx => ?_)) | (refine ObR.mk _ rfl ?_))) | ((with_reducible refine ObEq.mk ?_); (focus (first | rfl | assumption))))
theorem tomb15 (G : Nat → AV) (k v : ByteArray) : PC Try.prog G 46 [S k, S v] (nV 6 k v 0 [] 0 [] 1 0) := by
  refine pc_ofV cop46 ?_
  repeat' ((conv => whnf); first | (with_reducible refine SeqP.go ?_) | ((with_reducible refine ObD.mk ?_ ?_); (focus (first | rfl | (simp; done)))) | ((with_reducible refine ObN.mk ?_ ?_); (focus (first | rfl | assumption | omega | (simp only [List.length_map, List.length_append, List.length_cons, List.length_nil]; omega) | (simp; done) | (simp; omega)))) | ((with_reducible refine (?_ : ObU _ _)); (refine ObU.mk _ (by first | assumption | ((conv => lhs; simp only [List.set_cons_zero, List.set_cons_succ, List.take_succ_cons, List.take_zero, List.drop_succ_cons, List.drop_zero, List.nil_append, List.cons_append, List.append_nil, List.take_nil, List.drop_nil]); try rfl) | rfl) ?_)) | ((with_reducible refine (?_ : ObR _ _ _)); (first | (refine ObR.mk _ (by assumption) ?_) | (refine ObR.mk _ (by with_reducible rfl) ?_) | (refine ObR.map (by (first | omega | assumption | (simp only [List.length_map, List.length_append, List.length_cons, List.length_nil, List.length_take, List.length_drop, List.length_set, List.length_replicate]; omega))) (fun x hx => ?_)) | (refine ObR.mk _ rfl ?_))) | ((with_reducible refine ObEq.mk ?_); (focus (first | rfl | assumption))))
theorem inner17 (G : Nat → AV) (a : Int) : PC Try.prog G 49 [I a] (nV 5 ⟨#[]⟩ ⟨#[]⟩ 0 [] a [] 0 0) := by
  refine pc_ofV cop49 ?_
  repeat' ((conv => whnf); first | (with_reducible refine SeqP.go ?_) | ((with_reducible refine ObD.mk ?_ ?_); (focus (first | rfl | (simp; done)))) | ((with_reducible refine ObN.mk ?_ ?_); (focus (first | rfl | assumption | omega | (simp only [List.length_map, List.length_append, List.length_cons, List.length_nil]; omega) | (simp; done) | (simp; omega)))) | ((with_reducible refine (?_ : ObU _ _)); (refine ObU.mk _ (by first | assumption | ((conv => lhs; simp only [List.set_cons_zero, List.set_cons_succ, List.take_succ_cons, List.take_zero, List.drop_succ_cons, List.drop_zero, List.nil_append, List.cons_append, List.append_nil, List.take_nil, List.drop_nil]); try rfl) | rfl) ?_)) | ((with_reducible refine (?_ : ObR _ _ _)); (first | (refine ObR.mk _ (by assumption) ?_) | (refine ObR.mk _ (by with_reducible rfl) ?_) | (refine ObR.map (by (first | omega | assumption | (simp only [List.length_map, List.length_append, List.length_cons, List.length_nil, List.length_take, List.length_drop, List.length_set, List.length_replicate]; omega))) (fun x hx => ?_)) | (refine ObR.mk _ rfl ?_))) | ((with_reducible refine ObEq.mk ?_); (focus (first | rfl | assumption))))
theorem bucket18 (G : Nat → AV) (l m : List Pr) (h : PC Try.prog G 56 [.sl 2 (l.map pA)] (.sl 2 (m.map pA))) : PC Try.prog G 48 [.sl 2 (l.map pA)] (nV 3 ⟨#[]⟩ ⟨#[]⟩ 0 [] 0 m m.length 0) := by
  refine pc_ofV cop48 ?_
  repeat' ((conv => whnf); first | (with_reducible refine SeqP.go ?_) | ((with_reducible refine ObD.mk ?_ ?_); (focus (first | rfl | (simp; done)))) | ((with_reducible refine ObN.mk ?_ ?_); (focus (first | rfl | assumption | omega | (simp only [List.length_map, List.length_append, List.length_cons, List.length_nil]; omega) | (simp; done) | (simp; omega)))) | ((with_reducible refine (?_ : ObL _ _)); (refine ObL.mk _ (by first | exact (List.length_map _) | assumption | exact (List.length_map _).trans (by assumption) | exact List.length_map _ | rfl) ?_)) | ((with_reducible refine (?_ : ObU _ _)); (refine ObU.mk _ (by first | assumption | ((conv => lhs; simp only [List.set_cons_zero, List.set_cons_succ, List.take_succ_cons, List.take_zero, List.drop_succ_cons, List.drop_zero, List.nil_append, List.cons_append, List.append_nil, List.take_nil, List.drop_nil]); try rfl) | rfl) ?_)) | ((with_reducible refine (?_ : ObR _ _ _)); (first | (refine ObR.mk _ (by assumption) ?_) | (refine ObR.mk _ (by with_reducible rfl) ?_) | (refine ObR.map (by (first | omega | assumption | (simp only [List.length_map, List.length_append, List.length_cons, List.length_nil, List.length_take, List.length_drop, List.length_set, List.length_replicate]; omega))) (fun x hx => ?_)) | (refine ObR.mk _ rfl ?_))) | ((with_reducible refine ObC.f 56 ?_); (first | (with_reducible refine ObC.mk _ (h) ?_) | (refine ObC.mk _ (h) ?_))) | ((with_reducible refine ObEq.mk ?_); (focus (first | rfl | assumption | exact (by simp [nV])))))
theorem branch20 (G : Nat → AV) (mp : Int) (kk : List Int) (s : Int) (hk : kk.length ≤ 40) : PC Try.prog G 39 [.v (.int .u32 mp), .sl 1 (kk.map iA), I s] (nV 2 ⟨#[]⟩ ⟨#[]⟩ mp kk 0 [] s 0) := by
  have h := copy37 G kk hk
  refine pc_ofV cop39 ?_
  repeat' ((conv => whnf); first | (with_reducible refine SeqP.go ?_) | ((with_reducible refine ObD.mk ?_ ?_); (focus (first | rfl | (simp; done)))) | ((with_reducible refine ObN.mk ?_ ?_); (focus (first | rfl | assumption | omega | (simp only [List.length_map, List.length_append, List.length_cons, List.length_nil]; omega) | (simp; done) | (simp; omega)))) | ((with_reducible refine (?_ : ObU _ _)); (refine ObU.mk _ (by first | assumption | ((conv => lhs; simp only [List.set_cons_zero, List.set_cons_succ, List.take_succ_cons, List.take_zero, List.drop_succ_cons, List.drop_zero, List.nil_append, List.cons_append, List.append_nil, List.take_nil, List.drop_nil]); try rfl) | rfl) ?_)) | ((with_reducible refine (?_ : ObR _ _ _)); (first | (refine ObR.mk _ (by assumption) ?_) | (refine ObR.mk _ (by with_reducible rfl) ?_) | (refine ObR.map (by (first | omega | assumption | (simp only [List.length_map, List.length_append, List.length_cons, List.length_nil, List.length_take, List.length_drop, List.length_set, List.length_replicate]; omega))) (fun x hx => ?_)) | (refine ObR.mk _ rfl ?_))) | ((with_reducible refine ObC.f 53 ?_); (first | (with_reducible refine ObC.mk _ (h) ?_) | (refine ObC.mk _ (h) ?_))) | ((with_reducible refine ObEq.mk ?_); (focus (first | rfl | assumption))))
theorem hMake (G : Nat → AV) (L : List Pr) (h40 : L.length ≤ 40) (hs : ∀ p ∈ L, p.1.size ≤ 40 ∧ p.2.size ≤ 40) : (Pr7.mk L).length ≤ 40 ∧ PC Try.prog G 56 [.sl 2 (L.map pA)] (.sl 2 ((Pr7.mk L).map pA)) ∧ True := by
  have hL : Pr7.Okl L := ⟨by omega, fun p hp => by have := hs p hp; omega⟩
  have h1 := Pr7.mk_len L
  exact ⟨by omega, Pr7.make14 G (fun g n P A B R N a m b => Pr7.sym44 _ g n P A B R N a m b) L h40 hL, trivial⟩
end Go.Proofs.Ytfdfmhapcjckoaa.Sim
namespace Go.Proofs.Ytfdfmhapcjckoaa.Sim
open Go.RowKit
set_option maxRecDepth 100000
theorem node_invB {cs : List AV} (h : ShC Try.prog 27 cs) : ∃ (kn : Int) (ke va : ByteArray) (mp : Nat) (kk : List Int) (mn : Int) (ls : List Pr) (sz bi : Int), mp < 4294967296 ∧ mkE true cs = nV kn ke va (mp : Int) kk mn ls sz bi ∧ ke.size ≤ 9223372036854775807 ∧ va.size ≤ 9223372036854775807 ∧ kk.length ≤ 9223372036854775807 ∧ ls.length ≤ 9223372036854775807 ∧ ∀ p ∈ ls, p.1.size ≤ 9223372036854775807 ∧ p.2.size ≤ 9223372036854775807 := by
  have i1 : (Try.prog).underlying 3 = some (.int .i64) := by kernel_rfl
  have i2 : (Try.prog).underlying 24 = some (.int .i64) := by kernel_rfl
  have e1 : isAggT Try.prog 24 = false := by kernel_rfl
  have e2 : isAggT Try.prog 62 = true := by kernel_rfl
  have e3 : (Try.prog).cellsOf 24 = 1 := by kernel_rfl
  have e4 : (Try.prog).cellsOf 62 = 2 := by kernel_rfl
  obtain ⟨p0, q, rfl, hp0, h⟩ := (h.flds (ts := [3, 9, 9, 22, 23, 24, 25, 3, 3]) (by kernel_rfl)).cons
  obtain ⟨p1, q, rfl, hp1, h⟩ := h.cons
  obtain ⟨p2, q, rfl, hp2, h⟩ := h.cons
  obtain ⟨p3, q, rfl, hp3, h⟩ := h.cons
  obtain ⟨p4, q, rfl, hp4, h⟩ := h.cons
  obtain ⟨p5, q, rfl, hp5, h⟩ := h.cons
  obtain ⟨p6, q, rfl, hp6, h⟩ := h.cons
  obtain ⟨p7, q, rfl, hp7, h⟩ := h.cons
  obtain ⟨p8, q, rfl, hp8, h⟩ := h.cons
  obtain rfl := h.nil
  obtain ⟨kn, rfl, _⟩ := hp0.i64_inv i1
  obtain ⟨ke, rfl, hke⟩ := hp1.str_inv u_str
  obtain ⟨va, rfl, hva⟩ := hp2.str_inv u_str
  obtain ⟨mp0, rfl, hm0, hm1⟩ := hp3.u32_inv (by kernel_rfl)
  obtain ⟨mp, rfl⟩ := Int.eq_ofNat_of_zero_le hm0
  obtain ⟨css, rfl, hk, hkk⟩ := hp4.slice_inv (e := 24) (by kernel_rfl)
  obtain ⟨kk, rfl⟩ := pick_list (f := fun n : Int => [I n]) (fun cs h => by obtain ⟨n, e, _⟩ := h.i64_inv i2; exact ⟨n, e⟩) css hkk
  obtain ⟨mn, rfl, _⟩ := hp5.i64_inv i2
  obtain ⟨dss, rfl, hl, hll⟩ := hp6.slice_inv (e := 62) (by kernel_rfl)
  obtain ⟨ls, rfl⟩ := pick_list (f := pC) (fun cs h => pair_inv h) dss hll
  obtain ⟨sz, rfl, _⟩ := hp7.i64_inv i1
  obtain ⟨bi, rfl, _⟩ := hp8.i64_inv i1
  have g1 : (List.map (fun n : Int => [I n]) kk).map (mkE (isAggT Try.prog 24)) = kk.map iA := by rw [e1, List.map_map]; rfl
  have g2 : (List.map pC ls).map (mkE (isAggT Try.prog 62)) = (ls.map Subtype.val).map pA := by rw [e2, List.map_map, List.map_map]; rfl
  refine ⟨kn, ke, va, mp, kk, mn, ls.map Subtype.val, sz, bi, by omega, ?_, hke, hva, by simpa using hk, by simpa using hl, ?_⟩
  · rw [g1, g2, e3, e4]; rfl
  · intro p hp
    obtain ⟨q, _, rfl⟩ := List.mem_map.1 hp
    exact q.2
end Go.Proofs.Ytfdfmhapcjckoaa.Sim
namespace Go.Proofs.Ytfdfmhapcjckoaa.Sim
open Go.RowKit
set_option maxRecDepth 100000
theorem cnt43 (G : Nat → AV) (m : Nat) (hm : m < 4294967296) : PC Try.prog G 30 [.v (.int .u32 (m : Int))] (I ((upI m 32).length : Nat)) := by
  have h := pop53 G m hm
  have e : (Mk.all m).length = (upI m 32).length := by simp [upI, Mk.all]
  rw [e] at h
  refine pc_ofV cop30 ?_
  repeat' ((conv => whnf); first | (with_reducible refine SeqP.go ?_) | ((with_reducible refine ObC.f 43 ?_); (first | (with_reducible refine ObC.mk _ (h) ?_) | (refine ObC.mk _ (h) ?_))) | ((with_reducible refine ObEq.i ?_); (focus (first | (with_reducible rfl) | omega))))
theorem lenP {α : Type} {l : List α} : (0 : Int) < (l.length : Nat) ↔ ¬ l = [] := by cases l <;> simp
theorem lenZ {α : Type} {l : List α} : ((l.length : Nat) : Int) = 0 ↔ l = [] := by rw [← List.length_eq_zero_iff]; omega
theorem slt_mk {l : List Pr} : Pr7.SLt l ↔ l = Pr7.mk l := ⟨fun h => (Pr7.mk_of h).symm, fun h => by rw [h]; exact Pr7.mk_lt l⟩
set_option maxHeartbeats 4000000 in
theorem hasForm31 (G : Nat → AV) (kn : Int) (ke va : ByteArray) (mp : Nat) (kk : List Int) (mn : Int) (ls : List Pr) (sz bi : Int) (k1 : 1 ≤ kn) (k6 : kn ≤ 6) (hm : mp < 4294967296) (hke : ke.size ≤ 40) (hva : va.size ≤ 40) (hk : kk.length ≤ 40) (hl : ls.length ≤ 40) (hs : ∀ p ∈ ls, p.1.size ≤ 40 ∧ p.2.size ≤ 40) (r : Bool) (hr : r = true ↔ FormP kn ke va mp kk mn ls sz bi) :
    PC Try.prog G 35 [nV kn ke va (mp : Int) kk mn ls sz bi] (Bo r) := by
  have hkn : kn = 1 ∨ kn = 6 ∨ kn = 2 ∨ kn = 3 ∨ kn = 4 ∨ kn = 5 := by omega
  have z0 : ByteArray.size (ByteArray.mk #[]) ≤ 9223372036854775807 := by decide
  have l0 : ([] : List Int).length ≤ 9223372036854775807 := by simp
  have l1 : ([] : List Pr).length ≤ 9223372036854775807 := by simp
  rcases hkn with rfl | rfl | rfl | rfl | rfl | rfl
  · obtain ⟨q, hq⟩ : ∃ q, q = decide ((1 : Int) = 1 ∧ ke = ke ∧ va = va ∧ (mp : Int) = 0 ∧ kk = [] ∧ mn = 0 ∧ ls = [] ∧ sz = 1 ∧ bi = bi) := ⟨_, rfl⟩
    have h22 := same22 G 1 1 ke ke va va mp 0 kk [] mn 0 ls [] sz 1 bi bi (by omega) (by omega) (by omega) (by omega) (by omega) l0 (by omega) l1 q hq
    have hr' : r = true ↔ ¬ bi < 0 ∧ q = true := by rw [hr, hq]; simp [FormP, BareP, lenP, lenZ]; intros; constructor <;> (intros; simp_all)
    clear hr hq hs
    refine pc_ofV cop35 ?_
    repeat' ((conv => whnf); first | (with_reducible refine SeqP.go ?_) | ((with_reducible refine ObD.mk ?_ ?_); (focus (first | rfl | (simp; done)))) | ((with_reducible refine ObN.mk ?_ ?_); (focus (first | rfl | assumption | omega | (simp only [List.length_map, List.length_append, List.length_cons, List.length_nil]; omega) | (simp; done) | (simp; omega)))) | (with_reducible refine ObT.tt ?_) | (with_reducible refine ObT.ff ?_) | ((with_reducible refine ObB.yes ?_ ?_); (focus (first | assumption | (with_reducible rfl) | omega))) | (with_reducible refine ObB.mk (fun h => ?_) (fun h => ?_)) | ((with_reducible refine (?_ : ObU _ _)); (refine ObU.mk _ (by first | assumption | ((conv => lhs; simp only [List.set_cons_zero, List.set_cons_succ, List.take_succ_cons, List.take_zero, List.drop_succ_cons, List.drop_zero, List.nil_append, List.cons_append, List.append_nil, List.take_nil, List.drop_nil]); try rfl) | rfl) ?_)) | ((with_reducible refine (?_ : ObR _ _ _)); (first | (refine ObR.mk _ (by assumption) ?_) | (refine ObR.mk _ (by with_reducible rfl) ?_) | (refine ObR.map (by (first | omega | assumption | (simp only [List.length_map, List.length_append, List.length_cons, List.length_nil, List.length_take, List.length_drop, List.length_set, List.length_replicate]; omega))) (fun x hx => ?_)) | (refine ObR.mk _ rfl ?_))) | ((with_reducible refine ObC.f 45 ?_); (first | (with_reducible refine ObC.mk _ ((leaf14 G _ _)) ?_) | (refine ObC.mk _ ((leaf14 G _ _)) ?_))) | ((with_reducible refine ObC.f 50 ?_); (first | (with_reducible refine ObC.mk _ (h22) ?_) | (refine ObC.mk _ (h22) ?_))) | ((with_reducible refine ObEq.mk ?_); (focus (first | rfl | assumption | exact (by cases r <;> cases q <;> first | (simp_all; done) | (simp_all; omega))))))
  · obtain ⟨q, hq⟩ : ∃ q, q = decide ((6 : Int) = 6 ∧ ke = ke ∧ va = va ∧ (mp : Int) = 0 ∧ kk = [] ∧ mn = 0 ∧ ls = [] ∧ sz = 1 ∧ bi = bi) := ⟨_, rfl⟩
    have h22 := same22 G 6 6 ke ke va va mp 0 kk [] mn 0 ls [] sz 1 bi bi (by omega) (by omega) (by omega) (by omega) (by omega) l0 (by omega) l1 q hq
    have hr' : r = true ↔ ¬ bi < 0 ∧ q = true := by rw [hr, hq]; simp [FormP, BareP, lenP, lenZ]; intros; constructor <;> (intros; simp_all)
    clear hr hq hs
    refine pc_ofV cop35 ?_
    repeat' ((conv => whnf); first | (with_reducible refine SeqP.go ?_) | ((with_reducible refine ObD.mk ?_ ?_); (focus (first | rfl | (simp; done)))) | ((with_reducible refine ObN.mk ?_ ?_); (focus (first | rfl | assumption | omega | (simp only [List.length_map, List.length_append, List.length_cons, List.length_nil]; omega) | (simp; done) | (simp; omega)))) | (with_reducible refine ObT.tt ?_) | (with_reducible refine ObT.ff ?_) | ((with_reducible refine ObB.yes ?_ ?_); (focus (first | assumption | (with_reducible rfl) | omega))) | ((with_reducible refine ObB.no ?_ ?_); (focus (first | assumption | omega))) | (with_reducible refine ObB.mk (fun h => ?_) (fun h => ?_)) | ((with_reducible refine (?_ : ObU _ _)); (refine ObU.mk _ (by first | assumption | ((conv => lhs; simp only [List.set_cons_zero, List.set_cons_succ, List.take_succ_cons, List.take_zero, List.drop_succ_cons, List.drop_zero, List.nil_append, List.cons_append, List.append_nil, List.take_nil, List.drop_nil]); try rfl) | rfl) ?_)) | ((with_reducible refine (?_ : ObR _ _ _)); (first | (refine ObR.mk _ (by assumption) ?_) | (refine ObR.mk _ (by with_reducible rfl) ?_) | (refine ObR.map (by (first | omega | assumption | (simp only [List.length_map, List.length_append, List.length_cons, List.length_nil, List.length_take, List.length_drop, List.length_set, List.length_replicate]; omega))) (fun x hx => ?_)) | (refine ObR.mk _ rfl ?_))) | ((with_reducible refine ObC.f 46 ?_); (first | (with_reducible refine ObC.mk _ ((tomb15 G _ _)) ?_) | (refine ObC.mk _ ((tomb15 G _ _)) ?_))) | ((with_reducible refine ObC.f 50 ?_); (first | (with_reducible refine ObC.mk _ (h22) ?_) | (refine ObC.mk _ (h22) ?_))) | ((with_reducible refine ObEq.mk ?_); (focus (first | rfl | assumption | exact (by cases r <;> cases q <;> first | (simp_all; done) | (simp_all; omega))))))
  · obtain ⟨q, hq⟩ : ∃ q, q = decide ((2 : Int) = 2 ∧ ke = ByteArray.mk #[] ∧ va = ByteArray.mk #[] ∧ (mp : Int) = mp ∧ kk = kk ∧ mn = 0 ∧ ls = [] ∧ sz = sz ∧ bi = bi) := ⟨_, rfl⟩
    have h22 := same22 G 2 2 ke (ByteArray.mk #[]) va (ByteArray.mk #[]) mp mp kk kk mn 0 ls [] sz sz bi bi (by omega) z0 (by omega) z0 (by omega) (by omega) (by omega) l1 q hq
    have h43 := cnt43 G mp hm
    have h44 := has54 G kk (by omega) 0
    obtain ⟨q0, hq0⟩ : ∃ q0, q0 = decide ((0 : Int) ∈ kk) := ⟨_, rfl⟩
    rw [← hq0] at h44
    have hr' : r = true ↔ ¬ bi < 0 ∧ q0 = false ∧ ((kk.length : Nat) : Int) = ((upI mp 32).length : Nat) ∧ 0 ≤ sz ∧ q = true := by rw [hr, hq, hq0]; simp [FormP, BareP, lenP, lenZ]; intros; constructor <;> (intros; simp_all)
    have hu := upI_len mp 32
    clear hr hq hs hq0
    generalize (upI mp 32).length = c at *
    have hr2 : ((kk.length : Nat) : Int) = (c : Nat) → ¬ bi < 0 → 0 ≤ sz → q0 = false → r = q := fun a b d e => by cases r <;> cases q <;> simp_all
    have hr3 : ¬ (((kk.length : Nat) : Int) = (c : Nat) ∧ ¬ bi < 0 ∧ 0 ≤ sz ∧ q0 = false) → r = false := fun a => by cases r with | false => rfl | true => exact absurd ⟨(hr'.1 rfl).2.2.1, (hr'.1 rfl).1, (hr'.1 rfl).2.2.2.1, (hr'.1 rfl).2.1⟩ a
    clear hr'
    refine pc_ofV cop35 ?_
    repeat' ((conv => whnf); first | (with_reducible refine SeqP.go ?_) | ((with_reducible refine ObD.mk ?_ ?_); (focus (first | rfl | (simp; done)))) | ((with_reducible refine ObN.mk ?_ ?_); (focus (first | rfl | assumption | omega | (simp only [List.length_map, List.length_append, List.length_cons, List.length_nil]; omega) | (simp; done) | (simp; omega)))) | (with_reducible refine ObT.tt ?_) | (with_reducible refine ObT.ff ?_) | (with_reducible refine ObT.mk (fun h => ?_) (fun h => ?_)) | ((with_reducible refine ObB.yes ?_ ?_); (focus (first | assumption | (with_reducible rfl) | omega))) | ((with_reducible refine ObB.no ?_ ?_); (focus (first | assumption | omega))) | (with_reducible refine ObB.mk (fun h => ?_) (fun h => ?_)) | ((with_reducible refine (?_ : ObL _ _)); (refine ObL.mk _ (by first | assumption | exact (List.length_map _).trans (by assumption) | exact List.length_map _ | rfl) ?_)) | ((with_reducible refine (?_ : ObU _ _)); (refine ObU.mk _ (by first | assumption | ((conv => lhs; simp only [List.set_cons_zero, List.set_cons_succ, List.take_succ_cons, List.take_zero, List.drop_succ_cons, List.drop_zero, List.nil_append, List.cons_append, List.append_nil, List.take_nil, List.drop_nil]); try rfl) | rfl) ?_)) | ((with_reducible refine (?_ : ObR _ _ _)); (first | (refine ObR.mk _ (by assumption) ?_) | (refine ObR.mk _ (by with_reducible rfl) ?_) | (refine ObR.map (by (first | omega | assumption | (simp only [List.length_map, List.length_append, List.length_cons, List.length_nil, List.length_take, List.length_drop, List.length_set, List.length_replicate]; omega))) (fun x hx => ?_)) | (refine ObR.mk _ rfl ?_))) | ((with_reducible refine ObC.f 39 ?_); (first | (with_reducible refine ObC.mk _ ((branch20 G _ _ _ hk)) ?_) | (refine ObC.mk _ ((branch20 G _ _ _ hk)) ?_))) | ((with_reducible refine ObC.f 30 ?_); (first | (with_reducible refine ObC.mk _ (h43) ?_) | (refine ObC.mk _ (h43) ?_))) | ((with_reducible refine ObC.f 47 ?_); (first | (with_reducible refine ObC.mk _ (h44) ?_) | (refine ObC.mk _ (h44) ?_))) | ((with_reducible refine ObC.f 50 ?_); (first | (with_reducible refine ObC.mk _ (h22) ?_) | (refine ObC.mk _ (h22) ?_))) | ((with_reducible refine ObEq.mk ?_); (focus (first | rfl | assumption | exact (by first | (rw [hr2 (by assumption) (by omega) (by omega) (by assumption)]; done) | (have hf : r = false := hr3 (by rintro ⟨h1, h2, h3, h4⟩; first | omega | simp_all); rw [hf]))))))
  · obtain ⟨q, hq⟩ : ∃ q, q = decide ((3 : Int) = 3 ∧ ke = ByteArray.mk #[] ∧ va = ByteArray.mk #[] ∧ (mp : Int) = 0 ∧ kk = [] ∧ mn = 0 ∧ ls = Pr7.mk ls ∧ sz = ((Pr7.mk ls).length : Nat) ∧ bi = bi) := ⟨_, rfl⟩
    obtain ⟨m1, h34, h19⟩ := hMake G ls hl hs
    have h22 := same22 G 3 3 ke (ByteArray.mk #[]) va (ByteArray.mk #[]) mp 0 kk [] mn 0 ls (Pr7.mk ls) sz ((Pr7.mk ls).length : Nat) bi bi (by omega) z0 (by omega) z0 (by omega) l0 (by omega) (by omega) q hq
    have h18 := bucket18 G ls (Pr7.mk ls) h34
    have hr' : r = true ↔ ¬ bi < 0 ∧ (2 : Int) ≤ (ls.length : Nat) ∧ q = true := by
      rw [hr, hq, decide_eq_true_iff]
      unfold FormP BareP
      rw [lenP, slt_mk]
      generalize Pr7.mk ls = M
      constructor
      · rintro ⟨a, h⟩
        rcases h with ⟨h, _⟩ | ⟨h, _⟩ | ⟨_, b, c, d, e, f, g, _⟩ | ⟨h, _⟩ | ⟨h, _⟩
        · omega
        · omega
        · exact ⟨a, b, rfl, (e rfl).1, (e rfl).2, (f rfl).1, Classical.not_not.1 (f rfl).2, g rfl, c, by rw [d, ← c], rfl⟩
        · omega
        · omega
      · rintro ⟨a, b, _, c, d, e, f, g, i, j, _⟩
        exact ⟨a, .inr (.inr (.inl ⟨rfl, b, i, by rw [j, ← i], fun _ => ⟨c, d⟩, fun _ => ⟨e, fun h => h f⟩, fun _ => g, fun h => by cases h⟩))⟩
    clear hr hq hs h34 h19
    refine pc_ofV cop35 ?_
    repeat' ((conv => whnf); first | (with_reducible refine SeqP.go ?_) | ((with_reducible refine ObD.mk ?_ ?_); (focus (first | rfl | (simp; done)))) | ((with_reducible refine ObN.mk ?_ ?_); (focus (first | rfl | assumption | omega | (simp only [List.length_map, List.length_append, List.length_cons, List.length_nil]; omega) | (simp; done) | (simp; omega)))) | (with_reducible refine ObT.tt ?_) | (with_reducible refine ObT.ff ?_) | ((with_reducible refine ObB.yes ?_ ?_); (focus (first | assumption | (with_reducible rfl) | omega))) | ((with_reducible refine ObB.no ?_ ?_); (focus (first | assumption | omega))) | (with_reducible refine ObB.mk (fun h => ?_) (fun h => ?_)) | ((with_reducible refine (?_ : ObL _ _)); (refine ObL.mk _ (by first | assumption | exact (List.length_map _).trans (by assumption) | exact List.length_map _ | rfl) ?_)) | ((with_reducible refine (?_ : ObU _ _)); (refine ObU.mk _ (by first | assumption | ((conv => lhs; simp only [List.set_cons_zero, List.set_cons_succ, List.take_succ_cons, List.take_zero, List.drop_succ_cons, List.drop_zero, List.nil_append, List.cons_append, List.append_nil, List.take_nil, List.drop_nil]); try rfl) | rfl) ?_)) | ((with_reducible refine (?_ : ObR _ _ _)); (first | (refine ObR.mk _ (by assumption) ?_) | (refine ObR.mk _ (by with_reducible rfl) ?_) | (refine ObR.map (by (first | omega | assumption | (simp only [List.length_map, List.length_append, List.length_cons, List.length_nil, List.length_take, List.length_drop, List.length_set, List.length_replicate]; omega))) (fun x hx => ?_)) | (refine ObR.mk _ rfl ?_))) | ((with_reducible refine ObC.f 48 ?_); (first | (with_reducible refine ObC.mk _ (h18) ?_) | (refine ObC.mk _ (h18) ?_))) | ((with_reducible refine ObC.f 50 ?_); (first | (with_reducible refine ObC.mk _ (h22) ?_) | (refine ObC.mk _ (h22) ?_))) | ((with_reducible refine ObEq.mk ?_); (focus (first | rfl | assumption | exact (by cases r <;> cases q <;> first | (simp_all; done) | (simp_all; omega))))))
  · obtain ⟨q, hq⟩ : ∃ q, q = decide ((4 : Int) = 4 ∧ ke = ke ∧ va = va ∧ (mp : Int) = 0 ∧ kk = kk ∧ mn = 0 ∧ ls = [] ∧ sz = sz ∧ bi = bi) := ⟨_, rfl⟩
    have h22 := same22 G 4 4 ke ke va va mp 0 kk kk mn 0 ls [] sz sz bi bi (by omega) (by omega) (by omega) (by omega) (by omega) (by omega) (by omega) l1 q hq
    have hr' : r = true ↔ ¬ bi < 0 ∧ ((kk.length : Nat) : Int) = 2 ∧ 1 ≤ sz ∧ q = true := by rw [hr, hq]; simp [FormP, BareP, lenP, lenZ]; intros; constructor <;> (intros; simp_all)
    clear hr hq hs
    refine pc_ofV cop35 ?_
    repeat' ((conv => whnf); first | (with_reducible refine SeqP.go ?_) | ((with_reducible refine ObD.mk ?_ ?_); (focus (first | rfl | (simp; done)))) | ((with_reducible refine ObN.mk ?_ ?_); (focus (first | rfl | assumption | omega | (simp only [List.length_map, List.length_append, List.length_cons, List.length_nil]; omega) | (simp; done) | (simp; omega)))) | (with_reducible refine ObT.tt ?_) | (with_reducible refine ObT.ff ?_) | ((with_reducible refine ObB.yes ?_ ?_); (focus (first | assumption | (with_reducible rfl) | omega))) | ((with_reducible refine ObB.no ?_ ?_); (focus (first | assumption | omega))) | (with_reducible refine ObB.mk (fun h => ?_) (fun h => ?_)) | ((with_reducible refine (?_ : ObL _ _)); (refine ObL.mk _ (by first | assumption | exact (List.length_map _).trans (by assumption) | exact List.length_map _ | rfl) ?_)) | ((with_reducible refine (?_ : ObU _ _)); (refine ObU.mk _ (by first | assumption | ((conv => lhs; simp only [List.set_cons_zero, List.set_cons_succ, List.take_succ_cons, List.take_zero, List.drop_succ_cons, List.drop_zero, List.nil_append, List.cons_append, List.append_nil, List.take_nil, List.drop_nil]); try rfl) | rfl) ?_)) | ((with_reducible refine (?_ : ObR _ _ _)); (first | (refine ObR.mk _ (by assumption) ?_) | (refine ObR.mk _ (by with_reducible rfl) ?_) | (refine ObR.map (by (first | omega | assumption | (simp only [List.length_map, List.length_append, List.length_cons, List.length_nil, List.length_take, List.length_drop, List.length_set, List.length_replicate]; omega))) (fun x hx => ?_)) | (refine ObR.mk _ rfl ?_))) | ((with_reducible refine ObC.f 50 ?_); (first | (with_reducible refine ObC.mk _ (h22) ?_) | (refine ObC.mk _ (h22) ?_))) | ((with_reducible refine ObEq.mk ?_); (focus (first | rfl | assumption | exact (by cases r <;> cases q <;> first | (simp_all; done) | (simp_all; omega))))))
  · obtain ⟨q, hq⟩ : ∃ q, q = decide ((5 : Int) = 5 ∧ ke = ByteArray.mk #[] ∧ va = ByteArray.mk #[] ∧ (mp : Int) = 0 ∧ kk = [] ∧ mn = mn ∧ ls = [] ∧ sz = 0 ∧ bi = bi) := ⟨_, rfl⟩
    have h22 := same22 G 5 5 ke (ByteArray.mk #[]) va (ByteArray.mk #[]) mp 0 kk [] mn mn ls [] sz 0 bi bi (by omega) z0 (by omega) z0 (by omega) l0 (by omega) l1 q hq
    have hr' : r = true ↔ ¬ bi < 0 ∧ ¬ mn = 0 ∧ q = true := by rw [hr, hq]; simp [FormP, BareP, lenP, lenZ]; intros; constructor <;> (intros; simp_all)
    clear hr hq hs
    refine pc_ofV cop35 ?_
    repeat' ((conv => whnf); first | (with_reducible refine SeqP.go ?_) | ((with_reducible refine ObD.mk ?_ ?_); (focus (first | rfl | (simp; done)))) | ((with_reducible refine ObN.mk ?_ ?_); (focus (first | rfl | assumption | omega | (simp only [List.length_map, List.length_append, List.length_cons, List.length_nil]; omega) | (simp; done) | (simp; omega)))) | (with_reducible refine ObT.tt ?_) | (with_reducible refine ObT.ff ?_) | ((with_reducible refine ObB.yes ?_ ?_); (focus (first | assumption | (with_reducible rfl) | omega))) | ((with_reducible refine ObB.no ?_ ?_); (focus (first | assumption | omega))) | (with_reducible refine ObB.mk (fun h => ?_) (fun h => ?_)) | ((with_reducible refine (?_ : ObU _ _)); (refine ObU.mk _ (by first | assumption | ((conv => lhs; simp only [List.set_cons_zero, List.set_cons_succ, List.take_succ_cons, List.take_zero, List.drop_succ_cons, List.drop_zero, List.nil_append, List.cons_append, List.append_nil, List.take_nil, List.drop_nil]); try rfl) | rfl) ?_)) | ((with_reducible refine (?_ : ObR _ _ _)); (first | (refine ObR.mk _ (by assumption) ?_) | (refine ObR.mk _ (by with_reducible rfl) ?_) | (refine ObR.map (by (first | omega | assumption | (simp only [List.length_map, List.length_append, List.length_cons, List.length_nil, List.length_take, List.length_drop, List.length_set, List.length_replicate]; omega))) (fun x hx => ?_)) | (refine ObR.mk _ rfl ?_))) | ((with_reducible refine ObC.f 49 ?_); (first | (with_reducible refine ObC.mk _ ((inner17 G _)) ?_) | (refine ObC.mk _ ((inner17 G _)) ?_))) | ((with_reducible refine ObC.f 50 ?_); (first | (with_reducible refine ObC.mk _ (h22) ?_) | (refine ObC.mk _ (h22) ?_))) | ((with_reducible refine ObEq.mk ?_); (focus (first | rfl | assumption | exact (by cases r <;> cases q <;> first | (simp_all; done) | (simp_all; omega))))))
def mayE (kn : Int) (lo q : Bool) : Int := if kn < 1 then 11 else if 6 < kn then 11 else if lo = true then 6 else if q = true then 0 else 4
theorem may8 (G : Nat → AV) (kn : Int) (ke va : ByteArray) (mp : Nat) (kk : List Int) (mn : Int) (ls : List Pr) (sz bi : Int) (hm : mp < 4294967296) (hke : ke.size ≤ 40) (hva : va.size ≤ 40) (hk : kk.length ≤ 40) (hl : ls.length ≤ 40) (hs : ∀ p ∈ ls, p.1.size ≤ 40 ∧ p.2.size ≤ 40) (q : Bool) (hq : q = true ↔ FormP kn ke va mp kk mn ls sz bi) :
    PC Try.prog G 18 [nV kn ke va (mp : Int) kk mn ls sz bi] (I (mayE kn (lg (ke, va) || ls.any lg) q)) := by
  have h29 := isl29 G ke va
  have h30 := fun H => any30 G ls (by omega) H
  have h31 := fun k1 k6 => hasForm31 G kn ke va mp kk mn ls sz bi k1 k6 hm hke hva hk hl hs q hq
  clear hq hs
  generalize lg (ke, va) = a at *
  generalize ls.any lg = b at *
  refine pc_ofV cop18 ?_
  unfold mayE
  by_cases h1 : kn < 1
  · rw [if_pos h1]
    repeat' ((conv => whnf); first | (with_reducible refine SeqP.go ?_) | ((with_reducible refine ObD.mk ?_ ?_); (focus (first | rfl | (simp; done)))) | ((with_reducible refine ObN.mk ?_ ?_); (focus (first | rfl | assumption | omega | (simp only [List.length_map, List.length_append, List.length_cons, List.length_nil]; omega) | (simp; done) | (simp; omega)))) | (with_reducible refine ObT.tt ?_) | ((with_reducible refine ObB.yes ?_ ?_); (focus (first | assumption | (with_reducible rfl) | omega))) | ((with_reducible refine (?_ : ObR _ _ _)); (first | (refine ObR.mk _ (by assumption) ?_) | (refine ObR.mk _ (by with_reducible rfl) ?_) | (refine ObR.map (by (first | omega | assumption | (simp only [List.length_map, List.length_append, List.length_cons, List.length_nil, List.length_take, List.length_drop, List.length_set, List.length_replicate]; omega))) (fun x hx => ?_)) | (refine ObR.mk _ rfl ?_))) | ((with_reducible refine ObEq.i ?_); (focus (first | (with_reducible rfl) | omega))))
  rw [if_neg h1]
  by_cases h6 : 6 < kn
  · rw [if_pos h6]
    repeat' ((conv => whnf); first | (with_reducible refine SeqP.go ?_) | ((with_reducible refine ObD.mk ?_ ?_); (focus (first | rfl | (simp; done)))) | ((with_reducible refine ObN.mk ?_ ?_); (focus (first | rfl | assumption | omega | (simp only [List.length_map, List.length_append, List.length_cons, List.length_nil]; omega) | (simp; done) | (simp; omega)))) | (with_reducible refine ObT.tt ?_) | (with_reducible refine ObT.ff ?_) | ((with_reducible refine ObB.yes ?_ ?_); (focus (first | assumption | (with_reducible rfl) | omega))) | ((with_reducible refine ObB.no ?_ ?_); (focus (first | assumption | omega))) | ((with_reducible refine (?_ : ObR _ _ _)); (first | (refine ObR.mk _ (by assumption) ?_) | (refine ObR.mk _ (by with_reducible rfl) ?_) | (refine ObR.map (by (first | omega | assumption | (simp only [List.length_map, List.length_append, List.length_cons, List.length_nil, List.length_take, List.length_drop, List.length_set, List.length_replicate]; omega))) (fun x hx => ?_)) | (refine ObR.mk _ rfl ?_))) | ((with_reducible refine ObEq.i ?_); (focus (first | (with_reducible rfl) | omega))))
  rw [if_neg h6]
  have h31 := h31 (by omega) (by omega)
  cases a <;> cases b <;> cases q
  all_goals repeat' ((conv => whnf); first | (with_reducible refine SeqP.go ?_) | ((with_reducible refine ObD.mk ?_ ?_); (focus (first | rfl | (simp; done)))) | ((with_reducible refine ObN.mk ?_ ?_); (focus (first | rfl | assumption | omega | (simp only [List.length_map, List.length_append, List.length_cons, List.length_nil]; omega) | (simp; done) | (simp; omega)))) | (with_reducible refine ObT.tt ?_) | (with_reducible refine ObT.ff ?_) | ((with_reducible refine ObB.no ?_ ?_); (focus (first | assumption | omega))) | ((with_reducible refine (?_ : ObR _ _ _)); (first | (refine ObR.mk _ (by assumption) ?_) | (refine ObR.mk _ (by with_reducible rfl) ?_) | (refine ObR.map (by (first | omega | assumption | (simp only [List.length_map, List.length_append, List.length_cons, List.length_nil, List.length_take, List.length_drop, List.length_set, List.length_replicate]; omega))) (fun x hx => ?_)) | (refine ObR.mk _ rfl ?_))) | ((with_reducible refine ObC.f 33 ?_); (first | (with_reducible refine ObC.mk _ (h29) ?_) | (refine ObC.mk _ (h29) ?_))) | ((with_reducible refine ObH.f 34 ?_); (first | (with_reducible refine ObH.mk _ _ ((h30 _)) ?_) | (refine ObH.mk _ _ ((h30 _)) ?_))) | ((with_reducible refine ObC.f 35 ?_); (first | (with_reducible refine ObC.mk _ (h31) ?_) | (refine ObC.mk _ (h31) ?_))) | ((with_reducible refine ObEq.mk ?_); (focus (first | rfl | assumption))))
end Go.Proofs.Ytfdfmhapcjckoaa.Sim
namespace Go.Proofs.Ytfdfmhapcjckoaa.Sim
open Go.RowKit
set_option maxRecDepth 100000
abbrev nB (a : List Int) (sz bi : Int) : AV := nV 2 (ByteArray.mk #[]) (ByteArray.mk #[]) (bm a : Int) (kz a) 0 [] sz bi
section
variable {a : List Int} {sz bi : Int} (ha : a.length = 32)
include ha
end
def chI (a : List Int) (i : Int) : Int := if 0 ≤ i ∧ i < 32 then a.getD i.toNat 0 else 0
def ptI (a : List Int) (i r : Int) : List Int := if 0 ≤ i ∧ i < 32 then a.set i.toNat r else a
section
variable (G : Nat → AV)
theorem upI_ps (a : List Int) : upI (bm a) 32 = (ps a 32).map Int.ofNat := by unfold upI; rw [up_ps a 32 (Nat.le_refl _)]
abbrev z32 : List Int := [0, 0, 0, 0, 0, 0, 0, 0, 0, 0, 0, 0, 0, 0, 0, 0, 0, 0, 0, 0, 0, 0, 0, 0, 0, 0, 0, 0, 0, 0, 0, 0]
theorem z32_0 : ∀ i : Fin 32, z32.getD i.1 0 = 0 := by decide
theorem bm_z : bm z32 = 0 := by
  refine (eq_bm (a := z32) (m := 0) (by decide) ?_).symm
  intro j hj
  rw [Nat.zero_testBit]
  symm
  rw [decide_eq_false_iff_not]
  exact fun h => h (z32_0 ⟨j, hj⟩)
theorem kz_z : kz z32 = [] := by decide
theorem asBr23 (a : List Int) (sz bi : Int) (ha : a.length = 32) (h18 : PC Try.prog G 18 [nB a sz bi] (I 0)) : PC Try.prog G 23 [nB a sz bi] (nB a sz bi) := by
  have hk := kz_len a
  have h40 := copyN G 2 (ByteArray.mk #[]) (ByteArray.mk #[]) (bm a : Int) (kz a) 0 [] sz bi (by omega) (by simp)
  refine pc_ofV cop23 ?_
  repeat' ((conv => whnf); first | (with_reducible refine SeqP.go ?_) | ((with_reducible refine ObD.mk ?_ ?_); (focus (first | rfl | (simp; done)))) | ((with_reducible refine ObN.mk ?_ ?_); (focus (first | rfl | assumption | omega | (simp only [List.length_map, List.length_append, List.length_cons, List.length_nil]; omega) | (simp; done) | (simp; omega)))) | (with_reducible refine ObT.ff ?_) | ((with_reducible refine ObB.yes ?_ ?_); (focus (first | assumption | (with_reducible rfl) | omega))) | ((with_reducible refine (?_ : ObU _ _)); (refine ObU.mk _ (by first | assumption | ((conv => lhs; simp only [List.set_cons_zero, List.set_cons_succ, List.take_succ_cons, List.take_zero, List.drop_succ_cons, List.drop_zero, List.nil_append, List.cons_append, List.append_nil, List.take_nil, List.drop_nil]); try rfl) | rfl) ?_)) | ((with_reducible refine (?_ : ObR _ _ _)); (first | (refine ObR.mk _ (by assumption) ?_) | (refine ObR.mk _ (by with_reducible rfl) ?_) | (refine ObR.map (by (first | omega | assumption | (simp only [List.length_map, List.length_append, List.length_cons, List.length_nil, List.length_take, List.length_drop, List.length_set, List.length_replicate]; omega))) (fun x hx => ?_)) | (refine ObR.mk _ rfl ?_))) | ((with_reducible refine ObC.f 18 ?_); (first | (with_reducible refine ObC.mk _ (h18) ?_) | (refine ObC.mk _ (h18) ?_))) | ((with_reducible refine ObC.f 40 ?_); (first | (with_reducible refine ObC.mk _ (h40) ?_) | (refine ObC.mk _ (h40) ?_))) | ((with_reducible refine ObEq.mk ?_); (focus (first | rfl | assumption))))
theorem asBr23x (kn : Int) (ke va : ByteArray) (mp : Nat) (kk : List Int) (mn : Int) (ls : List Pr) (sz bi e : Int) (h18 : PC Try.prog G 18 [nV kn ke va (mp : Int) kk mn ls sz bi] (I e)) (hx : ¬ kn = 2 ∨ ¬ e = 0) : PC Try.prog G 23 [nV kn ke va (mp : Int) kk mn ls sz bi] (nB z32 0 0) := by
  have h39 : PC Try.prog G 39 [.v (.int .u32 0), .sl 1 [], I 0] (nB z32 0 0) := by
    have := branch20 G 0 [] 0 (by simp)
    unfold nB
    rw [bm_z, kz_z]
    exact this
  by_cases hk : kn = 2
  · have he : ¬ e = 0 := hx.resolve_left (fun h => h hk)
    refine pc_ofV cop23 ?_
    repeat' ((conv => whnf); first | (with_reducible refine SeqP.go ?_) | ((with_reducible refine ObD.mk ?_ ?_); (focus (first | rfl | (simp; done)))) | ((with_reducible refine ObN.mk ?_ ?_); (focus (first | rfl | assumption | omega | (simp only [List.length_map, List.length_append, List.length_cons, List.length_nil]; omega) | (simp; done) | (simp; omega)))) | (with_reducible refine ObT.tt ?_) | (with_reducible refine ObT.ff ?_) | ((with_reducible refine ObB.yes ?_ ?_); (focus (first | assumption | (with_reducible rfl) | omega))) | ((with_reducible refine ObB.no ?_ ?_); (focus (first | assumption | omega))) | ((with_reducible refine (?_ : ObU _ _)); (refine ObU.mk _ (by first | assumption | ((conv => lhs; simp only [List.set_cons_zero, List.set_cons_succ, List.take_succ_cons, List.take_zero, List.drop_succ_cons, List.drop_zero, List.nil_append, List.cons_append, List.append_nil, List.take_nil, List.drop_nil]); try rfl) | rfl) ?_)) | ((with_reducible refine (?_ : ObR _ _ _)); (first | (refine ObR.mk _ (by assumption) ?_) | (refine ObR.mk _ (by with_reducible rfl) ?_) | (refine ObR.map (by (first | omega | assumption | (simp only [List.length_map, List.length_append, List.length_cons, List.length_nil, List.length_take, List.length_drop, List.length_set, List.length_replicate]; omega))) (fun x hx => ?_)) | (refine ObR.mk _ rfl ?_))) | ((with_reducible refine ObC.f 18 ?_); (first | (with_reducible refine ObC.mk _ (h18) ?_) | (refine ObC.mk _ (h18) ?_))) | ((with_reducible refine ObC.f 39 ?_); (first | (with_reducible refine ObC.mk _ (h39) ?_) | (refine ObC.mk _ (h39) ?_))) | ((with_reducible refine ObEq.mk ?_); (focus (first | rfl | assumption))))
  · refine pc_ofV cop23 ?_
    repeat' ((conv => whnf); first | (with_reducible refine SeqP.go ?_) | ((with_reducible refine ObD.mk ?_ ?_); (focus (first | rfl | (simp; done)))) | ((with_reducible refine ObN.mk ?_ ?_); (focus (first | rfl | assumption | omega | (simp only [List.length_map, List.length_append, List.length_cons, List.length_nil]; omega) | (simp; done) | (simp; omega)))) | (with_reducible refine ObT.tt ?_) | ((with_reducible refine ObB.no ?_ ?_); (focus (first | assumption | omega))) | ((with_reducible refine (?_ : ObU _ _)); (refine ObU.mk _ (by first | assumption | ((conv => lhs; simp only [List.set_cons_zero, List.set_cons_succ, List.take_succ_cons, List.take_zero, List.drop_succ_cons, List.drop_zero, List.nil_append, List.cons_append, List.append_nil, List.take_nil, List.drop_nil]); try rfl) | rfl) ?_)) | ((with_reducible refine (?_ : ObR _ _ _)); (first | (refine ObR.mk _ (by assumption) ?_) | (refine ObR.mk _ (by with_reducible rfl) ?_) | (refine ObR.map (by (first | omega | assumption | (simp only [List.length_map, List.length_append, List.length_cons, List.length_nil, List.length_take, List.length_drop, List.length_set, List.length_replicate]; omega))) (fun x hx => ?_)) | (refine ObR.mk _ rfl ?_))) | ((with_reducible refine ObC.f 39 ?_); (first | (with_reducible refine ObC.mk _ (h39) ?_) | (refine ObC.mk _ (h39) ?_))) | ((with_reducible refine ObEq.mk ?_); (focus (first | rfl | assumption))))
end
end Go.Proofs.Ytfdfmhapcjckoaa.Sim
namespace Go.Proofs.Ytfdfmhapcjckoaa.Sim
open Go.RowKit
set_option maxRecDepth 100000
set_option linter.unusedSectionVars false
section
variable (G : Nat → AV)
theorem works14 : PC Try.prog G 14 [] (Bo true) := runsTo_true tab_ok (n := 2000) (by kernel_rfl)
theorem form2 (ke va : ByteArray) (mp : Nat) (kk : List Int) (mn : Int) (ls : List Pr) (sz bi : Int) (hm : mp < 4294967296) (h : FormP 2 ke va mp kk mn ls sz bi) : nV 2 ke va (mp : Int) kk mn ls sz bi = nB (arr mp kk) sz bi := by
  obtain ⟨_, hf⟩ := h
  obtain ⟨h0, hl, hz, hb⟩ : ¬ (0 : Int) ∈ kk ∧ ((kk.length : Nat) : Int) = ((upI mp 32).length : Nat) ∧ 0 ≤ sz ∧ BareP ke va mp kk mn ls true false true true := by
    rcases hf with ⟨h, _⟩ | ⟨_, h1, h2, h3, h4⟩ | ⟨h, _⟩ | ⟨h, _⟩ | ⟨h, _⟩
    · omega
    · exact ⟨h1, h2, h3, h4⟩
    all_goals omega
  obtain ⟨hb1, _, hb3, hb4⟩ := hb
  obtain ⟨rfl, rfl⟩ := hb1 rfl
  obtain rfl : mn = 0 := hb3 rfl
  obtain rfl : ls = [] := lenZ.1 (hb4 rfl)
  have hkl : kk.length = (Mk.all mp).length := by
    have : (upI mp 32).length = (Mk.all mp).length := by unfold upI; rw [List.length_map]; rfl
    omega
  unfold nB
  rw [← arr_bm hm hkl h0, ← arr_kz hm hkl h0]
variable {kn : Int} {ke va : ByteArray} {mp : Nat} {kk : List Int} {mn : Int} {ls : List Pr} {sz bi : Int} {a : List Int} {s b : Int} (ha : a.length = 32) (h23 : PC Try.prog G 23 [nV kn ke va (mp : Int) kk mn ls sz bi] (nB a s b))
include ha h23
theorem child10 (i : Int) (hi : i64 i) : PC Try.prog G 10 [nV kn ke va (mp : Int) kk mn ls sz bi, I i] (I (chI a i)) := by
  have h25 := has25 G (bm a) i (bm_lt a) hi
  rw [has_bm] at h25
  by_cases h : 0 ≤ i ∧ i < 32 ∧ a.getD i.toNat 0 ≠ 0
  · rw [decide_eq_true h] at h25
    obtain ⟨n, rfl⟩ := Int.eq_ofNat_of_zero_le h.1
    have hn : n < 32 := by omega
    have h26 := place26 G (bm a) n (bm_lt a) hi
    rw [place_bm a n ha (by omega)] at h26
    have e := kz_at a n (by omega) (by have := h.2.2; rwa [Int.toNat_natCast] at this)
    have e' : ((kz a).map iA)[(kz (a.take n)).length]? = some (I (a.getD n 0)) := by rw [List.getElem?_map, e]; rfl
    have hlt : (kz (a.take n)).length < (kz a).length := (List.getElem?_eq_some_iff.1 e).1
    have hc : chI a n = a.getD n 0 := by unfold chI; rw [if_pos ⟨by omega, by omega⟩, Int.toNat_natCast]
    rw [hc]
    clear h hc hi e
    refine pc_ofV cop10 ?_
    repeat' ((conv => whnf); first | (with_reducible refine SeqP.go ?_) | ((with_reducible refine ObD.mk ?_ ?_); (focus (first | rfl | (simp; done)))) | ((with_reducible refine ObN.mk ?_ ?_); (focus (first | rfl | assumption | omega | (simp only [List.length_map, List.length_append, List.length_cons, List.length_nil]; omega) | (simp; done) | (simp; omega)))) | (with_reducible refine ObT.tt ?_) | (with_reducible refine ObT.ff ?_) | ((with_reducible refine ObX.mk _ rfl ?_ ?_); (focus (first | omega | assumption | (simp only [List.length_map, List.length_append, List.length_cons, List.length_nil, List.length_take, List.length_drop, List.length_set, List.length_replicate]; omega)))) | ((with_reducible refine (?_ : ObU _ _)); (refine ObU.mk _ (by first | assumption | ((conv => lhs; simp only [List.set_cons_zero, List.set_cons_succ, List.take_succ_cons, List.take_zero, List.drop_succ_cons, List.drop_zero, List.nil_append, List.cons_append, List.append_nil, List.take_nil, List.drop_nil]); try rfl) | rfl) ?_)) | ((with_reducible refine (?_ : ObR _ _ _)); (first | (refine ObR.mk _ (by assumption) ?_) | (refine ObR.mk _ (by exact e') ?_) | (refine ObR.mk _ (by with_reducible rfl) ?_) | (refine ObR.map (by (first | omega | assumption | (simp only [List.length_map, List.length_append, List.length_cons, List.length_nil, List.length_take, List.length_drop, List.length_set, List.length_replicate]; omega))) (fun x hx => ?_)) | (refine ObR.mk _ rfl ?_))) | ((with_reducible refine ObC.f 23 ?_); (first | (with_reducible refine ObC.mk _ (h23) ?_) | (refine ObC.mk _ (h23) ?_))) | ((with_reducible refine ObC.f 25 ?_); (first | (with_reducible refine ObC.mk _ (h25) ?_) | (refine ObC.mk _ (h25) ?_))) | ((with_reducible refine ObC.f 26 ?_); (first | (with_reducible refine ObC.mk _ (h26) ?_) | (refine ObC.mk _ (h26) ?_))) | ((with_reducible refine ObEq.i ?_); (focus (first | (with_reducible rfl) | omega))))
  · rw [decide_eq_false h] at h25
    have hc : chI a i = 0 := by
      unfold chI
      split
      · rename_i h'
        exact Classical.not_not.1 fun hx => h ⟨h'.1, h'.2, hx⟩
      · rfl
    rw [hc]
    clear h
    refine pc_ofV cop10 ?_
    repeat' ((conv => whnf); first | (with_reducible refine SeqP.go ?_) | ((with_reducible refine ObD.mk ?_ ?_); (focus (first | rfl | (simp; done)))) | ((with_reducible refine ObN.mk ?_ ?_); (focus (first | rfl | assumption | omega | (simp only [List.length_map, List.length_append, List.length_cons, List.length_nil]; omega) | (simp; done) | (simp; omega)))) | (with_reducible refine ObT.tt ?_) | (with_reducible refine ObT.ff ?_) | ((with_reducible refine (?_ : ObU _ _)); (refine ObU.mk _ (by first | assumption | ((conv => lhs; simp only [List.set_cons_zero, List.set_cons_succ, List.take_succ_cons, List.take_zero, List.drop_succ_cons, List.drop_zero, List.nil_append, List.cons_append, List.append_nil, List.take_nil, List.drop_nil]); try rfl) | rfl) ?_)) | ((with_reducible refine (?_ : ObR _ _ _)); (first | (refine ObR.mk _ (by assumption) ?_) | (refine ObR.mk _ (by with_reducible rfl) ?_) | (refine ObR.map (by (first | omega | assumption | (simp only [List.length_map, List.length_append, List.length_cons, List.length_nil, List.length_take, List.length_drop, List.length_set, List.length_replicate]; omega))) (fun x hx => ?_)) | (refine ObR.mk _ rfl ?_))) | ((with_reducible refine ObC.f 23 ?_); (first | (with_reducible refine ObC.mk _ (h23) ?_) | (refine ObC.mk _ (h23) ?_))) | ((with_reducible refine ObC.f 25 ?_); (first | (with_reducible refine ObC.mk _ (h25) ?_) | (refine ObC.mk _ (h25) ?_))) | ((with_reducible refine ObEq.i ?_); (focus (first | (with_reducible rfl) | omega))))
end
end Go.Proofs.Ytfdfmhapcjckoaa.Sim
namespace Go.Proofs.Ytfdfmhapcjckoaa.Sim
open Go.RowKit
set_option maxRecDepth 100000
set_option linter.unusedSectionVars false
section
variable (G : Nat → AV)
abbrev nK2 (m : Nat) (l : List Int) (s b : Int) : AV := nV 2 (ByteArray.mk #[]) (ByteArray.mk #[]) (m : Int) l 0 [] s b
theorem changed31 (m m' : Nat) (l l' : List Int) (s b : Int) (hl : l'.length ≤ 40) : PC Try.prog G 31 [nK2 m l s b, .v (.int .u32 (m' : Int)), .sl 1 (l'.map iA)] (nK2 m' l' s b) := by
  have h39 := branch20 G (m' : Int) l' s hl
  refine pc_ofV cop31 ?_
  repeat' ((conv => whnf); first | (with_reducible refine SeqP.go ?_) | ((with_reducible refine ObD.mk ?_ ?_); (focus (first | rfl | (simp; done)))) | ((with_reducible refine ObN.mk ?_ ?_); (focus (first | rfl | assumption | omega | (simp only [List.length_map, List.length_append, List.length_cons, List.length_nil]; omega) | (simp; done) | (simp; omega)))) | ((with_reducible refine (?_ : ObU _ _)); (refine ObU.mk _ (by first | assumption | ((conv => lhs; simp only [List.set_cons_zero, List.set_cons_succ, List.take_succ_cons, List.take_zero, List.drop_succ_cons, List.drop_zero, List.nil_append, List.cons_append, List.append_nil, List.take_nil, List.drop_nil]); try rfl) | rfl) ?_)) | ((with_reducible refine (?_ : ObR _ _ _)); (first | (refine ObR.mk _ (by assumption) ?_) | (refine ObR.mk _ (by with_reducible rfl) ?_) | (refine ObR.map (by (first | omega | assumption | (simp only [List.length_map, List.length_append, List.length_cons, List.length_nil, List.length_take, List.length_drop, List.length_set, List.length_replicate]; omega))) (fun x hx => ?_)) | (refine ObR.mk _ rfl ?_))) | ((with_reducible refine ObC.f 39 ?_); (first | (with_reducible refine ObC.mk _ (h39) ?_) | (refine ObC.mk _ (h39) ?_))) | ((with_reducible refine ObEq.mk ?_); (focus (first | rfl | assumption))))
section
variable {kn : Int} {ke va : ByteArray} {mp : Nat} {kk : List Int} {mn : Int} {ls : List Pr} {sz bi : Int} {mA mC : Nat} {P O Q : List Int} {n : Nat} {s b : Int} (hn : n < 32) (hP : P.length ≤ 32) (hO : O.length ≤ 32) (hQ : Q.length ≤ 32)
include hn hP hO hQ
set_option maxHeartbeats 4000000 in
theorem with16g {r : Int} (hr : ¬ r = 0) (h23 : PC Try.prog G 23 [nV kn ke va (mp : Int) kk mn ls sz bi] (nK2 mA (P ++ (O ++ Q)) s b)) (h29 : PC Try.prog G 29 [.v (.int .u32 (mA : Int)), I n] (.v (.int .u32 (mC : Int)))) (h25 : PC Try.prog G 25 [.v (.int .u32 (mC : Int)), I n] (Bo true))
    (h26 : PC Try.prog G 26 [.v (.int .u32 (mC : Int)), I n] (I (P.length : Nat))) (h26' : PC Try.prog G 26 [.v (.int .u32 (mA : Int)), I ((n + 1 : Nat) : Int)] (I ((P.length + O.length : Nat) : Int))) (h30 : PC Try.prog G 30 [.v (.int .u32 (mC : Int))] (I ((P.length + 1 + Q.length : Nat) : Int)))
    (h31 : PC Try.prog G 31 [nK2 mA (P ++ (O ++ Q)) s b, .v (.int .u32 (mC : Int)), .sl 1 ((P ++ (r :: Q)).map iA)] (nK2 mC (P ++ (r :: Q)) s b)) : PC Try.prog G 16 [nV kn ke va (mp : Int) kk mn ls sz bi, I n, I r] (nK2 mC (P ++ (r :: Q)) s b) := by
  have l0 : ((P ++ (O ++ Q)).map iA).length = P.length + O.length + Q.length := by simp [Nat.add_assoc]
  have u1 : ((((P ++ (O ++ Q)).map iA).take P.length).drop 0) = P.map iA := by simp [List.map_append]
  have l1 : min (P.map iA).length (P.length + 1 + Q.length) = P.length := by simp; omega
  have u2 : (P.map iA).take P.length ++ (List.replicate (P.length + 1 + Q.length) (I 0)).drop P.length = P.map iA ++ List.replicate (1 + Q.length) (I 0) := by
    rw [List.take_of_length_le (by simp), List.drop_replicate]; congr 2; omega
  have u3 : (P.map iA ++ List.replicate (1 + Q.length) (I 0)).set P.length (I r) = P.map iA ++ (I r :: List.replicate Q.length (I 0)) := by
    rw [List.set_append_right _ _ (by simp), List.length_map, Nat.sub_self, Nat.add_comm, List.replicate_succ]; rfl
  have u4 : ∀ j, P.length + O.length + Q.length ≤ j → (((P ++ (O ++ Q)).map iA).take j).drop (P.length + O.length) = Q.map iA := fun j hj => by
    rw [List.take_of_length_le (by omega), ← List.append_assoc, List.map_append, List.drop_append_of_le_length (by simp), List.drop_of_length_le (by simp)]; rfl
  have l2 : min (Q.map iA).length (P.length + 1 + Q.length - (P.length + 1)) = Q.length := by simp <;> omega
  have u5 : (P.map iA ++ (I r :: List.replicate Q.length (I 0))).take (P.length + 1) ++ ((Q.map iA).take Q.length ++ (P.map iA ++ (I r :: List.replicate Q.length (I 0))).drop (P.length + 1 + Q.length)) = (P ++ (r :: Q)).map iA := by
    rw [List.take_of_length_le (l := Q.map iA) (by simp), List.drop_of_length_le (by simp; omega), List.append_nil, List.take_append, List.take_of_length_le (by simp), List.length_map]
    simp [Nat.add_sub_cancel_left, List.map_append, iA]
  have u6 : ((P ++ (r :: Q)).map iA).take (P.length + 1 + Q.length) = (P ++ (r :: Q)).map iA := List.take_of_length_le (by simp; omega)
  have r3 : (P.map iA ++ List.replicate (1 + Q.length) (I 0))[P.length]? = some (I 0) := by
    rw [List.getElem?_append_right (by simp), List.length_map, Nat.sub_self, Nat.add_comm, List.replicate_succ, List.getElem?_cons_zero]
  have g3 : (P.map iA ++ List.replicate (1 + Q.length) (I 0)).length = P.length + 1 + Q.length := by simp; omega
  have g4 : (P.map iA ++ (I r :: List.replicate Q.length (I 0))).length = P.length + 1 + Q.length := by simp; omega
  have g5 : ((P ++ (r :: Q)).map iA).length = P.length + 1 + Q.length := by simp; omega
  refine pc_ofV cop16 ?_
  repeat' ((conv => whnf); first | (with_reducible refine SeqP.go ?_) | ((with_reducible refine ObD.mk ?_ ?_); (focus (first | rfl | (simp; done)))) | ((with_reducible refine ObN.mk ?_ ?_); (focus (first | exact (all_iA _) | rfl | assumption | omega | (simp only [List.length_map, List.length_append, List.length_cons, List.length_nil]; omega) | (simp; done) | (simp; omega)))) | (with_reducible refine ObT.tt ?_) | (with_reducible refine ObT.ff ?_) | ((with_reducible refine ObB.no ?_ ?_); (focus (first | assumption | omega))) | ((with_reducible refine ObI.nl ?_ ?_); (focus omega)) | ((with_reducible refine ObX.mk _ rfl ?_ ?_); (focus (first | omega | assumption | (simp only [List.length_map, List.length_append, List.length_cons, List.length_nil, List.length_take, List.length_drop, List.length_set, List.length_replicate]; omega)))) | ((with_reducible refine ObY.mk _ rfl ?_ ?_); (focus (first | omega | assumption | (simp only [List.length_map, List.length_append, List.length_cons, List.length_nil, List.length_take, List.length_drop, List.length_set, List.length_replicate]; omega)))) | ((with_reducible refine (?_ : ObL _ _)); (refine ObL.mk _ (by first | exact l1 | exact l2 | exact (Int.toNat_natCast _) | assumption | exact (List.length_map _).trans (by assumption) | exact List.length_map _ | rfl) ?_)) | ((with_reducible refine (?_ : ObU _ _)); (refine ObU.mk _ (by first | exact u1 | exact u2 | exact u3 | exact (u4 _ (by omega)) | exact u5 | exact u6 | assumption | ((conv => lhs; simp only [List.set_cons_zero, List.set_cons_succ, List.take_succ_cons, List.take_zero, List.drop_succ_cons, List.drop_zero, List.nil_append, List.cons_append, List.append_nil, List.take_nil, List.drop_nil]); try rfl) | rfl) ?_)) | ((with_reducible refine (?_ : ObR _ _ _)); (first | (refine ObR.mk _ (by assumption) ?_) | (refine ObR.mk _ (by exact r3) ?_) | (refine ObR.mk _ (by with_reducible rfl) ?_) | (refine ObR.map (by (first | omega | assumption | (simp only [List.length_map, List.length_append, List.length_cons, List.length_nil, List.length_take, List.length_drop, List.length_set, List.length_replicate]; omega))) (fun x hx => ?_)) | (refine ObR.mk _ rfl ?_))) | ((with_reducible refine ObC.f 23 ?_); (first | (with_reducible refine ObC.mk _ (h23) ?_) | (refine ObC.mk _ (h23) ?_))) | ((with_reducible refine ObC.f 29 ?_); (first | (with_reducible refine ObC.mk _ (h29) ?_) | (refine ObC.mk _ (h29) ?_))) | ((with_reducible refine ObC.f 25 ?_); (first | (with_reducible refine ObC.mk _ (h25) ?_) | (refine ObC.mk _ (h25) ?_))) | ((with_reducible refine ObC.f 26 ?_); (first | (with_reducible refine ObC.mk _ (h26) ?_) | (refine ObC.mk _ (h26) ?_))) | ((with_reducible refine ObC.f 26 ?_); (first | (with_reducible refine ObC.mk _ (h26') ?_) | (refine ObC.mk _ (h26') ?_))) | ((with_reducible refine ObC.f 30 ?_); (first | (with_reducible refine ObC.mk _ (h30) ?_) | (refine ObC.mk _ (h30) ?_))) | ((with_reducible refine ObC.f 31 ?_); (first | (with_reducible refine ObC.mk _ (h31) ?_) | (refine ObC.mk _ (h31) ?_))) | ((with_reducible refine ObJ.nz ?_ ?_); (focus (first | omega | assumption | (simp only [List.length_map, List.length_append, List.length_cons, List.length_nil, List.length_take, List.length_drop, List.length_set, List.length_replicate]; omega)))) | ((with_reducible refine ObJ.zn ?_ ?_); (focus (first | omega | assumption | (simp only [List.length_map, List.length_append, List.length_cons, List.length_nil, List.length_take, List.length_drop, List.length_set, List.length_replicate]; omega)))) | ((with_reducible refine ObEq.mk ?_); (focus (first | rfl | assumption))))
theorem with16z (h23 : PC Try.prog G 23 [nV kn ke va (mp : Int) kk mn ls sz bi] (nK2 mA Q s b)) {i : Int} {v : Nat} (h29 : PC Try.prog G 29 [.v (.int .u32 (mA : Int)), I i] (.v (.int .u32 (v : Int)))) : PC Try.prog G 16 [nV kn ke va (mp : Int) kk mn ls sz bi, I i, I 0] (nK2 mA Q s b) := by
  refine pc_ofV cop16 ?_
  repeat' ((conv => whnf); first | (with_reducible refine SeqP.go ?_) | ((with_reducible refine ObD.mk ?_ ?_); (focus (first | rfl | (simp; done)))) | ((with_reducible refine ObN.mk ?_ ?_); (focus (first | rfl | assumption | omega | (simp only [List.length_map, List.length_append, List.length_cons, List.length_nil]; omega) | (simp; done) | (simp; omega)))) | (with_reducible refine ObT.tt ?_) | ((with_reducible refine ObB.yes ?_ ?_); (focus (first | assumption | (with_reducible rfl) | omega))) | ((with_reducible refine (?_ : ObU _ _)); (refine ObU.mk _ (by first | assumption | ((conv => lhs; simp only [List.set_cons_zero, List.set_cons_succ, List.take_succ_cons, List.take_zero, List.drop_succ_cons, List.drop_zero, List.nil_append, List.cons_append, List.append_nil, List.take_nil, List.drop_nil]); try rfl) | rfl) ?_)) | ((with_reducible refine (?_ : ObR _ _ _)); (first | (refine ObR.mk _ (by assumption) ?_) | (refine ObR.mk _ (by with_reducible rfl) ?_) | (refine ObR.map (by (first | omega | assumption | (simp only [List.length_map, List.length_append, List.length_cons, List.length_nil, List.length_take, List.length_drop, List.length_set, List.length_replicate]; omega))) (fun x hx => ?_)) | (refine ObR.mk _ rfl ?_))) | ((with_reducible refine ObC.f 23 ?_); (first | (with_reducible refine ObC.mk _ (h23) ?_) | (refine ObC.mk _ (h23) ?_))) | ((with_reducible refine ObC.f 29 ?_); (first | (with_reducible refine ObC.mk _ (h29) ?_) | (refine ObC.mk _ (h29) ?_))) | ((with_reducible refine ObEq.mk ?_); (focus (first | rfl | assumption))))
theorem with16o {r : Int} (hr : ¬ r = 0) (h23 : PC Try.prog G 23 [nV kn ke va (mp : Int) kk mn ls sz bi] (nK2 mA Q s b)) {i : Int} {v : Nat} (h29 : PC Try.prog G 29 [.v (.int .u32 (mA : Int)), I i] (.v (.int .u32 (v : Int)))) (h25 : PC Try.prog G 25 [.v (.int .u32 (v : Int)), I i] (Bo false)) : PC Try.prog G 16 [nV kn ke va (mp : Int) kk mn ls sz bi, I i, I r] (nK2 mA Q s b) := by
  refine pc_ofV cop16 ?_
  repeat' ((conv => whnf); first | (with_reducible refine SeqP.go ?_) | ((with_reducible refine ObD.mk ?_ ?_); (focus (first | rfl | (simp; done)))) | ((with_reducible refine ObN.mk ?_ ?_); (focus (first | rfl | assumption | omega | (simp only [List.length_map, List.length_append, List.length_cons, List.length_nil]; omega) | (simp; done) | (simp; omega)))) | (with_reducible refine ObT.tt ?_) | (with_reducible refine ObT.ff ?_) | ((with_reducible refine ObB.no ?_ ?_); (focus (first | assumption | omega))) | ((with_reducible refine (?_ : ObU _ _)); (refine ObU.mk _ (by first | assumption | ((conv => lhs; simp only [List.set_cons_zero, List.set_cons_succ, List.take_succ_cons, List.take_zero, List.drop_succ_cons, List.drop_zero, List.nil_append, List.cons_append, List.append_nil, List.take_nil, List.drop_nil]); try rfl) | rfl) ?_)) | ((with_reducible refine (?_ : ObR _ _ _)); (first | (refine ObR.mk _ (by assumption) ?_) | (refine ObR.mk _ (by with_reducible rfl) ?_) | (refine ObR.map (by (first | omega | assumption | (simp only [List.length_map, List.length_append, List.length_cons, List.length_nil, List.length_take, List.length_drop, List.length_set, List.length_replicate]; omega))) (fun x hx => ?_)) | (refine ObR.mk _ rfl ?_))) | ((with_reducible refine ObC.f 23 ?_); (first | (with_reducible refine ObC.mk _ (h23) ?_) | (refine ObC.mk _ (h23) ?_))) | ((with_reducible refine ObC.f 29 ?_); (first | (with_reducible refine ObC.mk _ (h29) ?_) | (refine ObC.mk _ (h29) ?_))) | ((with_reducible refine ObC.f 25 ?_); (first | (with_reducible refine ObC.mk _ (h25) ?_) | (refine ObC.mk _ (h25) ?_))) | ((with_reducible refine ObEq.mk ?_); (focus (first | rfl | assumption))))
set_option maxHeartbeats 4000000 in
theorem without17g {x : Int} (h23 : PC Try.prog G 23 [nV kn ke va (mp : Int) kk mn ls sz bi] (nK2 mA (P ++ (x :: Q)) s b)) (h25 : PC Try.prog G 25 [.v (.int .u32 (mA : Int)), I n] (Bo true)) (h32 : PC Try.prog G 32 [.v (.int .u32 (mA : Int)), I n] (.v (.int .u32 (mC : Int))))
    (h26 : PC Try.prog G 26 [.v (.int .u32 (mA : Int)), I n] (I (P.length : Nat))) (h30 : PC Try.prog G 30 [.v (.int .u32 (mC : Int))] (I ((P.length + Q.length : Nat) : Int)))
    (h31 : PC Try.prog G 31 [nK2 mA (P ++ (x :: Q)) s b, .v (.int .u32 (mC : Int)), .sl 1 ((P ++ Q).map iA)] (nK2 mC (P ++ Q) s b)) : PC Try.prog G 17 [nV kn ke va (mp : Int) kk mn ls sz bi, I n] (nK2 mC (P ++ Q) s b) := by
  have l0 : ((P ++ (x :: Q)).map iA).length = P.length + 1 + Q.length := by simp; omega
  have u1 : ((((P ++ (x :: Q)).map iA).take P.length).drop 0) = P.map iA := by simp [List.map_append]
  have l1 : min (P.map iA).length (P.length + Q.length) = P.length := by simp
  have u2 : (P.map iA).take P.length ++ (List.replicate (P.length + Q.length) (I 0)).drop P.length = P.map iA ++ List.replicate Q.length (I 0) := by
    rw [List.take_of_length_le (by simp), List.drop_replicate]; congr 2; omega
  have u4 : ∀ j, P.length + 1 + Q.length ≤ j → (((P ++ (x :: Q)).map iA).take j).drop (P.length + 1) = Q.map iA := fun j hj => by
    rw [List.take_of_length_le (by omega), List.map_append, List.map_cons, List.drop_append, List.drop_of_length_le (by simp), List.length_map, Nat.add_sub_cancel_left]; rfl
  have l2 : min (Q.map iA).length (P.length + Q.length - P.length) = Q.length := by simp
  have u5 : (P.map iA ++ List.replicate Q.length (I 0)).take P.length ++ ((Q.map iA).take Q.length ++ (P.map iA ++ List.replicate Q.length (I 0)).drop (P.length + Q.length)) = (P ++ Q).map iA := by
    rw [List.take_of_length_le (l := Q.map iA) (by simp), List.drop_of_length_le (by simp), List.append_nil, List.take_append_of_le_length (by simp), List.take_of_length_le (by simp), List.map_append]
  have u6 : ((P ++ Q).map iA).take (P.length + Q.length) = (P ++ Q).map iA := List.take_of_length_le (by simp)
  have g3 : (P.map iA ++ List.replicate Q.length (I 0)).length = P.length + Q.length := by simp
  have g5 : ((P ++ Q).map iA).length = P.length + Q.length := by simp
  refine pc_ofV cop17 ?_
  repeat' ((conv => whnf); first | (with_reducible refine SeqP.go ?_) | ((with_reducible refine ObD.mk ?_ ?_); (focus (first | rfl | (simp; done)))) | ((with_reducible refine ObN.mk ?_ ?_); (focus (first | exact (all_iA _) | rfl | assumption | omega | (simp only [List.length_map, List.length_append, List.length_cons, List.length_nil]; omega) | (simp; done) | (simp; omega)))) | (with_reducible refine ObT.tt ?_) | (with_reducible refine ObT.ff ?_) | ((with_reducible refine ObI.nl ?_ ?_); (focus omega)) | ((with_reducible refine ObY.mk _ rfl ?_ ?_); (focus (first | omega | assumption | (simp only [List.length_map, List.length_append, List.length_cons, List.length_nil, List.length_take, List.length_drop, List.length_set, List.length_replicate]; omega)))) | ((with_reducible refine (?_ : ObL _ _)); (refine ObL.mk _ (by first | exact l1 | exact l2 | exact (Int.toNat_natCast _) | assumption | exact (List.length_map _).trans (by assumption) | exact List.length_map _ | rfl) ?_)) | ((with_reducible refine (?_ : ObU _ _)); (refine ObU.mk _ (by first | exact u1 | exact u2 | exact (u4 _ (by omega)) | exact u5 | exact u6 | assumption | ((conv => lhs; simp only [List.set_cons_zero, List.set_cons_succ, List.take_succ_cons, List.take_zero, List.drop_succ_cons, List.drop_zero, List.nil_append, List.cons_append, List.append_nil, List.take_nil, List.drop_nil]); try rfl) | rfl) ?_)) | ((with_reducible refine (?_ : ObR _ _ _)); (first | (refine ObR.mk _ (by assumption) ?_) | (refine ObR.mk _ (by with_reducible rfl) ?_) | (refine ObR.map (by (first | omega | assumption | (simp only [List.length_map, List.length_append, List.length_cons, List.length_nil, List.length_take, List.length_drop, List.length_set, List.length_replicate]; omega))) (fun x hx => ?_)) | (refine ObR.mk _ rfl ?_))) | ((with_reducible refine ObC.f 23 ?_); (first | (with_reducible refine ObC.mk _ (h23) ?_) | (refine ObC.mk _ (h23) ?_))) | ((with_reducible refine ObC.f 32 ?_); (first | (with_reducible refine ObC.mk _ (h32) ?_) | (refine ObC.mk _ (h32) ?_))) | ((with_reducible refine ObC.f 25 ?_); (first | (with_reducible refine ObC.mk _ (h25) ?_) | (refine ObC.mk _ (h25) ?_))) | ((with_reducible refine ObC.f 26 ?_); (first | (with_reducible refine ObC.mk _ (h26) ?_) | (refine ObC.mk _ (h26) ?_))) | ((with_reducible refine ObC.f 30 ?_); (first | (with_reducible refine ObC.mk _ (h30) ?_) | (refine ObC.mk _ (h30) ?_))) | ((with_reducible refine ObC.f 31 ?_); (first | (with_reducible refine ObC.mk _ (h31) ?_) | (refine ObC.mk _ (h31) ?_))) | ((with_reducible refine ObJ.nz ?_ ?_); (focus (first | omega | assumption | (simp only [List.length_map, List.length_append, List.length_cons, List.length_nil, List.length_take, List.length_drop, List.length_set, List.length_replicate]; omega)))) | ((with_reducible refine ObJ.zn ?_ ?_); (focus (first | omega | assumption | (simp only [List.length_map, List.length_append, List.length_cons, List.length_nil, List.length_take, List.length_drop, List.length_set, List.length_replicate]; omega)))) | ((with_reducible refine ObEq.mk ?_); (focus (first | rfl | assumption))))
theorem without17o (h23 : PC Try.prog G 23 [nV kn ke va (mp : Int) kk mn ls sz bi] (nK2 mA Q s b)) {i : Int} (h25 : PC Try.prog G 25 [.v (.int .u32 (mA : Int)), I i] (Bo false)) : PC Try.prog G 17 [nV kn ke va (mp : Int) kk mn ls sz bi, I i] (nK2 mA Q s b) := by
  refine pc_ofV cop17 ?_
  repeat' ((conv => whnf); first | (with_reducible refine SeqP.go ?_) | ((with_reducible refine ObD.mk ?_ ?_); (focus (first | rfl | (simp; done)))) | ((with_reducible refine ObN.mk ?_ ?_); (focus (first | rfl | assumption | omega | (simp only [List.length_map, List.length_append, List.length_cons, List.length_nil]; omega) | (simp; done) | (simp; omega)))) | (with_reducible refine ObT.tt ?_) | (with_reducible refine ObT.ff ?_) | ((with_reducible refine (?_ : ObU _ _)); (refine ObU.mk _ (by first | assumption | ((conv => lhs; simp only [List.set_cons_zero, List.set_cons_succ, List.take_succ_cons, List.take_zero, List.drop_succ_cons, List.drop_zero, List.nil_append, List.cons_append, List.append_nil, List.take_nil, List.drop_nil]); try rfl) | rfl) ?_)) | ((with_reducible refine (?_ : ObR _ _ _)); (first | (refine ObR.mk _ (by assumption) ?_) | (refine ObR.mk _ (by with_reducible rfl) ?_) | (refine ObR.map (by (first | omega | assumption | (simp only [List.length_map, List.length_append, List.length_cons, List.length_nil, List.length_take, List.length_drop, List.length_set, List.length_replicate]; omega))) (fun x hx => ?_)) | (refine ObR.mk _ rfl ?_))) | ((with_reducible refine ObC.f 23 ?_); (first | (with_reducible refine ObC.mk _ (h23) ?_) | (refine ObC.mk _ (h23) ?_))) | ((with_reducible refine ObC.f 25 ?_); (first | (with_reducible refine ObC.mk _ (h25) ?_) | (refine ObC.mk _ (h25) ?_))) | ((with_reducible refine ObEq.mk ?_); (focus (first | rfl | assumption))))
end
end
end Go.Proofs.Ytfdfmhapcjckoaa.Sim
namespace Go.Proofs.Ytfdfmhapcjckoaa.Sim
open Go.RowKit
set_option maxRecDepth 100000
set_option linter.unusedSectionVars false
def wI (a : List Int) (i r : Int) : List Int := if r ≠ 0 then ptI a i r else a
theorem take_set {a : List Int} {n : Nat} {r : Int} : (a.set n r).take n = a.take n := by
  rw [List.take_set]
  exact List.set_eq_of_length_le (by simp; omega)
section
variable (G : Nat → AV)
variable {kn : Int} {ke va : ByteArray} {mp : Nat} {kk : List Int} {mn : Int} {ls : List Pr} {sz bi : Int} {a : List Int} {s b : Int} (ha : a.length = 32) (h23 : PC Try.prog G 23 [nV kn ke va (mp : Int) kk mn ls sz bi] (nB a s b))
include ha h23
theorem with16 (i r : Int) (hi : i64 i) : PC Try.prog G 16 [nV kn ke va (mp : Int) kk mn ls sz bi, I i, I r] (nB (wI a i r) s b) := by
  have hkl := kz_len a
  have h29 := with29 G (bm a) i (bm_lt a) hi
  by_cases hr : r = 0
  · subst hr
    have e : wI a i 0 = a := by simp [wI]
    rw [e]
    exact with16z G (n := 0) (P := []) (O := []) (by omega) (by simp) (by simp) (by omega) h23 h29
  have ew : wI a i r = ptI a i r := by simp [wI, hr]
  rw [ew]
  by_cases hin : 0 ≤ i ∧ i < 32
  · have ep : ptI a i r = a.set i.toNat r := by unfold ptI; rw [if_pos hin]
    rw [ep]
    obtain ⟨n, rfl⟩ := Int.eq_ofNat_of_zero_le hin.1
    have hn : n < 32 := by omega
    rw [Int.toNat_natCast]
    have hc : (a.set n r).length = 32 := by simp [ha]
    have hg : (a.set n r).getD n 0 = r := by rw [set_getD (by omega), if_pos rfl]
    have h25 := has25 G (bm (a.set n r)) n (bm_lt _) hi
    rw [has_bm, Int.toNat_natCast, decide_eq_true ⟨by omega, by omega, by rw [hg]; exact hr⟩] at h25
    have h26 := place26 G (bm (a.set n r)) n (bm_lt _) hi
    rw [place_bm _ n hc (by omega), take_set] at h26
    have h26' := place26 G (bm a) ((n + 1 : Nat) : Int) (bm_lt a) (by unfold i64; omega)
    have hks := kz_succ a n (by omega)
    rw [place_bm a (n + 1) ha (by omega), hks, List.length_append] at h26'
    rw [with_bm a n ha hn r hr] at h29
    have h30 := count30 G (bm (a.set n r)) (bm_lt _)
    have hC := kz_set a n (by omega) r
    rw [if_pos hr, List.singleton_append] at hC
    have hA := kz_split a n (by omega)
    have hkc := kz_len (a.set n r)
    rw [← cnt_bm _ hc] at h30
    have h31 := changed31 G (bm a) (bm (a.set n r)) (kz a) (kz (a.set n r)) s b (by omega)
    unfold nB at h23 ⊢
    rw [hC] at h30 h31 hkc ⊢
    rw [hA] at h23 h31 hkl
    have hlen : (kz (a.take n) ++ r :: kz (a.drop (n + 1))).length = (kz (a.take n)).length + 1 + (kz (a.drop (n + 1))).length := by simp; omega
    rw [hlen] at h30 hkc
    simp only [List.length_append] at hkl
    exact with16g G hn (by omega) (by omega) (by omega) hr h23 h29 h25 h26 h26' h30 h31
  · have ep : ptI a i r = a := by unfold ptI; rw [if_neg hin]
    rw [ep]
    have hw : Mk.with_ (bm a) i = bm a := by unfold Mk.with_; rw [if_neg hin]
    rw [hw] at h29
    have h25 := has25 G (bm a) i (bm_lt a) hi
    rw [has_bm, decide_eq_false (fun h => hin ⟨h.1, h.2.1⟩)] at h25
    exact with16o G (n := 0) (P := []) (O := []) (by omega) (by simp) (by simp) (by omega) hr h23 h29 h25
theorem without17 (i : Int) (hi : i64 i) : PC Try.prog G 17 [nV kn ke va (mp : Int) kk mn ls sz bi, I i] (nB (ptI a i 0) s b) := by
  have hkl := kz_len a
  have h25 := has25 G (bm a) i (bm_lt a) hi
  rw [has_bm] at h25
  by_cases hin : 0 ≤ i ∧ i < 32
  · have ep : ptI a i 0 = a.set i.toNat 0 := by unfold ptI; rw [if_pos hin]
    rw [ep]
    obtain ⟨n, rfl⟩ := Int.eq_ofNat_of_zero_le hin.1
    have hn : n < 32 := by omega
    rw [Int.toNat_natCast] at h25 ⊢
    by_cases h0 : a.getD n 0 = 0
    · rw [decide_eq_false (fun h => h.2.2 h0)] at h25
      have e : a.set n 0 = a := by
        apply List.ext_getElem
        · simp
        · intro j h1 h2
          rw [List.getElem_set]
          split
          · rename_i e; subst e; rw [← h0]; simp [h2]
          · rfl
      rw [e]
      exact without17o G (n := 0) (P := []) (O := []) (by omega) (by simp) (by simp) (by omega) h23 h25
    rw [decide_eq_true ⟨by omega, by omega, h0⟩] at h25
    have hc : (a.set n 0).length = 32 := by simp [ha]
    have h26 := place26 G (bm a) n (bm_lt a) hi
    rw [place_bm _ n ha (by omega)] at h26
    have h32 := without32 G (bm a) n (bm_lt a) hi
    rw [without_bm a n ha hn] at h32
    have h30 := count30 G (bm (a.set n 0)) (bm_lt _)
    have hC := kz_set a n (by omega) 0
    rw [if_neg (by simp), List.nil_append] at hC
    have hA := kz_split a n (by omega)
    rw [if_pos h0, List.singleton_append] at hA
    have hkc := kz_len (a.set n 0)
    rw [← cnt_bm _ hc] at h30
    have h31 := changed31 G (bm a) (bm (a.set n 0)) (kz a) (kz (a.set n 0)) s b (by omega)
    unfold nB at h23 ⊢
    rw [hC] at h30 h31 hkc ⊢
    rw [hA] at h23 h31 hkl
    rw [List.length_append] at h30 hkc
    simp only [List.length_append, List.length_cons] at hkl
    exact without17g G (O := []) hn (by omega) (by simp) (by omega) h23 h25 h32 h26 h30 h31
  · have ep : ptI a i 0 = a := by unfold ptI; rw [if_neg hin]
    rw [ep]
    rw [decide_eq_false (fun h => hin ⟨h.1, h.2.1⟩)] at h25
    exact without17o G (n := 0) (P := []) (O := []) (by omega) (by simp) (by simp) (by omega) h23 h25
end
end Go.Proofs.Ytfdfmhapcjckoaa.Sim
namespace Go.Proofs.Ytfdfmhapcjckoaa.Sim
open Go.RowKit
set_option maxRecDepth 100000
set_option linter.unusedSectionVars false
theorem normK (G : Nat → AV) (kn : Int) (ke va : ByteArray) (mp : Nat) (kk : List Int) (mn : Int) (ls : List Pr) (sz bi : Int) (hm : mp < 4294967296) (a1 : ke.size ≤ 40) (a2 : va.size ≤ 40) (a3 : kk.length ≤ 40) (a4 : ls.length ≤ 40) (a5 : ∀ p ∈ ls, p.1.size ≤ 40 ∧ p.2.size ≤ 40) : ∃ (a : List Int) (s b : Int), a.length = 32 ∧ PC Try.prog G 23 [nV kn ke va (mp : Int) kk mn ls sz bi] (nB a s b) ∧ 0 ≤ s ∧ 0 ≤ b := by
  obtain ⟨q, hq⟩ := tf (FormP kn ke va mp kk mn ls sz bi)
  have h8 := may8 G kn ke va mp kk mn ls sz bi hm a1 a2 a3 a4 a5 q hq
  by_cases hk : kn = 2 ∧ mayE kn (lg (ke, va) || ls.any lg) q = 0
  · obtain ⟨rfl, he⟩ := hk
    have hqt : q = true := by
      cases q
      · unfold mayE at he
        rw [if_neg (by decide), if_neg (by decide)] at he
        split at he <;> simp at he
      · rfl
    rw [he] at h8
    have hf := hq.1 hqt
    have e3 := form2 ke va mp kk mn ls sz bi hm hf
    have hb : 0 ≤ bi := Int.not_lt.1 hf.1
    have hz : 0 ≤ sz := by
      rcases hf.2 with ⟨h, _⟩ | ⟨_, h1, h2, h3, h4⟩ | ⟨h, _⟩ | ⟨h, _⟩ | ⟨h, _⟩
      · omega
      · exact h3
      all_goals omega
    rw [e3] at h8 ⊢
    exact ⟨arr mp kk, sz, bi, arr_len _ _, asBr23 G _ sz bi (arr_len _ _) h8, hz, hb⟩
  · have hx : ¬ kn = 2 ∨ ¬ mayE kn (lg (ke, va) || ls.any lg) q = 0 := by
      by_cases h2 : kn = 2
      · exact .inr fun h => hk ⟨h2, h⟩
      · exact .inl h2
    exact ⟨z32, 0, 0, rfl, asBr23x G kn ke va mp kk mn ls sz bi _ h8 hx, Int.le_refl 0, Int.le_refl 0⟩
theorem valid18 (G : Nat → AV) (c : List Int) (s b : Int) (hc : c.length = 32) (hs : 0 ≤ s) (hb : 0 ≤ b) : PC Try.prog G 18 [nB c s b] (I 0) := by
  have hkl := kz_len c
  have hf : FormP 2 (ByteArray.mk #[]) (ByteArray.mk #[]) (bm c) (kz c) 0 [] s b := by
    refine ⟨by omega, .inr (.inl ⟨rfl, kz_ne c, ?_, hs, ⟨fun _ => ⟨rfl, rfl⟩, fun h => absurd h (by simp), fun _ => rfl, fun _ => rfl⟩⟩)⟩
    rw [upI_ps, List.length_map, cnt_bm c hc, all_bm]
  exact may8 G 2 (ByteArray.mk #[]) (ByteArray.mk #[]) (bm c) (kz c) 0 [] s b (bm_lt c) (by decide) (by decide) (by omega) (by simp) (by simp) true ⟨fun _ => hf, fun _ => rfl⟩
theorem chI_set {a : List Int} (ha : a.length = 32) {x y : Nat} (hx : x < 32) (hy : y < 32) (r : Int) : chI (a.set x r) y = if x = y then r else chI a y := by
  have h : (0 : Int) ≤ (y : Int) ∧ (y : Int) < 32 := ⟨by omega, by omega⟩
  simp only [chI, if_pos h, Int.toNat_natCast]
  exact set_getD (by omega)
theorem rem8 {P : Program} {t : TypeId} {xo yo : Operand} {H : Hp} {n : Nat} {k : AV → Hp → Prop} (hk : k (.v (.int .u8 ((n % 32 : Nat) : Int))) H) : ObE ((binA P H .rem t false xo yo (.v (.int .u8 (n : Int))) (.v (.int .u8 32))).map (·, H)) k := by
  refine ObE.mk _ _ ?_ hk
  have e : binV P .rem t xo yo (.int .u8 (n : Int)) (.int .u8 32) = some (.int .u8 ((n : Int).tmod 32)) := rfl
  have e2 : (n : Int).tmod 32 = ((n % 32 : Nat) : Int) := by rw [Int.tmod_eq_emod_of_nonneg (by omega)]; omega
  rw [e2] at e
  have h1 : conc (AV.v (Value.int IntKind.u8 (n : Int))) = some (Value.int IntKind.u8 (n : Int)) := rfl
  have h2 : conc (AV.v (Value.int IntKind.u8 32)) = some (Value.int IntKind.u8 32) := rfl
  simp only [binA, Bool.false_eq_true, if_false, h1, h2, e]
  rfl
set_option maxHeartbeats 4000000 in
theorem keeps5 (G : Nat → AV) (kn : Int) (ke va : ByteArray) (mp : Nat) (kk : List Int) (mn : Int) (ls : List Pr) (sz bi : Int) (hm : mp < 4294967296) (hke : ke.size ≤ 9223372036854775807) (hva : va.size ≤ 9223372036854775807) (hkk : kk.length ≤ 9223372036854775807) (hls : ls.length ≤ 9223372036854775807) (hs : ∀ p ∈ ls, p.1.size ≤ 9223372036854775807 ∧ p.2.size ≤ 9223372036854775807) (i k r : Nat) (hi : i ≤ 255) (hk : k ≤ 255) (hr : r ≤ 65535) :
    PC Try.prog G 5 [nV kn ke va (mp : Int) kk mn ls sz bi, .v (.int .u8 (i : Int)), .v (.int .u8 (k : Int)), .v (.int .u16 (r : Int))] (Bo true) := by
  have f1 := fewN G kn ke va mp kk mn ls sz bi hke hva hkk hls hs
  have a1 := cutB_size ke
  have a2 := cutB_size va
  have a3 : (few1 kk).length ≤ 40 := by rw [few1_len]; omega
  have a4 := few_len ls
  have a5 : ∀ p ∈ few ls, p.1.size ≤ 40 ∧ p.2.size ≤ 40 := few_sizes
  revert a1 a2 a3 a4 a5 f1
  generalize hke0 : cutB ke 40 = ke'
  generalize hva0 : cutB va 40 = va'
  generalize hkk0 : few1 kk = kk'
  generalize hls0 : few ls = ls'
  intro f1 a1 a2 a3 a4 a5
  clear hke0 hva0 hkk0 hls0
  obtain ⟨a, s, b, ha, h23, hs0, hb0⟩ := normK G kn ke' va' mp kk' mn ls' sz bi hm a1 a2 a3 a4 a5
  have hx : i % 32 < 32 := Nat.mod_lt _ (by decide)
  have hy : k % 32 < 32 := Nat.mod_lt _ (by decide)
  have h16 := with16 G ha h23 ((i % 32 : Nat) : Int) ((1 + r : Nat) : Int) (by unfold i64; omega)
  have h17 := without17 G ha h23 ((i % 32 : Nat) : Int) (by unfold i64; omega)
  have e1 : wI a ((i % 32 : Nat) : Int) ((1 + r : Nat) : Int) = a.set (i % 32) ((1 + r : Nat) : Int) := by
    unfold wI ptI
    rw [if_pos (by omega), if_pos ⟨by omega, by omega⟩, Int.toNat_natCast]
  have e2 : ptI a ((i % 32 : Nat) : Int) 0 = a.set (i % 32) 0 := by
    unfold ptI
    rw [if_pos ⟨by omega, by omega⟩, Int.toNat_natCast]
  rw [e1] at h16
  rw [e2] at h17
  have hc : (a.set (i % 32) ((1 + r : Nat) : Int)).length = 32 := by simp [ha]
  have hd : (a.set (i % 32) 0).length = 32 := by simp [ha]
  have m1 := valid18 G _ s b hc hs0 hb0
  have m2 := valid18 G _ s b hd hs0 hb0
  have c1 := child10 G hc (asBr23 G _ s b hc m1) ((i % 32 : Nat) : Int) (by unfold i64; omega)
  have c2 := child10 G hd (asBr23 G _ s b hd m2) ((i % 32 : Nat) : Int) (by unfold i64; omega)
  have c3 := child10 G hc (asBr23 G _ s b hc m1) ((k % 32 : Nat) : Int) (by unfold i64; omega)
  have c4 := child10 G hd (asBr23 G _ s b hd m2) ((k % 32 : Nat) : Int) (by unfold i64; omega)
  have c5 := child10 G ha h23 ((k % 32 : Nat) : Int) (by unfold i64; omega)
  rw [chI_set ha hx hx, if_pos rfl] at c1 c2
  rw [chI_set ha hx hy] at c3 c4
  have hw := works14 G
  have u5 : (Try.prog).underlying 5 = some (.int .u8) := by kernel_rfl
  have u44 : (Try.prog).underlying 44 = some (.int .u16) := by kernel_rfl
  have u3 : (Try.prog).underlying 3 = some (.int .i64) := by kernel_rfl
  clear a5 hs h23 e1 e2 hc hd
  generalize a.set (i % 32) ((1 + r : Nat) : Int) = c at *
  generalize a.set (i % 32) 0 = d at *
  generalize chI a ((k % 32 : Nat) : Int) = z at *
  by_cases hxy : i % 32 = k % 32
  · rw [if_pos hxy] at c3 c4
    refine pc_ofV cop5 ?_
    repeat' ((conv => whnf); first | (with_reducible refine SeqP.go ?_) | (with_reducible refine ObAnd.mk ?_ ?_) | (with_reducible refine ObDx.each ?_) | ((with_reducible refine ObD.mk ?_ ?_); (focus (simp [chkB, geB, AOp.cls, AOp.xs, ltB, ltC, AX.ev, undefA, iA]; done))) | (with_reducible refine rem8 ?_) | (with_reducible refine ObE.cv u5 u3 ?_) | (with_reducible refine ObE.cv u44 u3 ?_) | ((with_reducible refine ObD.mk ?_ ?_); (focus (first | rfl | (simp [ha, AV.cells, AV.fine, AV.one, iA]; done)))) | ((with_reducible refine ObN.mk ?_ ?_); (focus (first | rfl | assumption | omega | (simp only [List.length_map, List.length_append, List.length_cons, List.length_nil, ha, AV.cells, AV.fine, AV.one, iA]; omega) | (simp [ha, AV.cells, AV.fine, AV.one, iA]; done) | (simp [ha, AV.cells, AV.fine, AV.one, iA]; omega)))) | (with_reducible refine ObT.tt ?_) | (with_reducible refine ObT.ff ?_) | ((with_reducible refine ObB.yes ?_ ?_); (focus (first | assumption | (with_reducible rfl) | omega))) | ((with_reducible refine ObI.mk _ rfl ?_ ?_ ?_); (focus omega); (focus omega)) | ((with_reducible refine ObZ.wi ?_ ?_ ?_); (focus omega); (focus omega)) | ((with_reducible refine (?_ : ObU _ _)); (refine ObU.mk _ (by first | assumption | ((conv => lhs; simp only [List.set_cons_zero, List.set_cons_succ, List.take_succ_cons, List.take_zero, List.drop_succ_cons, List.drop_zero, List.nil_append, List.cons_append, List.append_nil, List.take_nil, List.drop_nil, ha, AV.cells, AV.fine, AV.one, iA]); try rfl) | rfl) ?_)) | ((with_reducible refine (?_ : ObR _ _ _)); (first | (refine ObR.mk _ (by assumption) ?_) | (refine ObR.mk _ (by with_reducible rfl) ?_) | (refine ObR.map (by (first | omega | assumption | (simp only [List.length_map, List.length_append, List.length_cons, List.length_nil, List.length_take, List.length_drop, List.length_set, List.length_replicate, ha, AV.cells, AV.fine, AV.one, iA]; omega))) (fun x hx => ?_)) | (refine ObR.mk _ rfl ?_))) | ((with_reducible refine ObC.f 14 ?_); (first | (with_reducible refine ObC.mk _ (hw) ?_) | (refine ObC.mk _ (hw) ?_))) | ((with_reducible refine ObC.f 6 ?_); (first | (with_reducible refine ObC.mk _ (f1) ?_) | (refine ObC.mk _ (f1) ?_))) | ((with_reducible refine ObC.f 16 ?_); (first | (with_reducible refine ObC.mk _ (h16) ?_) | (refine ObC.mk _ (h16) ?_))) | ((with_reducible refine ObC.f 17 ?_); (first | (with_reducible refine ObC.mk _ (h17) ?_) | (refine ObC.mk _ (h17) ?_))) | ((with_reducible refine ObC.f 10 ?_); (first | (with_reducible refine ObC.mk _ (c1) ?_) | (refine ObC.mk _ (c1) ?_))) | ((with_reducible refine ObC.f 10 ?_); (first | (with_reducible refine ObC.mk _ (c2) ?_) | (refine ObC.mk _ (c2) ?_))) | ((with_reducible refine ObC.f 18 ?_); (first | (with_reducible refine ObC.mk _ (m1) ?_) | (refine ObC.mk _ (m1) ?_))) | ((with_reducible refine ObC.f 18 ?_); (first | (with_reducible refine ObC.mk _ (m2) ?_) | (refine ObC.mk _ (m2) ?_))) | ((with_reducible refine ObEq.mk ?_); (focus (first | rfl | assumption))))
  · rw [if_neg hxy] at c3 c4
    refine pc_ofV cop5 ?_
    repeat' ((conv => whnf); first | (with_reducible refine SeqP.go ?_) | (with_reducible refine ObAnd.mk ?_ ?_) | (with_reducible refine ObDx.each ?_) | ((with_reducible refine ObD.mk ?_ ?_); (focus (simp [chkB, geB, AOp.cls, AOp.xs, ltB, ltC, AX.ev, undefA, iA]; done))) | (with_reducible refine rem8 ?_) | (with_reducible refine ObE.cv u5 u3 ?_) | (with_reducible refine ObE.cv u44 u3 ?_) | ((with_reducible refine ObD.mk ?_ ?_); (focus (first | rfl | (simp [ha, AV.cells, AV.fine, AV.one, iA]; done)))) | ((with_reducible refine ObN.mk ?_ ?_); (focus (first | rfl | assumption | omega | (simp only [List.length_map, List.length_append, List.length_cons, List.length_nil, ha, AV.cells, AV.fine, AV.one, iA]; omega) | (simp [ha, AV.cells, AV.fine, AV.one, iA]; done) | (simp [ha, AV.cells, AV.fine, AV.one, iA]; omega)))) | (with_reducible refine ObT.tt ?_) | (with_reducible refine ObT.ff ?_) | ((with_reducible refine ObB.yes ?_ ?_); (focus (first | assumption | (with_reducible rfl) | omega))) | ((with_reducible refine ObB.no ?_ ?_); (focus (first | assumption | omega))) | ((with_reducible refine ObI.mk _ rfl ?_ ?_ ?_); (focus omega); (focus omega)) | ((with_reducible refine ObZ.wi ?_ ?_ ?_); (focus omega); (focus omega)) | ((with_reducible refine (?_ : ObU _ _)); (refine ObU.mk _ (by first | assumption | ((conv => lhs; simp only [List.set_cons_zero, List.set_cons_succ, List.take_succ_cons, List.take_zero, List.drop_succ_cons, List.drop_zero, List.nil_append, List.cons_append, List.append_nil, List.take_nil, List.drop_nil, ha, AV.cells, AV.fine, AV.one, iA]); try rfl) | rfl) ?_)) | ((with_reducible refine (?_ : ObR _ _ _)); (first | (refine ObR.mk _ (by assumption) ?_) | (refine ObR.mk _ (by with_reducible rfl) ?_) | (refine ObR.map (by (first | omega | assumption | (simp only [List.length_map, List.length_append, List.length_cons, List.length_nil, List.length_take, List.length_drop, List.length_set, List.length_replicate, ha, AV.cells, AV.fine, AV.one, iA]; omega))) (fun x hx => ?_)) | (refine ObR.mk _ rfl ?_))) | ((with_reducible refine ObC.f 14 ?_); (first | (with_reducible refine ObC.mk _ (hw) ?_) | (refine ObC.mk _ (hw) ?_))) | ((with_reducible refine ObC.f 6 ?_); (first | (with_reducible refine ObC.mk _ (f1) ?_) | (refine ObC.mk _ (f1) ?_))) | ((with_reducible refine ObC.f 16 ?_); (first | (with_reducible refine ObC.mk _ (h16) ?_) | (refine ObC.mk _ (h16) ?_))) | ((with_reducible refine ObC.f 17 ?_); (first | (with_reducible refine ObC.mk _ (h17) ?_) | (refine ObC.mk _ (h17) ?_))) | ((with_reducible refine ObC.f 10 ?_); (first | (with_reducible refine ObC.mk _ (c1) ?_) | (refine ObC.mk _ (c1) ?_))) | ((with_reducible refine ObC.f 10 ?_); (first | (with_reducible refine ObC.mk _ (c2) ?_) | (refine ObC.mk _ (c2) ?_))) | ((with_reducible refine ObC.f 10 ?_); (first | (with_reducible refine ObC.mk _ (c3) ?_) | (refine ObC.mk _ (c3) ?_))) | ((with_reducible refine ObC.f 10 ?_); (first | (with_reducible refine ObC.mk _ (c4) ?_) | (refine ObC.mk _ (c4) ?_))) | ((with_reducible refine ObC.f 10 ?_); (first | (with_reducible refine ObC.mk _ (c5) ?_) | (refine ObC.mk _ (c5) ?_))) | ((with_reducible refine ObC.f 18 ?_); (first | (with_reducible refine ObC.mk _ (m1) ?_) | (refine ObC.mk _ (m1) ?_))) | ((with_reducible refine ObC.f 18 ?_); (first | (with_reducible refine ObC.mk _ (m2) ?_) | (refine ObC.mk _ (m2) ?_))) | ((with_reducible refine ObEq.mk ?_); (focus (first | rfl | assumption))))
theorem BranchKeeps_calls (as0 as1 as2 as3 : List AV) (s0 : ShC Try.prog 27 as0) (s1 : ShC Try.prog 5 as1) (s2 : ShC Try.prog 5 as2) (s3 : ShC Try.prog 44 as3) : PC Try.prog (fun _ => .unk) 5 [mkE (isAggT Try.prog 27) as0, mkE (isAggT Try.prog 5) as1, mkE (isAggT Try.prog 5) as2, mkE (isAggT Try.prog 44) as3] (Bo true) := by
  have e : isAggT Try.prog 27 = true := by kernel_rfl
  have e5 : isAggT Try.prog 5 = false := by kernel_rfl
  have e44 : isAggT Try.prog 44 = false := by kernel_rfl
  have i5 : (Try.prog).underlying 5 = some (.int .u8) := by kernel_rfl
  have i44 : (Try.prog).underlying 44 = some (.int .u16) := by kernel_rfl
  rw [e, e5, e44]
  obtain ⟨kn, ke, va, mp, kk, mn, ls, sz, bi, hm, h0, h1, h2, h3, h4, h5⟩ := node_invB s0
  obtain ⟨i, rfl, hi0, hi⟩ := s1.u8_inv i5
  obtain ⟨k, rfl, hk0, hk⟩ := s2.u8_inv i5
  obtain ⟨r, rfl, hw⟩ := s3.int_inv i44
  have hr : 0 ≤ r ∧ r ≤ 65535 := by simpa [Lit.wf, IntKind.min, IntKind.max, IntKind.signed, IntKind.bits] using hw
  obtain ⟨i, rfl⟩ := Int.eq_ofNat_of_zero_le hi0
  obtain ⟨k, rfl⟩ := Int.eq_ofNat_of_zero_le hk0
  obtain ⟨r, rfl⟩ := Int.eq_ofNat_of_zero_le hr.1
  rw [h0]
  exact keeps5 _ _ _ _ _ _ _ _ _ _ hm h1 h2 h3 h4 h5 i k r (by omega) (by omega) (by omega)
end Go.Proofs.Ytfdfmhapcjckoaa.Sim
