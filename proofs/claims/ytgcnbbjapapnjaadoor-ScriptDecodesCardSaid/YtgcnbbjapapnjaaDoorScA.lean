/- Scripts: the three closures by which bytes are taken off. -/
import Derived.Test.YtgcnbbjapapnjaaDoorAc42
import Derived.Test.YtgcnbbjapapnjaaDoorSimVj
import Derived.Test.YtgcnbbjapapnjaaDoorSimT
namespace Go.Proofs.YtgcnbbjapapnjaaDoor.Sim
open Go.RowKit
set_option maxRecDepth 100000
set_option linter.unusedSimpArgs false
set_option linter.unusedVariables false
def uA (b : UInt8) : AV := .v (.int .u8 (b.toNat : Int))
def strB (l : List UInt8) : ByteArray := ⟨l.toArray⟩
/-- The bytes from a, n of them at most. -/
def prt (B : List UInt8) (a n : Nat) : List UInt8 := (B.take (min (a + n) B.length)).drop a
def nB (B : List UInt8) (a : Nat) : Nat := (B.getD a 0).toNat
theorem nB_lt (B : List UInt8) (a : Nat) : nB B a < 256 := (B.getD a 0).toNat_lt
def bx (B : List UInt8) : OB := ⟨24, 1, [.sl 1 (B.map uA)], 0, 0⟩
def bat (a : Nat) : OB := ⟨3, 1, [I a], 0, 0⟩
def cl0 (i j : Nat) : OB := ⟨43, 1, [.fn 20 [.oa i 0 0 0, .oa j 0 0 0]], 0, 0⟩
def cl1 (i : Nat) : OB := ⟨44, 1, [.fn 21 [.oa i 0 0 0]], 0, 0⟩
theorem p_u (L : List UInt8) : (L.map uA).all AV.isP = true := by simp [uA, AV.isP, AV.isC, AV.isC0]
theorem nr_u (L : List UInt8) : (L.map uA).all nrB = true := by simp [uA, nrB, AV.cells]
theorem ObE.of {o : Option (AV × Hp)} {r : AV} {H' : Hp} {k : KK} (h : o = some (r, H')) (hk : k r H') : ObE o k := ⟨_, _, h, hk⟩
theorem cvb {m : Nat} (hm : m < 256) : ap1 (fun v => pureRun Tryd.prog (convert 5 3 v)) (.v (.int .u8 (m : Int))) = some (I (m : Int)) := by
  have hs : Tryd.prog.underlying 5 = some (.int .u8) := by kernel_rfl
  have hd : Tryd.prog.underlying 3 = some (.int .i64) := by kernel_rfl
  simp only [ap1, conc, cV_int hs hd]
  rw [show IntKind.i64.wrap (m : Int) = (m : Int) from wrapI (by omega) (by omega)]
  rfl
theorem nums_u : ∀ (L : List UInt8), numsA (L.map uA) = some (L.map fun u => (u.toNat : Int))
  | [] => rfl
  | u :: L => by
    have := nums_u L
    simp only [List.map_cons, uA, numsA] at this ⊢
    rw [this]
theorem str_push (L : List UInt8) : ∀ (b : ByteArray), (L.map fun u => (u.toNat : Int)).foldl (fun r n => r.push (UInt8.ofNat n.toNat)) b = ⟨b.data ++ L.toArray⟩ := by
  induction L with
  | nil => intro b; simp
  | cons u L ih =>
    intro b
    rw [List.map_cons, List.foldl_cons, ih]
    obtain ⟨d⟩ := b
    simp [ByteArray.push]
theorem sob_u (H : Hp) (L : List UInt8) : sobA H (.sl 1 (L.map uA)) = some (S (strB L)) := by
  simp only [sobA, srcA, if_true, nums_u, strN]
  rw [str_push]
  simp [strB, ByteArray.empty, ByteArray.emptyWithCapacity]
  rfl
theorem prt_map (B : List UInt8) (a n : Nat) : (((B.map uA).take (min (a + n) B.length)).drop a) = (prt B a n).map uA := by
  unfold prt; rw [List.map_drop, List.map_take]
theorem prt_len (B : List UInt8) {a n : Nat} (ha : a ≤ B.length) : a + (prt B a n).length = min (a + n) B.length := by
  unfold prt; rw [List.length_drop, List.length_take]; omega
section
variable (G : Nat → AV)
set_option maxHeartbeats 4000000 in
theorem sc20 (B : List UInt8) (a n : Nat) (ha : a ≤ B.length) (hB : B.length ≤ 1000000) (hn : n ≤ 1000) : HC Tryd.prog G 20 [I n, .oa 0 0 0 0, .oa 1 0 0 0] [bx B, bat a] (.sl 1 ((prt B a n).map uA)) [bx B, bat (min (a + n) B.length)] := by
  have h1 := nr_u B
  have hl : (B.map uA).length = B.length := by simp
  have e := prt_map B a n
  have e2 := prt_len B (n := n) ha
  have hp : ((prt B a n).map uA).length = (prt B a n).length := by simp
  refine hc_ofV cop20 rfl ?_
  unfold bx bat
  obtain ⟨P, hP⟩ : ∃ P, P = prt B a n := ⟨_, rfl⟩
  rw [← hP] at e e2 hp ⊢
  obtain ⟨k, hk⟩ : ∃ k, k = min (a + n) B.length := ⟨_, rfl⟩
  rw [← hk] at e e2 ⊢
  have hk1 : k ≤ B.length := by omega
  have hk2 : a ≤ k := by omega
  have em : (if (B.length : Int) < ((a + n : Nat) : Int) then (B.length : Int) else ((a + n : Nat) : Int)) = (k : Int) := by split <;> omega
  subst e2
  repeat' ((conv => whnf); first | (with_reducible refine SeqP.go ?_) | (rw [em]) | ((with_reducible refine ObD.mk ?_ ?_); (focus (first | rfl | (simp; done)))) | ((with_reducible refine ObN.mk ?_ ?_); (focus (first | rfl | assumption | omega | (simp only [List.length_map, List.length_append, List.length_cons, List.length_nil]; omega) | (simp; done) | (simp; omega)))) | ((with_reducible refine ObI.nn ?_ ?_); (focus omega)) | (with_reducible refine ObZ.mk _ rfl ?_) | ((with_reducible refine (?_ : ObL _ _)); (refine ObL.mk _ (by first | exact hl | exact hp | assumption | exact (List.length_map _).trans (by assumption) | exact List.length_map _ | rfl) ?_)) | ((with_reducible refine (?_ : ObU _ _)); (refine ObU.mk _ (by first | exact e | assumption | ((conv => lhs; simp only [List.set_cons_zero, List.set_cons_succ, List.take_succ_cons, List.take_zero, List.drop_succ_cons, List.drop_zero, List.nil_append, List.cons_append, List.append_nil, List.take_nil, List.drop_nil]); try rfl) | rfl) ?_)) | ((with_reducible refine (?_ : ObR _ _ _)); (first | (refine ObR.mk _ (by assumption) ?_) | (refine ObR.mk _ (by with_reducible rfl) ?_) | (refine ObR.map (by (first | omega | assumption | (simp only [List.length_map, List.length_append, List.length_cons, List.length_nil, List.length_take, List.length_drop, List.length_set, List.length_replicate]; omega))) (fun x hx => ?_)) | (refine ObR.mk _ rfl ?_))) | ((with_reducible refine ObJ.nn ?_ ?_ ?_); (focus (first | omega | assumption | (simp only [List.length_map, List.length_append, List.length_cons, List.length_nil, List.length_take, List.length_drop, List.length_set, List.length_replicate]; omega))); (focus (first | omega | assumption | (simp only [List.length_map, List.length_append, List.length_cons, List.length_nil, List.length_take, List.length_drop, List.length_set, List.length_replicate]; omega)))) | (exact ObEnd.eq rfl rfl) | (with_reducible refine ObE.min ?_))
theorem prt_one {B : List UInt8} {a : Nat} (h : a < B.length) : prt B a 1 = [B.getD a 0] := by
  unfold prt
  rw [show min (a + 1) B.length = a + 1 by omega, List.getD_eq_getElem?_getD, List.getElem?_eq_getElem h]
  apply List.ext_getElem
  · simp; omega
  · intro i h1 h2
    have : i = 0 := by simp at h2; omega
    subst this
    simp
theorem prt_nil {B : List UInt8} {a : Nat} (n : Nat) (h : B.length ≤ a) : prt B a n = [] := by
  unfold prt
  rw [List.drop_eq_nil_iff]
  simp; omega
theorem nB_nil {B : List UInt8} {a : Nat} (h : B.length ≤ a) : nB B a = 0 := by
  unfold nB; rw [List.getD_eq_getElem?_getD, List.getElem?_eq_none h]; rfl
set_option maxHeartbeats 4000000 in
theorem sc21 (B : List UInt8) (a : Nat) (ha : a ≤ B.length) (hB : B.length ≤ 1000000) : HC Tryd.prog G 21 [.oa 0 0 0 0] [cl0 1 2, bx B, bat a] (I (nB B a)) [cl0 1 2, bx B, bat (min (a + 1) B.length)] := by
  have h1 := nr_u B
  have c := sc20 G B a 1 ha hB (by omega)
  refine hc_ofV cop21 rfl ?_
  by_cases h : a < B.length
  · rw [prt_one h] at c
    have hb := nB_lt B a
    unfold nB at hb ⊢
    unfold cl0 bx bat at *
    generalize B.getD a 0 = u at *
    have e9 : List.map uA [u] = [.v (.int .u8 (u.toNat : Int))] := rfl
    rw [e9] at c
    have l1 : [AV.v (.int .u8 (u.toNat : Int))].length = 1 := rfl
    repeat' ((conv => whnf); first | (with_reducible refine SeqP.go ?_) | ((with_reducible refine (?_ : ObE _ _)); refine ObE.of (congrArg (Option.map fun x => (x, _)) (cvb hb)) ?_) | ((with_reducible refine ObN.mk ?_ ?_); (focus (first | rfl | assumption | omega | (simp only [List.length_map, List.length_append, List.length_cons, List.length_nil]; omega) | (simp; done) | (simp; omega)))) | (with_reducible refine ObT.tt ?_) | ((with_reducible refine ObB.yes ?_ ?_); (focus (first | assumption | (with_reducible rfl) | omega))) | ((with_reducible refine ObX.mk _ rfl ?_ ?_); (focus (first | omega | assumption | (simp only [List.length_map, List.length_append, List.length_cons, List.length_nil, List.length_take, List.length_drop, List.length_set, List.length_replicate]; omega)))) | ((with_reducible refine (?_ : ObL _ _)); (refine ObL.mk _ (by first | exact l1 | assumption | exact (List.length_map _).trans (by assumption) | exact List.length_map _ | rfl) ?_)) | ((with_reducible refine (?_ : ObU _ _)); (refine ObU.mk _ (by first | assumption | ((conv => lhs; simp only [List.set_cons_zero, List.set_cons_succ, List.take_succ_cons, List.take_zero, List.drop_succ_cons, List.drop_zero, List.nil_append, List.cons_append, List.append_nil, List.take_nil, List.drop_nil]); try rfl) | rfl) ?_)) | ((with_reducible refine (?_ : ObR _ _ _)); (first | (refine ObR.mk _ (by assumption) ?_) | (refine ObR.mk _ (by with_reducible rfl) ?_) | (refine ObR.map (by (first | omega | assumption | (simp only [List.length_map, List.length_append, List.length_cons, List.length_nil, List.length_take, List.length_drop, List.length_set, List.length_replicate]; omega))) (fun x hx => ?_)) | (refine ObR.mk _ rfl ?_))) | ((with_reducible refine ObH.f 20 ?_); refine ObH.frn _ (by simp only [List.length_cons, List.length_nil, Nat.reduceAdd]; rfl) [(0,1,0),(0,2,0)] (c) (by simp) rfl (by simp) ?_) | (exact ObEnd.eq rfl rfl) | ((with_reducible refine ObRow.same ?_ ?_ ?_); (focus (first | rfl | assumption)); (focus (first | rfl | assumption | (simp; done)))) | ((with_reducible refine ObAs.mk ?_ ?_); (focus (first | rfl | (simp [rnB, rnC, rnL]; done)))) | ((with_reducible refine (?_ : ObRs _ _ _)); (refine ObRs.mk _ rfl ?_)) | ((with_reducible refine ObBk.same ?_ ?_); (focus (first | rfl | assumption | (simp; done)))))
  · rw [prt_nil 1 (by omega)] at c
    rw [nB_nil (by omega)]
    unfold cl0 bx bat at *
    have e9 : List.map uA [] = [] := rfl
    rw [e9] at c
    have l1 : ([] : List AV).length = 0 := rfl
    repeat' ((conv => whnf); first | (with_reducible refine SeqP.go ?_) | ((with_reducible refine ObN.mk ?_ ?_); (focus (first | rfl | assumption | omega | (simp only [List.length_map, List.length_append, List.length_cons, List.length_nil]; omega) | (simp; done) | (simp; omega)))) | (with_reducible refine ObT.ff ?_) | ((with_reducible refine ObB.no ?_ ?_); (focus (first | assumption | omega))) | ((with_reducible refine (?_ : ObL _ _)); (refine ObL.mk _ (by first | exact l1 | assumption | exact (List.length_map _).trans (by assumption) | exact List.length_map _ | rfl) ?_)) | ((with_reducible refine (?_ : ObU _ _)); (refine ObU.mk _ (by first | assumption | ((conv => lhs; simp only [List.set_cons_zero, List.set_cons_succ, List.take_succ_cons, List.take_zero, List.drop_succ_cons, List.drop_zero, List.nil_append, List.cons_append, List.append_nil, List.take_nil, List.drop_nil]); try rfl) | rfl) ?_)) | ((with_reducible refine (?_ : ObR _ _ _)); (first | (refine ObR.mk _ (by assumption) ?_) | (refine ObR.mk _ (by with_reducible rfl) ?_) | (refine ObR.map (by (first | omega | assumption | (simp only [List.length_map, List.length_append, List.length_cons, List.length_nil, List.length_take, List.length_drop, List.length_set, List.length_replicate]; omega))) (fun x hx => ?_)) | (refine ObR.mk _ rfl ?_))) | ((with_reducible refine ObH.f 20 ?_); refine ObH.frn _ (by simp only [List.length_cons, List.length_nil, Nat.reduceAdd]; rfl) [(0,1,0),(0,2,0)] (c) (by simp) rfl (by simp) ?_) | (exact ObEnd.eq rfl rfl) | ((with_reducible refine ObRow.same ?_ ?_ ?_); (focus (first | rfl | assumption)); (focus (first | rfl | assumption | (simp; done)))) | ((with_reducible refine ObAs.mk ?_ ?_); (focus (first | rfl | (simp [rnB, rnC, rnL]; done)))) | ((with_reducible refine (?_ : ObRs _ _ _)); (refine ObRs.mk _ rfl ?_)) | ((with_reducible refine ObBk.same ?_ ?_); (focus (first | rfl | assumption | (simp; done)))))
/-- Where the text ends that begins at a. -/
def aT (B : List UInt8) (a : Nat) : Nat := min (min (a + 1) B.length + nB B a % 17) B.length
def txB (B : List UInt8) (a : Nat) : List UInt8 := prt B (min (a + 1) B.length) (nB B a % 17)
set_option maxHeartbeats 4000000 in
theorem sc22 (B : List UInt8) (a : Nat) (u : ByteArray) (hu : ¬ u = ⟨#[]⟩) (ha : a ≤ B.length) (hB : B.length ≤ 1000000) : HC Tryd.prog G 22 [S u, .oa 0 0 0 0, .oa 1 0 0 0] [cl0 2 3, cl1 0, bx B, bat a] (S (strB (txB B a))) [cl0 2 3, cl1 0, bx B, bat (aT B a)] := by
  have h1 := nr_u B
  have c := sc21 G B a ha hB
  have d := sc20 G B (min (a + 1) B.length) (nB B a % 17) (by omega) hB (by omega)
  have hb := nB_lt B a
  have e := sob_u [cl0 2 3, cl1 0, bx B, bat (aT B a)] (txB B a)
  refine hc_ofV cop22 rfl ?_
  unfold aT txB at *
  unfold cl0 cl1 bx bat at *
  have em : ((nB B a : Nat) : Int).tmod 17 = ((nB B a % 17 : Nat) : Int) := by rw [Int.tmod_eq_emod_of_nonneg (by omega)]; omega
  generalize prt B (min (a + 1) B.length) (nB B a % 17) = P at *
  repeat' ((conv => whnf); first | (with_reducible refine SeqP.go ?_) | exact SameP.mk rfl rfl | (with_reducible refine ObAnd.mk ?_ ?_) | (with_reducible refine ObDx.same ?_) | (rw [em]) | ((with_reducible refine (?_ : ObE _ _)); refine ObE.of (congrArg (Option.map fun x => (x, _)) e) ?_) | ((with_reducible refine ObD.mk ?_ ?_); (focus (first | rfl | (simp; done)))) | ((with_reducible refine ObN.mk ?_ ?_); (focus (first | rfl | assumption | omega | (simp only [List.length_map, List.length_append, List.length_cons, List.length_nil]; omega) | (simp; done) | (simp; omega)))) | (with_reducible refine ObT.ff ?_) | ((with_reducible refine ObB.no ?_ ?_); (focus (first | assumption | omega))) | (with_reducible refine ObZ.mk _ rfl ?_) | ((with_reducible refine (?_ : ObU _ _)); (refine ObU.mk _ (by first | assumption | ((conv => lhs; simp only [List.set_cons_zero, List.set_cons_succ, List.take_succ_cons, List.take_zero, List.drop_succ_cons, List.drop_zero, List.nil_append, List.cons_append, List.append_nil, List.take_nil, List.drop_nil]); try rfl) | rfl) ?_)) | ((with_reducible refine (?_ : ObR _ _ _)); (first | (refine ObR.mk _ (by assumption) ?_) | (refine ObR.mk _ (by with_reducible rfl) ?_) | (refine ObR.map (by (first | omega | assumption | (simp only [List.length_map, List.length_append, List.length_cons, List.length_nil, List.length_take, List.length_drop, List.length_set, List.length_replicate]; omega))) (fun x hx => ?_)) | (refine ObR.mk _ rfl ?_))) | ((with_reducible refine ObH.f 21 ?_); refine ObH.frn _ (by simp only [List.length_cons, List.length_nil, Nat.reduceAdd]; rfl) [(0,0,0),(0,2,0),(0,3,0)] (c) (by simp) rfl (by simp) ?_) | ((with_reducible refine ObH.f 20 ?_); refine ObH.frn _ (by simp only [List.length_cons, List.length_nil, Nat.reduceAdd]; rfl) [(0,2,0),(0,3,0)] (d) (by simp) rfl (by simp) ?_) | (exact ObEnd.eq rfl rfl) | ((with_reducible refine ObRow.same ?_ ?_ ?_); (focus (first | rfl | assumption)); (focus (first | rfl | assumption | (simp; done)))) | ((with_reducible refine ObRow.lit ?_ ?_); (focus (first | rfl | (simp [rnB, rnC, rnL]; done)))) | ((with_reducible refine ObAs.mk ?_ ?_); (focus (first | rfl | (simp [rnB, rnC, rnL]; done)))) | ((with_reducible refine (?_ : ObRs _ _ _)); (refine ObRs.mk _ rfl ?_)) | ((with_reducible refine ObBk.same ?_ ?_); (focus (first | rfl | assumption | (simp; done)))) | ((with_reducible refine (?_ : ObBk _ _ _)); (first | (refine ObBk.lit [.fn _ _] rfl ?_) | (refine ObBk.lit [.agg _] rfl ?_))))
set_option maxHeartbeats 4000000 in
theorem sc22e (B : List UInt8) (a : Nat) : HC Tryd.prog G 22 [S ⟨#[]⟩, .oa 0 0 0 0, .oa 1 0 0 0] [cl0 2 3, cl1 0, bx B, bat a] (S ⟨#[]⟩) [cl0 2 3, cl1 0, bx B, bat a] := by
  have h1 := nr_u B
  refine hc_ofV cop22 rfl ?_
  unfold cl0 cl1 bx bat at *
  repeat' ((conv => whnf); first | (with_reducible refine SeqP.go ?_) | (with_reducible refine ObT.tt ?_) | ((with_reducible refine ObB.yes ?_ ?_); (focus (first | assumption | (with_reducible rfl) | omega))) | (exact ObEnd.eq rfl rfl))
end
end Go.Proofs.YtgcnbbjapapnjaaDoor.Sim
