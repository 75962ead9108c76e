/- Histories: the pending threads. -/
import Derived.Test.YtjooigegjkpdpaaHiN
namespace Go.Proofs.Ytjooigegjkpdpaa.Sim
open Go.RowKit
set_option maxRecDepth 100000
set_option linter.unusedSimpArgs false
set_option linter.unusedVariables false
def pnR (es : List Hi.Ev) : Hi.R → AV | .ok s => .tup [.sl 1 ((Hi.pD es 64).map fun z => I z), I 0] | .err c => .tup [.sl 1 [], I c]
def isM : List (Int × Nat × Nat) → List AV := fun sn => sn.map fun p => I (p.2.2 : Nat)
def itR (clk : Nat) (sn : List (Int × Nat × Nat)) : OB := ⟨4000000000, 1, .mp 0 0 :: I (clk : Nat) :: I (clk : Nat) :: isM sn, 0, 0⟩
def ksR (p : Int × Nat × Nat) (sn : List (Int × Nat × Nat)) : OB := ⟨3, 1, (p :: sn).map fun q => I q.1, sn.length, 0⟩
def pnH (o : Hi.Op) (l : List Hi.Op) (m : List (Int × Nat × Nat)) (clk : Nat) : List (Int × Nat × Nat) → Hp
  | [] => [mapR ⟨o :: l, m, clk⟩, lR (o :: l), itR clk []]
  | p :: sn => [mapR ⟨o :: l, m, clk⟩, lR (o :: l), itR clk (p :: sn), ksR p sn]
def pnL : List (Int × Nat × Nat) → AV | [] => .nl 1 | p :: sn => .ol 3 sn.length (sn.length + 1)
def pnI (o : Hi.Op) (l : List Hi.Op) (m : List (Int × Nat × Nat)) (clk : Nat) (p : Int × Nat × Nat) : List (Int × Nat × Nat) → Hp
  | [] => [mapR ⟨o :: l, m, clk⟩, lR (o :: l), itR clk [p]]
  | q :: sn => [mapR ⟨o :: l, m, clk⟩, lR (o :: l), itR clk (q :: sn ++ [p]), ksR q sn]
theorem nx_p (o : Hi.Op) (l : List Hi.Op) (m : List (Int × Nat × Nat)) (clk : Nat) (hlt : ∀ p ∈ m, p.2.2 < clk) (sn : List (Int × Nat × Nat)) : nxmA (pnH o l m clk sn) (.oa 2 0 0 0) = some (match Hi.uns (Hi.stp1 sn) m with | [] => [(.tup [Bo false], pnH o l m clk sn)] | u => u.map fun p => (.tup [Bo true, I p.1, I (p.2.1 : Nat)], pnI o l m clk p sn)) := by
  have h1 := seen_m sn
  have h2 := nx_m clk (Hi.stp1 sn) m hlt
  cases sn with
  | nil =>
    have e0 : nxmA (pnH o l m clk []) (.oa 2 0 0 0) = (match nxE false (clk : Int) (Hi.stp1 []) (m.map mA) with
                     | some [] => some [(.tup [.v (.bool false)], pnH o l m clk [])]
                     | some l' => some (l'.map fun p => (.tup [.v (.bool true), p.1, p.2.1], (pnH o l m clk []).set 2 { itR clk [] with es := .mp 0 0 :: I (clk : Nat) :: I (clk : Nat) :: (isM [] ++ [.v (.int .i64 p.2.2)]) }))
                     | none => none) := by
      simp [nxmA, pnH, itR, isM, seenA, liveM, mapR, rdH, mapE, Hi.stp1]
      rfl
    rw [e0, h2]
    cases hu : Hi.uns (Hi.stp1 []) m with
    | nil => rfl
    | cons q u => simp [pnI, pnH, itR, isM]
  | cons p0 sn =>
    have e0 : nxmA (pnH o l m clk (p0 :: sn)) (.oa 2 0 0 0) = (match nxE false (clk : Int) (Hi.stp1 (p0 :: sn)) (m.map mA) with
                     | some [] => some [(.tup [.v (.bool false)], pnH o l m clk (p0 :: sn))]
                     | some l' => some (l'.map fun p => (.tup [.v (.bool true), p.1, p.2.1], (pnH o l m clk (p0 :: sn)).set 2 { itR clk (p0 :: sn) with es := .mp 0 0 :: I (clk : Nat) :: I (clk : Nat) :: (isM (p0 :: sn) ++ [.v (.int .i64 p.2.2)]) }))
                     | none => none) := by
      have h1' : seenA (isM (p0 :: sn)) = some (Hi.stp1 (p0 :: sn)) := h1
      generalize hi : isM (p0 :: sn) = is at h1'
      simp [nxmA, pnH, itR, hi, h1', liveM, mapR, rdH, mapE]
      rfl
    rw [e0, h2]
    cases hu : Hi.uns (Hi.stp1 (p0 :: sn)) m with
    | nil => rfl
    | cons q u => simp [pnI, pnH, itR, isM]
theorem isM_row (T : Tb) (sn : List (Int × Nat × Nat)) : ((isM sn).map fun e => rnL T e.cells) = (isM sn).map fun e => some e.cells := by
  induction sn with
  | nil => rfl
  | cons p sn ih =>
    unfold isM at ih ⊢
    simp only [List.map_cons, ih]
    rfl
theorem en_p (o : Hi.Op) (l : List Hi.Op) (m : List (Int × Nat × Nat)) (clk : Nat) (hn : (m.map (·.2.2)).Nodup) {p : Int × Nat × Nat} (hp : p ∈ m) (sn : List (Int × Nat × Nat)) : entA (pnI o l m clk p sn) (.oa 2 0 0 0) = some (.tup [I p.1, I (p.2.1 : Nat)]) := by
  have h1 := fd_m hn hp
  cases sn with
  | nil =>
    simp [entA, pnI, itR, isM, liveM, mapR, rdH, mapE, unsn, h1]
  | cons p0 sn =>
    have h2 : isM (p0 :: sn ++ [p]) = isM (p0 :: sn) ++ [I (p.2.2 : Nat)] := by simp [isM]
    have h3 := unsn_app (isM (p0 :: sn)) (I (p.2.2 : Nat))
    rw [← h2] at h3
    generalize hi : isM (p0 :: sn ++ [p]) = is at h3
    simp [entA, pnI, itR, liveM, mapR, rdH, mapE, h1]
    rw [show p0 :: (sn ++ [p]) = p0 :: sn ++ [p] from rfl, hi, h3]
    simp [h1]
section
variable (G : Nat → AV)
set_option maxHeartbeats 4000000 in
theorem pn9 (es : List Hi.Ev) (hn : es.length ≤ 1000000) (hc : ∀ c, Hi.entR es = .err c → c ≠ 0) : PC Try.prog G 9 [.sl 12 (es.map evA)] (pnR es (Hi.entR es)) := by
  have c := en24 G es hn
  cases hR : Hi.entR es with
  | err e =>
    rw [hR] at c
    have he := hc e hR
    dsimp only [resA, resH, pnR] at c ⊢
    refine pc_ofV cop9 ?_
    repeat' ((conv => whnf); first | (with_reducible refine SeqP.go ?_) | ((with_reducible refine ObN.mk ?_ ?_); (focus (first | rfl | assumption | omega | (simp only [List.length_map, List.length_append, List.length_cons, List.length_nil]; omega) | (simp; done) | (simp; omega)))) | (with_reducible refine ObT.tt ?_) | ((with_reducible refine ObB.no ?_ ?_); (focus (first | assumption | omega))) | ((with_reducible refine ObH.f 24 ?_); (first | (with_reducible refine ObH.mk _ _ (c) ?_) | (refine ObH.mk _ _ (c) ?_))) | ((with_reducible refine ObEq.mk ?_); (focus (first | rfl | assumption))))
  | ok s =>
    rw [hR] at c
    have stm := Hi.ent_stm Hi.Stm.zero hR
    have hg := Hi.ent_good (Hi.Good.zero _) hR
    have hdone := fun sn (hs : Hi.Sn s.m sn) hu => Hi.Sn.done hR (sn := sn) hs stm.nd hu
    obtain ⟨l, m, clk⟩ := s
    have hclk := hg.clk
    have hml := stm.ln
    dsimp only at hclk hml hdone
    dsimp only [pnR]
    have hps : (Hi.pD es 64).length = (Hi.pD es 64).length := rfl
    clear hps
    generalize Hi.pD es 64 = ps at hdone ⊢
    cases l with
    | nil =>
      dsimp only [resA, resH, rowsH, slA, pnR, mapR] at c ⊢
      refine pc_ofV cop9 ?_
      repeat' ((conv => whnf); first | (with_reducible refine SeqP.go ?_) | ((with_reducible refine ObN.mk ?_ ?_); (focus (first | rfl | assumption | omega | (simp only [List.length_map, List.length_append, List.length_cons, List.length_nil]; omega) | (simp; done) | (simp; omega)))) | (with_reducible refine ObT.ff ?_) | ((with_reducible refine ObB.yes ?_ ?_); (focus (first | assumption | (with_reducible rfl) | omega))) | ((with_reducible refine ObH.f 24 ?_); (first | (with_reducible refine ObH.mk _ _ (c) ?_) | (refine ObH.mk _ _ (c) ?_))))
      conv => whnf
      obtain rfl : m = [] := by
        cases m with
        | nil => rfl
        | cons p m => have := hg.ix p (by simp); simp at this
      obtain rfl : [] = ps := by rw [← hdone [] (Hi.Sn.nil _) rfl]; simp [srt]
      refine ObE.mk (.oa 1 0 0 0) _ rfl ?_
      repeat' ((conv => whnf); first | (with_reducible refine SeqP.go ?_))
      conv => whnf
      refine LoopP.go (α := Nat) (fun n => n = 0) (fun n => n) (fun n => [(7, some (AV.nl 1)), (0, none), (11, none), (0, none), (0, none), (0, none), (0, none), (0, none), (0, none), (0, none)]) (fun n => [mapR ⟨[], [], clk⟩, itR clk []]) 0 rfl (Fg.go ?_ rfl) ?_
      · repeat' ((conv => whnf); first | ((with_reducible refine ObEqs.mk ?_ ?_); (focus rfl)) | ((with_reducible refine ObEq1.mk ?_ ?_); (focus (first | rfl | assumption))) | exact True.intro)
      intro n hn0
      subst hn0
      have nx0 : nxmA [mapR ⟨[], [], clk⟩, itR clk []] (.oa 1 0 0 0) = some [(.tup [Bo false], [mapR ⟨[], [], clk⟩, itR clk []])] := by
        simp [nxmA, itR, isM, seenA, liveM, mapR, rdH, mapE, nxE]
      have s25 := sort25n G [mapR ⟨[], [], clk⟩, itR clk []]
      dsimp only [mapR, itR, isM, List.map_nil] at nx0 s25 ⊢
      skip
      conv => whnf
      refine ObNx.mk _ nx0 ?_
      intro r hr
      simp only [List.mem_singleton] at hr
      subst hr
      repeat' ((conv => whnf); first | (with_reducible refine SeqP.go ?_) | (with_reducible refine ObT.ff ?_) | ((with_reducible refine ObH.f 25 ?_); (first | (with_reducible refine ObH.mk _ _ (s25) ?_) | (refine ObH.mk _ _ (s25) ?_))) | ((with_reducible refine ObEq.mk ?_); (focus (first | rfl | assumption))))
      all_goals conv => whnf
    | cons o l =>
      dsimp only [resA, resH, rowsH, slA, pnR, mapR, lR] at c ⊢
      refine pc_ofV cop9 ?_
      repeat' ((conv => whnf); first | (with_reducible refine SeqP.go ?_) | ((with_reducible refine ObN.mk ?_ ?_); (focus (first | rfl | assumption | omega | (simp only [List.length_map, List.length_append, List.length_cons, List.length_nil]; omega) | (simp; done) | (simp; omega)))) | (with_reducible refine ObT.ff ?_) | ((with_reducible refine ObB.yes ?_ ?_); (focus (first | assumption | (with_reducible rfl) | omega))) | ((with_reducible refine ObH.f 24 ?_); (first | (with_reducible refine ObH.mk _ _ (c) ?_) | (refine ObH.mk _ _ (c) ?_))))
      conv => whnf
      refine ObE.mk (.oa 2 0 0 0) _ rfl ?_
      repeat' ((conv => whnf); first | (with_reducible refine SeqP.go ?_))
      conv => whnf
      refine LoopP.go (α := List (Int × Nat × Nat)) (fun sn => Hi.Sn m sn) (fun sn => (Hi.uns (Hi.stp1 sn) m).length) (fun sn => [(7, some (pnL sn)), (0, none), (11, none), (0, none), (0, none), (0, none), (0, none), (0, none), (0, none), (0, none)]) (fun sn => pnH o l m clk sn) [] (Hi.Sn.nil m) (Fg.go ?_ rfl) ?_
      · repeat' ((conv => whnf); first | ((with_reducible refine ObEqs.mk ?_ ?_); (focus rfl)) | ((with_reducible refine ObEq1.mk ?_ ?_); (focus (first | rfl | assumption))) | exact True.intro)
      intro sn hsn
      skip
      conv => whnf
      have nxp := nx_p o l m clk stm.lt sn
      cases hu : Hi.uns (Hi.stp1 sn) m with
      | nil =>
        rw [hu] at nxp
        refine ObNx.mk _ nxp ?_
        intro r hr
        simp only [List.mem_singleton] at hr
        subst hr
        have hso := hdone sn hsn hu
        cases sn with
        | nil =>
          have s25 := sort25n G (pnH o l m clk [])
          obtain rfl : [] = ps := by rw [← hso]; simp [srt]
          dsimp only [pnH, pnL, mapR, lR, itR, isM, List.map_nil] at s25 ⊢
          repeat' ((conv => whnf); first | (with_reducible refine SeqP.go ?_) | (with_reducible refine ObT.ff ?_) | ((with_reducible refine ObH.f 25 ?_); (first | (with_reducible refine ObH.mk _ _ (s25) ?_) | (refine ObH.mk _ _ (s25) ?_))) | ((with_reducible refine ObEq.mk ?_); (focus (first | rfl | assumption))))
          all_goals conv => whnf
        | cons p0 sn =>
          have s25 := sort25 G (pnH o l m clk (p0 :: sn)) 3 sn.length ((p0 :: sn).map (·.1)) (by simp [pnH, ksR]) (by have := hsn.ln; simp at this ⊢; omega)
          have hlen : ((p0 :: sn).map (·.1)).length = sn.length + 1 := by simp
          rw [hso, hlen] at s25
          dsimp only [pnH, pnL, mapR, lR, itR, ksR, isM, List.set_cons_succ, List.set_cons_zero] at s25 ⊢
          have hpl : ps.length = sn.length + 1 := by rw [← hso, srt_len]; simp
          have hle : sn.length + 1 ≤ (ps.map fun z => I z).length := by rw [List.length_map]; omega
          have htk : List.take (sn.length + 1) (ps.map fun z => I z) = ps.map fun z => I z := List.take_of_length_le (by rw [List.length_map]; omega)
          have hp : (ps.map fun z => I z).all AV.isP = true := by simp [AV.isP, AV.isC, AV.isC0]
          repeat' ((conv => whnf); first | (with_reducible refine SeqP.go ?_) | ((with_reducible refine ObN.mk ?_ ?_); (focus (first | rfl | assumption | omega | (simp only [List.length_map, List.length_append, List.length_cons, List.length_nil]; omega) | (simp; done) | (simp; omega)))) | (with_reducible refine ObT.ff ?_) | ((with_reducible refine (?_ : ObU _ _)); (refine ObU.mk _ (by first | assumption | ((conv => lhs; simp only [List.set_cons_zero, List.set_cons_succ, List.take_succ_cons, List.take_zero, List.drop_succ_cons, List.drop_zero, List.nil_append, List.cons_append, List.append_nil, List.take_nil, List.drop_nil]); try rfl) | rfl) ?_)) | ((with_reducible refine ObH.f 25 ?_); (first | (with_reducible refine ObH.mk _ _ (s25) ?_) | (refine ObH.mk _ _ (s25) ?_))) | ((with_reducible refine ObEq.mk ?_); (focus (first | rfl | assumption))))
      | cons q u =>
        rw [hu] at nxp
        refine ObNx.mk _ nxp ?_
        intro r hr
        obtain ⟨p, hp, rfl⟩ := List.mem_map.1 hr
        rw [← hu] at hp
        obtain ⟨hadd, hlt⟩ := hsn.add hg.nd hp
        have hpm : p ∈ m := (List.mem_filter.1 hp).1
        have enp := en_p o l m clk stm.nd hpm sn
        cases sn with
        | nil =>
          dsimp only [pnI, pnL, mapR, lR, itR, isM] at enp ⊢
          repeat' ((conv => whnf); first | (with_reducible refine SeqP.go ?_) | (with_reducible refine ObT.tt ?_))
          all_goals conv => whnf
          refine ObE.mk _ _ (congrArg (Option.map fun x => (x, _)) enp) ?_
          repeat' ((conv => whnf); first | (with_reducible refine SeqP.go ?_) | ((with_reducible refine ObD.mk ?_ ?_); (focus (first | rfl | (simp; done)))) | ((with_reducible refine ObN.mk ?_ ?_); (focus (first | rfl | assumption | omega | (simp only [List.length_map, List.length_append, List.length_cons, List.length_nil]; omega) | (simp; done) | (simp; omega)))) | ((with_reducible refine (?_ : ObL _ _)); (refine ObL.mk _ (by first | assumption | exact (List.length_map _).trans (by assumption) | exact List.length_map _ | rfl) ?_)) | ((with_reducible refine (?_ : ObU _ _)); (refine ObU.mk _ (by first | assumption | ((conv => lhs; simp only [List.set_cons_zero, List.set_cons_succ, List.take_succ_cons, List.take_zero, List.drop_succ_cons, List.drop_zero, List.nil_append, List.cons_append, List.append_nil, List.take_nil, List.drop_nil]); try rfl) | rfl) ?_)) | ((with_reducible refine ObW.cons ?_ ?_); (focus (first | assumption | (simp; done)))))
          all_goals conv => whnf
          have r1 := nr_m (clk : Int) m
          have r2 := nr_o (o :: l)
          refine Again.mk [p] hadd (by rw [← hu]; exact hlt) (Fg.vw [(0, 0, 0), (l.length, 1, l.length), (0, 2, 0), (0, 4, 0)] ?_ ?_ (by simp) ?_)
          all_goals repeat' ((conv => whnf); first | ((with_reducible refine ObN.mk ?_ ?_); (focus (first | rfl | assumption | omega | (simp only [List.length_map, List.length_append, List.length_cons, List.length_nil]; omega) | (simp; done) | (simp; omega)))) | ((with_reducible refine ObRn.mk ?_ ?_); (focus (first | rfl | (simp [rnB, rnC, rnL]; done)))) | ((with_reducible refine ObRow.same ?_ ?_ ?_); (focus (first | rfl | assumption)); (focus (first | rfl | assumption | (simp; done)))) | ((with_reducible refine ObRow.lit ?_ ?_); (focus (first | rfl | (simp [rnB, rnC, rnL]; done)))) | ((with_reducible refine ObEqs.mk ?_ ?_); (focus rfl)) | exact True.intro)
        | cons p0 sn =>
          dsimp only [pnI, pnL, mapR, lR, itR, ksR, isM] at enp ⊢
          repeat' ((conv => whnf); first | (with_reducible refine SeqP.go ?_) | (with_reducible refine ObT.tt ?_))
          all_goals conv => whnf
          refine ObE.mk _ _ (congrArg (Option.map fun x => (x, _)) enp) ?_
          have hsl : sn.length + 1 ≤ 1000000 := by have := hsn.ln; simp at this; omega
          repeat' ((conv => whnf); first | (with_reducible refine SeqP.go ?_) | ((with_reducible refine ObD.mk ?_ ?_); (focus (first | rfl | (simp [List.length_cons, List.length_nil]; done)))) | ((with_reducible refine ObN.mk ?_ ?_); (focus (first | rfl | assumption | omega | (simp only [List.length_map, List.length_append, List.length_cons, List.length_nil, List.length_cons, List.length_nil]; omega) | (simp [List.length_cons, List.length_nil]; done) | (simp [List.length_cons, List.length_nil]; omega)))) | ((with_reducible refine (?_ : ObL _ _)); (refine ObL.mk _ (by first | exact (List.length_map _) | assumption | exact (List.length_map _).trans (by assumption) | exact List.length_map _ | rfl) ?_)) | ((with_reducible refine (?_ : ObU _ _)); (refine ObU.mk _ (by first | assumption | ((conv => lhs; simp only [List.set_cons_zero, List.set_cons_succ, List.take_succ_cons, List.take_zero, List.drop_succ_cons, List.drop_zero, List.nil_append, List.cons_append, List.append_nil, List.take_nil, List.drop_nil, List.length_cons, List.length_nil]); try rfl) | rfl) ?_)))
          all_goals conv => whnf
          have r1 := nr_m (clk : Int) m
          have r2 := nr_o (o :: l)
          refine Again.mk (p0 :: (sn ++ [p])) hadd (by rw [← hu]; exact hlt) (Fg.vw [(0, 0, 0), (l.length, 1, l.length), (0, 2, 0), (sn.length + 1, 3, sn.length + 1)] ?_ ?_ (by simp) ?_)
          all_goals repeat' ((conv => whnf); first | ((with_reducible refine ObN.mk ?_ ?_); (focus (first | rfl | assumption | omega | (simp only [List.length_map, List.length_append, List.length_cons, List.length_nil]; omega) | (simp; done) | (simp; omega)))) | ((with_reducible refine ObRn.mk ?_ ?_); (focus (first | rfl | (simp [rnB, rnC, rnL]; done)))) | ((with_reducible refine ObRow.same ?_ ?_ ?_); (focus (first | rfl | assumption)); (focus (first | rfl | assumption | (simp; done)))) | ((with_reducible refine ObEqs.mk ?_ ?_); (focus rfl)) | exact True.intro)
          refine ObRow.lit (congrArg (fun l => some [AV.mp 0 0] :: some [I (clk : Nat)] :: some [I (clk : Nat)] :: l) (isM_row _ (p0 :: (sn ++ [p])))) ?_
          repeat' ((conv => whnf); first | ((with_reducible refine ObN.mk ?_ ?_); (focus (first | rfl | assumption | omega | (simp only [List.length_map, List.length_append, List.length_cons, List.length_nil]; omega) | (simp; done) | (simp; omega)))))
          rw [List.take_of_length_le (by simp)]
          refine ObRow.same (by simp) (by simp [nrB, AV.cells]) ?_
          all_goals repeat' ((conv => whnf); first | exact True.intro)
end
end Go.Proofs.Ytjooigegjkpdpaa.Sim
