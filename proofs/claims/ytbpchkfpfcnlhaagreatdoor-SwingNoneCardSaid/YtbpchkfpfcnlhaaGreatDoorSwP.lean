/- A graft's plan where the path is empty: a range over no elements. -/
import Derived.Test.YtbpchkfpfcnlhaaGreatDoorSimVk
import Derived.Test.YtbpchkfpfcnlhaaGreatDoorSwA
import Derived.Test.YtbpchkfpfcnlhaaGreatDoorSimWf
import Derived.Shelf.Abstract
import Derived.Shelf.RegionOpen
import Derived.WalkKit
import Derived.OwnWalkIn
import Derived.TacticsInMore
import Derived.LoopIn
namespace Go.Proofs.YtbpchkfpfcnlhaaGreatDoor.Sim
open Go.RowKit Go.Shelf
set_option linter.unusedVariables false
set_option linter.unusedSimpArgs false
set_option maxRecDepth 100000
abbrev sR0 : OB := ⟨231, 19, [(.agg [(.v (.int .i64 0)), (.v (.int .i64 1)), (.v (.string (ByteArray.mk #[97]))), (.v (.string (ByteArray.mk #[49]))), (.v (.string (ByteArray.mk #[]))), (.v (.int .i64 4)), (.nl 11), (.v (.int .i64 0)), (.v (.int .i64 0)), (.v (.string (ByteArray.mk #[]))), (.v (.string (ByteArray.mk #[]))), (.v (.int .u32 0)), (.nl 1), (.v (.int .i64 0)), (.nl 2), (.v (.int .i64 0)), (.v (.int .i64 0)), (.v (.int .i64 0)), (.v (.bool false))])], 0, 0⟩
abbrev sH0 : Hp := [sR0]
def s251 : Me := ⟨251, [(.oa 0 0 0 0)], sH0, (.tup [(.v (.string (ByteArray.mk #[]))), (.v (.bool false))]), sH0⟩
theorem s251_ok : MeOk Tryz.prog tabG s251 := hcN (hs := mHS) (n := 3000) (TM.ok_all mmn) (by kernel_rfl)
theorem s251_hc : HC Tryz.prog tabG 251 [(.oa 0 0 0 0)] sH0 (.tup [(.v (.string (ByteArray.mk #[]))), (.v (.bool false))]) sH0 := s251_ok.2
abbrev sR1 : OB := ⟨161, 3, [(.agg [(.nl 9), (.v (.int .i64 0)), (.nl 1)])], 0, 0⟩
abbrev sH1 : Hp := [sR0, sR1]
def s254 : Me := ⟨254, [(.oa 0 0 0 0)], sH1, (.v (.int .i64 0)), sH1⟩
theorem s254_ok : MeOk Tryz.prog tabG s254 := hcN (hs := mHS) (n := 3000) (TM.ok_all mmn) (by kernel_rfl)
theorem s254_hc : HC Tryz.prog tabG 254 [(.oa 0 0 0 0)] sH1 (.v (.int .i64 0)) sH1 := s254_ok.2
def s251b : Me := ⟨251, [(.oa 0 0 0 0)], sH1, (.tup [(.v (.string (ByteArray.mk #[]))), (.v (.bool false))]), sH1⟩
theorem s251b_ok : MeOk Tryz.prog tabG s251b := hcN (hs := mHS) (n := 3000) (TM.ok_all mmn) (by kernel_rfl)
theorem s251b_hc : HC Tryz.prog tabG 251 [(.oa 0 0 0 0)] sH1 (.tup [(.v (.string (ByteArray.mk #[]))), (.v (.bool false))]) sH1 := s251b_ok.2
def s255 : Me := ⟨255, [(.oa 0 0 0 0)], sH1, (.v (.bool true)), sH1⟩
theorem s255_ok : MeOk Tryz.prog tabG s255 := hcN (hs := mHS) (n := 3000) (TM.ok_all mmn) (by kernel_rfl)
theorem s255_hc : HC Tryz.prog tabG 255 [(.oa 0 0 0 0)] sH1 (.v (.bool true)) sH1 := s255_ok.2
abbrev sR2 : OB := ⟨4, 1, [(.v (.bool false))], 0, 0⟩
abbrev sH2 : Hp := [sR0, sR1, sR2]
abbrev sR3 : OB := ⟨161, 3, [(.agg [(.ol 8 1 1), (.v (.int .i64 0)), (.nl 1)])], 0, 0⟩
abbrev sR4 : OB := ⟨67, 9, [(.agg [(.v (.int .i64 1)), (.v (.string (ByteArray.mk #[97]))), (.v (.string (ByteArray.mk #[49]))), (.v (.int .u32 0)), (.sl 1 []), (.v (.int .i64 0)), (.sl 2 []), (.v (.int .i64 1)), (.v (.int .i64 0))])], 0, 0⟩
abbrev sR5 : OB := ⟨67, 9, [(.agg [(.v (.int .i64 1)), (.v (.string (ByteArray.mk #[97]))), (.v (.string (ByteArray.mk #[49]))), (.v (.int .u32 0)), (.sl 1 []), (.v (.int .i64 0)), (.sl 2 []), (.v (.int .i64 1)), (.v (.int .i64 0))])], 1, 0⟩
abbrev sH3 : Hp := [sR0, sR1, sR2, sR3, sR4, sR1, sR4, sR3, sR5, sR4, sR4, sR4]
def s257 : Me := ⟨257, [(.oa 0 0 0 0)], sH2, (.tup [(.agg [(.ol 8 1 1), (.v (.int .i64 0)), (.nl 1)]), (.v (.int .i64 (-1)))]), sH3⟩
theorem s257_ok : MeOk Tryz.prog tabG s257 := hcN (hs := mHS) (n := 3000) (TM.ok_all mmn) (by kernel_rfl)
theorem s257_hc : HC Tryz.prog tabG 257 [(.oa 0 0 0 0)] sH2 (.tup [(.agg [(.ol 8 1 1), (.v (.int .i64 0)), (.nl 1)]), (.v (.int .i64 (-1)))]) sH3 := s257_ok.2
abbrev sR6 : OB := ⟨161, 3, [(.agg [(.ol 8 1 1), (.v (.int .i64 (-1))), (.nl 1)])], 0, 0⟩
abbrev sR7 : OB := ⟨43, 1, [(.v (.int .i64 (-1)))], 0, 0⟩
abbrev sH4 : Hp := [sR0, sR6, sR2, sR3, sR4, sR1, sR4, sR3, sR5, sR4, sR4, sR4, sR6, sR7]
theorem p258 : PC Tryz.prog tabG 258 [.sl 11 []] (.fn 261 [.ad 1 [.sl 11 []] 0 0]) := callPN_ok (tab := ⟨Tab.all Tryz.prog mHS, []⟩) (hs := mHS) (TM.ok_all mmn) (execN_ok (TM.ok_all mmn) 3000) (by kernel_rfl)
theorem hb261 : hasBody Tryz.prog 261 = true := by kernel_rfl
set_option maxHeartbeats 4000000 in
theorem seq261 : SeqL Tryz.prog tabG 261 [.ad 1 [.sl 11 []] 0 0] [] := by
  refine ⟨hb261, fun n lo F xs J W hg hxl hxv hfr hbel hY h0 => ?_⟩
  obtain ⟨x0, rfl⟩ : ∃ x0, xs = [x0] := by
    match xs, hxl with
    | [x], _ => exact ⟨x, rfl⟩
  have hx := hxv 0 x0 _ rfl rfl
  obtain ⟨b, o, v, rfl, hbv, hv⟩ : ∃ b o v, x0 = .pointer (some ⟨b, o, none⟩) ∧ F b o = some v ∧ PV F v (.sl 11 []) := by
    cases hx with
    | ad b o k es i off hk h1 f hf h => exact ⟨b, o, f 0 0, rfl, hf 0 0 (by simp) (by omega), h 0 0 _ _ rfl rfl⟩
  obtain ⟨A, cap, rfl⟩ : ∃ A cap, v = .slice A 0 cap := by
    cases hv with
    | sl A n cap k es hn hc hm hk h1 b o hA f hf h => exact ⟨A, cap, by simp at hn; rw [← hn]⟩
  have hcell := hfr 0 W h0 b o _ hbv
  refine callsIn_of_wp Tryz.func261 rfl trivial ?_ rfl
  simp only [Tryz.ntmps261, List.size_toArray, List.length_cons, List.length_nil, Nat.reduceAdd, Nat.reduceSub, Array.replicate_succ, Array.replicate_zero, List.push_toArray, List.append_toArray, List.nil_append, List.cons_append]
  gi_wp2

  gi_loopw [3] (fun p wr => p = Value.int .i64 (-1) ∧ J 0 wr) (fun p _ => 0)
  case atStart => exact ⟨rfl, h0⟩
  case round =>
    obtain ⟨rfl, hJ⟩ := hrel
    gi_wp2

    go_end0
    exact ⟨⟨_, rfl⟩, hJ⟩
noncomputable def rB253 := rdT (x := copFX Tryz.prog mHS 253)
noncomputable def B253 : AF := rB253.1
theorem bop253 : copFX Tryz.prog mHS 253 = some B253 := rB253.2
set_option maxHeartbeats 4000000 in
theorem plan253s : HC Tryz.prog tabG 253 [.oa 0 0 0 0] sH0 (.tup [(.agg [(.ol 8 1 1), (.v (.int .i64 (-1))), (.nl 1)]), (.v (.bool true))]) sH4 := by
  refine hc_ofX bop253 rfl ?_
  repeat' ((conv => whnf); first | (with_reducible refine SeqP.go ?_) | (with_reducible refine SeqX.sp ?_) | ((with_reducible refine ObD.mk ?_ ?_); (focus (first | rfl | (simp; done)))) | ((with_reducible refine ObN.mk ?_ ?_); (focus (first | rfl | assumption | omega | (simp only [List.length_map, List.length_append, List.length_cons, List.length_nil]; omega) | (simp; done) | (simp; omega)))) | (with_reducible refine ObT.tt ?_) | (with_reducible refine ObT.ff ?_) | ((with_reducible refine ObB.yes ?_ ?_); (focus (first | assumption | (with_reducible rfl) | omega))) | ((with_reducible refine (?_ : ObU _ _)); (refine ObU.mk _ (by first | assumption | ((conv => lhs; simp only [List.set_cons_zero, List.set_cons_succ, List.take_succ_cons, List.take_zero, List.drop_succ_cons, List.drop_zero, List.nil_append, List.cons_append, List.append_nil, List.take_nil, List.drop_nil]); try rfl) | rfl) ?_)) | ((with_reducible refine (?_ : ObR _ _ _)); (first | (refine ObR.mk _ (by assumption) ?_) | (refine ObR.mk _ (by with_reducible rfl) ?_) | (refine ObR.map (by (first | omega | assumption | (simp only [List.length_map, List.length_append, List.length_cons, List.length_nil, List.length_take, List.length_drop, List.length_set, List.length_replicate]; omega))) (fun x hx => ?_)) | (refine ObR.mk _ rfl ?_))) | ((with_reducible refine ObH.f 254 ?_); (first | (with_reducible refine ObH.mk _ _ (s254_hc) ?_) | (refine ObH.mk _ _ (s254_hc) ?_))) | ((with_reducible refine ObH.f 255 ?_); (first | (with_reducible refine ObH.mk _ _ (s255_hc) ?_) | (refine ObH.mk _ _ (s255_hc) ?_))) | ((with_reducible refine ObH.f 251 ?_); (first | (with_reducible refine ObH.mk _ _ (s251b_hc) ?_) | (refine ObH.mk _ _ (s251b_hc) ?_))) | ((with_reducible refine ObH.f 257 ?_); (first | (with_reducible refine ObH.mk _ _ (s257_hc) ?_) | (refine ObH.mk _ _ (s257_hc) ?_))) | ((with_reducible refine ObC.f 258 ?_); (first | (with_reducible refine ObC.mk _ (p258) ?_) | (refine ObC.mk _ (p258) ?_))))
  conv => whnf
  refine RngP.gen 261 [.ad 1 [.sl 11 []] 0 0] [] rfl rfl (fun k e h => by simp at h) seq261 Unit (fun _ _ => True) (fun _ => _) () trivial _ (Fg.goS rfl) (fun k a e _ h => by simp at h) (fun _ _ => ?_)
  repeat' ((conv => whnf); first | (with_reducible refine SeqP.go ?_) | (with_reducible refine SeqX.sp ?_) | ((with_reducible refine ObD.mk ?_ ?_); (focus (first | rfl | (simp; done)))) | ((with_reducible refine ObN.mk ?_ ?_); (focus (first | rfl | assumption | omega | (simp only [List.length_map, List.length_append, List.length_cons, List.length_nil]; omega) | (simp; done) | (simp; omega)))) | ((with_reducible refine (?_ : ObU _ _)); (refine ObU.mk _ (by first | assumption | ((conv => lhs; simp only [List.set_cons_zero, List.set_cons_succ, List.take_succ_cons, List.take_zero, List.drop_succ_cons, List.drop_zero, List.nil_append, List.cons_append, List.append_nil, List.take_nil, List.drop_nil]); try rfl) | rfl) ?_)) | ((with_reducible refine (?_ : ObR _ _ _)); (first | (refine ObR.mk _ (by assumption) ?_) | (refine ObR.mk _ (by with_reducible rfl) ?_) | (refine ObR.map (by (first | omega | assumption | (simp only [List.length_map, List.length_append, List.length_cons, List.length_nil, List.length_take, List.length_drop, List.length_set, List.length_replicate]; omega))) (fun x hx => ?_)) | (refine ObR.mk _ rfl ?_))) | (exact ObEnd.eq rfl rfl))
theorem hb253 : hasBody Tryz.prog 253 = true := by kernel_rfl
theorem m2_ok : MeOk Tryz.prog tabG m2 := MeOk.fr (T := [(0, 58, 0)]) hb253 plan253s (by kernel_rfl)
end Go.Proofs.YtbpchkfpfcnlhaaGreatDoor.Sim
