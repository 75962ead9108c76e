/- The world that is none. -/
import Derived.Test.YtiboffcmlikmnaaGreatDoorWoA
import Derived.Test.YtiboffcmlikmnaaGreatDoorSimWr
namespace Go.Proofs.YtiboffcmlikmnaaGreatDoor.Sim
open Go.RowKit
set_option linter.unusedVariables false
set_option maxRecDepth 100000
noncomputable def af3 : AF := (copF Tryz.prog mHS 3).getD ⟨0, [], .skip⟩
theorem hf3 : copF Tryz.prog mHS 3 = some af3 := by kernel_rfl
noncomputable def tmW : TM := ⟨Tab.all Tryz.prog mHS, [m1, m2, m3, m4, m5, m6, m7]⟩
theorem tmW_ok : TM.Ok Tryz.prog tabG mHS tmW := TM.ok_all (mmc m1_ok (mmc m2_ok (mmc m3_ok (mmc m4_ok (mmc m5_ok (mmc m6_ok (mmc m7_ok mmn)))))))
noncomputable def xW (n0 n1 n5 : Int) (t2 t3 t4 : ByteArray) := topP Tryz.prog tabG tmW 3000 0 af3.body (St.init af3.n [.agg [.v (.int .i64 n0), .v (.int .i64 n1), .v (.string t2), .v (.string t3), .v (.string t4), .v (.int .i64 n5)]] []) []
theorem c1A (k : Nat) (n1 n5 : Int) (t2 t3 t4 : ByteArray) : resP af3.res (xW (.ofNat k) n1 n5 t2 t3 t4) = true := by kernel_rfl
theorem c2A (k : Nat) (n1 n5 : Int) (t2 t3 t4 : ByteArray) : (prsP (xW (.ofNat k) n1 n5 t2 t3 t4)).map (·.1) = (prsP (xW (.ofNat k) n1 n5 t2 t3 t4)).map (·.2) := by kernel_rfl
theorem wA (k : Nat) (n1 n5 : Int) (t2 t3 t4 : ByteArray) : PC Tryz.prog tabG 3 [.agg [.v (.int .i64 (.ofNat k)), .v (.int .i64 n1), .v (.string t2), .v (.string t3), .v (.string t4), .v (.int .i64 n5)]] (.v (.bool true)) := pcP (n := 3000) tmW_ok hf3 (c1A k n1 n5 t2 t3 t4) (c2A k n1 n5 t2 t3 t4)
theorem c1B (k : Nat) (n1 n5 : Int) (t2 t3 t4 : ByteArray) : resP af3.res (xW (.negSucc (k+1)) n1 n5 t2 t3 t4) = true := by kernel_rfl
theorem c2B (k : Nat) (n1 n5 : Int) (t2 t3 t4 : ByteArray) : (prsP (xW (.negSucc (k+1)) n1 n5 t2 t3 t4)).map (·.1) = (prsP (xW (.negSucc (k+1)) n1 n5 t2 t3 t4)).map (·.2) := by kernel_rfl
theorem wB (k : Nat) (n1 n5 : Int) (t2 t3 t4 : ByteArray) : PC Tryz.prog tabG 3 [.agg [.v (.int .i64 (.negSucc (k+1))), .v (.int .i64 n1), .v (.string t2), .v (.string t3), .v (.string t4), .v (.int .i64 n5)]] (.v (.bool true)) := pcP (n := 3000) tmW_ok hf3 (c1B k n1 n5 t2 t3 t4) (c2B k n1 n5 t2 t3 t4)
theorem c1C (n1 n5 : Int) (t2 t3 t4 : ByteArray) : resP af3.res (xW (.negSucc 0) n1 n5 t2 t3 t4) = true := by kernel_rfl
theorem c2C (n1 n5 : Int) (t2 t3 t4 : ByteArray) : (prsP (xW (.negSucc 0) n1 n5 t2 t3 t4)).map (·.1) = (prsP (xW (.negSucc 0) n1 n5 t2 t3 t4)).map (·.2) := by kernel_rfl
theorem wC (n1 n5 : Int) (t2 t3 t4 : ByteArray) : PC Tryz.prog tabG 3 [.agg [.v (.int .i64 (.negSucc 0)), .v (.int .i64 n1), .v (.string t2), .v (.string t3), .v (.string t4), .v (.int .i64 n5)]] (.v (.bool true)) := pcP (n := 3000) tmW_ok hf3 (c1C n1 n5 t2 t3 t4) (c2C n1 n5 t2 t3 t4)
theorem WorldNone_calls (as0 : List AV) (s0 : ShC Tryz.prog 25 as0) : PC Tryz.prog tabG 3 [mkE (isAggT Tryz.prog 25) as0] (Bo true) := by
  obtain ⟨p1, q1, rfl, a1, p2, q2, rfl, a2, rfl⟩ := s0.fields (ts := [3, 23]) Tryz.underlying25 rfl
  obtain ⟨b1, r1, rfl, h1, b2, r2, rfl, h2, b3, r3, rfl, h3, b4, r4, rfl, h4, b5, r5, rfl, h5, rfl⟩ := a2.fields (ts := [3, 9, 9, 9, 3]) Tryz.underlying23 rfl
  obtain ⟨n0, rfl, _, _⟩ := a1.i64_inv (by kernel_rfl)
  obtain ⟨n1, rfl, _, _⟩ := h1.i64_inv (by kernel_rfl)
  obtain ⟨t2, rfl, _⟩ := h2.str_inv (by kernel_rfl)
  obtain ⟨t3, rfl, _⟩ := h3.str_inv (by kernel_rfl)
  obtain ⟨t4, rfl, _⟩ := h4.str_inv (by kernel_rfl)
  obtain ⟨n5, rfl, _, _⟩ := h5.i64_inv (by kernel_rfl)
  have e2 : isAggT Tryz.prog 25 = true := by kernel_rfl
  rw [e2]
  cases n0 with
  | ofNat k => exact wA k n1 n5 t2 t3 t4
  | negSucc k =>
    cases k with
    | zero => exact wC n1 n5 t2 t3 t4
    | succ k => exact wB k n1 n5 t2 t3 t4
end Go.Proofs.YtiboffcmlikmnaaGreatDoor.Sim
