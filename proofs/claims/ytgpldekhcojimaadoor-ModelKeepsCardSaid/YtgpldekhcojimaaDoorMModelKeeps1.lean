/- Texts of this claim, the last part. -/
import Derived.Test.YtgpldekhcojimaaDoorMModelSame7
import Derived.WalkKit
import Derived.Deep.RegionLaw
import Derived.Lib.SliceRun
import Derived.Deep.LoopGhost
set_option linter.unusedVariables false
set_option linter.unusedSimpArgs false
namespace Go.Proofs.YtgpldekhcojimaaDoor.Ord
theorem short (a b c : List UInt8) (h1 : cmp a c < 0) (h2 : cmp c b ≤ 0) : com a b + 1 ≤ c.length := by
  induction a generalizing b c with
  | nil => cases c with
    | nil => simp [cmp] at h1
    | cons z zs => simp [com]
  | cons x xs ih => cases c with
    | nil => simp [cmp] at h1
    | cons z zs => cases b with
      | nil => simp [com]
      | cons y ys =>
        by_cases hxy : x = y
        · subst hxy
          by_cases hxz : x = z
          · subst hxz
            simp [cmp, com] at h1 h2 ⊢
            exact ih ys zs h1 h2
          · have hzx : ¬ z = x := fun h => hxz h.symm
            simp only [cmp, hxz, hzx, if_false] at h1 h2
            by_cases l1 : x < z
            · have : ¬ z < x := by simp [UInt8.lt_iff_toNat_lt] at *; omega
              simp [this] at h2
            · simp [l1] at h1
        · simp [com, hxy]
end Go.Proofs.YtgpldekhcojimaaDoor.Ord

namespace Go.Proofs.YtgpldekhcojimaaDoor.Sim.Pr7
open Go.RowKit
set_option linter.unusedSimpArgs false
set_option linter.unusedVariables false
def dr (m : List Pr) (k : ByteArray) : List Pr := m.filter fun p => decide (p.1 ≠ k)
theorem fk_dr {m : List Pr} {k x : ByteArray} : fk x (dr m k) = if x ≠ k then fk x m else [] := by
  have := val_filter (f := fun y => decide (y ≠ k)) (m := m) (k := x)
  simpa [dr] using this
theorem dr_lt {m : List Pr} (h : SLt m) (k : ByteArray) : SLt (dr m k) := List.Pairwise.filter _ h
theorem dr_eq {m : List Pr} (h : SLt m) (k : ByteArray) : lo m k ++ hi m k = dr m k := by
  refine srt_uniq ?_ (dr_lt h k).le fun x => ?_
  · refine List.pairwise_append.2 ⟨List.Pairwise.filter _ h.le, List.Pairwise.filter _ h.le, fun p hp q hq => ?_⟩
    have h1 : cB p.1 k < 0 := by have := (List.mem_filter.1 hp).2; simpa using this
    have h2 : cB k q.1 < 0 := by have := (List.mem_filter.1 hq).2; simpa using this
    have := cB_lt1 h1 (c := q.1) (by omega)
    omega
  · rw [fk_append, fk_lo, fk_hi, fk_dr, cB_anti x k]
    have hc := cB_cases x k
    by_cases hx : x = k
    · subst hx; rw [cB_self]; simp
    · have hn := cB_ne hx
      rcases hc with h | h | h
      · simp [h, hx]
      · exact absurd h hn
      · simp [h, hx]
end Go.Proofs.YtgpldekhcojimaaDoor.Sim.Pr7

namespace Go.Proofs.YtgpldekhcojimaaDoor.Sim
set_option maxRecDepth 100000
/-- boscage/boscagelaw31.ModelKeeps -/
def A6 : AF := (AF.mk 70 [(8, none)] (AC.seq (AC.region [(AI.mk (some 4) (AOp.new 23 5 (AX.t 0)) none), (AI.mk (some 5) (AOp.new 27 2 (AX.t 1)) none), (AI.mk (some 6) (AOp.new 29 5 (AX.t 2)) none), (AI.mk (some 8) (AOp.mv (AX.c (AV.v (Value.bool false)))) none)]) (AC.seq (AC.seq (AC.region [(AI.mk (some 15) (AOp.call 18 []) none), (AI.mk (some 16) (AOp.un UnOp.not (AX.t 15)) none)]) (AC.cond (AX.t 16) (AC.seq (AC.region [(AI.mk (some 8) (AOp.mv (AX.c (AV.v (Value.bool false)))) none)]) AC.ret) AC.skip)) (AC.seq (AC.draw [(AI.mk (some 17) (AOp.load true 2 (AX.t 5)) none), (AI.mk (some 18) (AOp.call 7 [(AX.t 17)]) none), (AI.mk (some 19) (AOp.load true 5 (AX.t 6)) none), (AI.mk (some 20) (AOp.call 8 [(AX.t 19)]) none), (AI.mk none (AOp.store 2 (AX.t 5) (AX.t 18)) none), (AI.mk none (AOp.store 5 (AX.t 6) (AX.t 20)) none)]) (AC.seq (AC.draw [(AI.mk (some 22) (AOp.load true 5 (AX.t 4)) none), (AI.mk (some 23) (AOp.load true 2 (AX.t 5)) none), (AI.mk (some 24) (AOp.call 10 [(AX.t 23)]) none), (AI.mk (some 25) (AOp.load true 5 (AX.t 6)) none), (AI.mk (some 26) (AOp.call 12 [(AX.t 22), (AX.t 24), (AX.t 25)]) none), (AI.mk (some 21) (AOp.mv (AX.t 26)) none), (AI.mk (some 27) (AOp.ext (AX.t 21) 0) none), (AI.mk (some 28) (AOp.ext (AX.t 21) 1) none), (AI.mk (some 9) (AOp.new 39 2 (AX.c (AV.agg [(AV.nl 2), (AV.nl 2)]))) none), (AI.mk none (AOp.store 2 (AX.t 9) (AX.t 27)) none), (AI.mk (some 10) (AOp.mv (AX.t 28)) none)]) (AC.seq (AC.seq (AC.draw [(AI.mk (some 29) (AOp.mv (AX.t 10)) none), (AI.mk (some 30) (AOp.un UnOp.not (AX.t 29)) none), (AI.mk (some 31) (AOp.mv (AX.t 30)) none), (AI.mk (some 32) (AOp.load true 2 (AX.t 9)) (some (31, true))), (AI.mk (some 33) (AOp.load true 2 (AX.t 5)) (some (31, true))), (AI.mk (some 34) (AOp.call 10 [(AX.t 33)]) (some (31, true))), (AI.mk (some 35) (AOp.call 22 [(AX.t 32), (AX.t 34)]) (some (31, true))), (AI.mk (some 36) (AOp.un UnOp.not (AX.t 35)) (some (31, true))), (AI.mk (some 37) (AOp.pick (AX.t 31) (AX.t 36) (AX.c (AV.v (Value.bool false)))) none)]) (AC.cond (AX.t 37) (AC.seq (AC.region [(AI.mk (some 8) (AOp.mv (AX.c (AV.v (Value.bool false)))) none)]) AC.ret) AC.skip)) (AC.seq (AC.region [(AI.mk (some 39) (AOp.load true 2 (AX.t 5)) none), (AI.mk (some 40) (AOp.mv (AX.t 3)) none), (AI.mk (some 41) (AOp.call 23 [(AX.t 39), (AX.t 40)]) none), (AI.mk (some 38) (AOp.mv (AX.t 41)) none), (AI.mk (some 42) (AOp.ext (AX.t 38) 0) none), (AI.mk (some 43) (AOp.ext (AX.t 38) 1) none), (AI.mk (some 11) (AOp.mv (AX.t 42)) none), (AI.mk (some 12) (AOp.mv (AX.t 43)) none)]) (AC.seq (AC.region [(AI.mk (some 45) (AOp.load true 2 (AX.t 9)) none), (AI.mk (some 46) (AOp.call 15 [(AX.t 45)]) none), (AI.mk (some 47) (AOp.mv (AX.t 3)) none), (AI.mk (some 48) (AOp.call 23 [(AX.t 46), (AX.t 47)]) none), (AI.mk (some 44) (AOp.mv (AX.t 48)) none), (AI.mk (some 49) (AOp.ext (AX.t 44) 0) none), (AI.mk (some 50) (AOp.ext (AX.t 44) 1) none), (AI.mk (some 13) (AOp.mv (AX.t 49)) none), (AI.mk (some 14) (AOp.mv (AX.t 50)) none)]) (AC.seq (AC.seq (AC.region [(AI.mk (some 51) (AOp.fad 0 (AX.t 6)) none), (AI.mk (some 52) (AOp.load false 1 (AX.t 51)) none), (AI.mk (some 53) (AOp.bin BinOp.eql 3 false (Operand.tmp 52) (Operand.const (Value.int IntKind.i64 8)) (AX.t 52) (AX.c (AV.v (Value.int IntKind.i64 8)))) none), (AI.mk (some 54) (AOp.mv (AX.t 53)) none), (AI.mk (some 55) (AOp.fad 4 (AX.t 6)) (some (54, true))), (AI.mk (some 56) (AOp.load false 1 (AX.t 55)) (some (54, true))), (AI.mk (some 57) (AOp.mv (AX.t 3)) (some (54, true))), (AI.mk (some 58) (AOp.bin BinOp.eql 3 false (Operand.tmp 56) (Operand.tmp 57) (AX.t 56) (AX.t 57)) (some (54, true))), (AI.mk (some 59) (AOp.pick (AX.t 54) (AX.t 58) (AX.c (AV.v (Value.bool false)))) none)]) (AC.cond (AX.t 59) (AC.seq (AC.region [(AI.mk (some 8) (AOp.mv (AX.c (AV.v (Value.bool true)))) none)]) AC.ret) AC.skip)) (AC.seq (AC.region [(AI.mk (some 60) (AOp.mv (AX.t 12)) none), (AI.mk (some 61) (AOp.mv (AX.t 14)) none), (AI.mk (some 62) (AOp.bin BinOp.eql 4 false (Operand.tmp 60) (Operand.tmp 61) (AX.t 60) (AX.t 61)) none), (AI.mk (some 63) (AOp.mv (AX.t 62)) none), (AI.mk (some 64) (AOp.mv (AX.t 11)) (some (63, true))), (AI.mk (some 65) (AOp.bld [(AV.nl 2), (AV.nl 2)] [(0, (1, (AX.t 64)))]) (some (63, true))), (AI.mk (some 66) (AOp.mv (AX.t 13)) (some (63, true))), (AI.mk (some 67) (AOp.bld [(AV.nl 2), (AV.nl 2)] [(0, (1, (AX.t 66)))]) (some (63, true))), (AI.mk (some 68) (AOp.call 14 [(AX.t 65), (AX.t 67)]) (some (63, true))), (AI.mk (some 69) (AOp.pick (AX.t 63) (AX.t 68) (AX.c (AV.v (Value.bool false)))) none), (AI.mk (some 8) (AOp.mv (AX.t 69)) none)]) AC.ret))))))))))
theorem cop6 : copF Tryd.prog [41,60,65,66,68,79,87,90,97,101,102,103,104] 6 = some A6 := by kernel_rfl
/-- boscage/boscagelaw31.short -/
def A8 : AF := (AF.mk 16 [(2, (some (true, 5)))] (AC.seq (AC.region [(AI.mk (some 1) (AOp.new 29 5 (AX.t 0)) none), (AI.mk (some 2) (AOp.new 29 5 (AX.c (AV.agg [(AV.v (Value.int IntKind.i64 0)), (AV.v (Value.string (ByteArray.mk #[]))), (AV.v (Value.string (ByteArray.mk #[]))), (AV.v (Value.string (ByteArray.mk #[]))), (AV.v (Value.int IntKind.i64 0))]))) none)]) (AC.seq (AC.draw [(AI.mk (some 3) (AOp.fad 1 (AX.t 1)) none), (AI.mk (some 4) (AOp.load false 1 (AX.t 3)) none), (AI.mk (some 5) (AOp.call 19 [(AX.t 4), (AX.c (AV.v (Value.int IntKind.i64 40)))]) none), (AI.mk (some 6) (AOp.fad 2 (AX.t 1)) none), (AI.mk (some 7) (AOp.load false 1 (AX.t 6)) none), (AI.mk (some 8) (AOp.call 19 [(AX.t 7), (AX.c (AV.v (Value.int IntKind.i64 40)))]) none), (AI.mk (some 9) (AOp.fad 3 (AX.t 1)) none), (AI.mk (some 10) (AOp.load false 1 (AX.t 9)) none), (AI.mk (some 11) (AOp.call 19 [(AX.t 10), (AX.c (AV.v (Value.int IntKind.i64 40)))]) none), (AI.mk (some 12) (AOp.fad 1 (AX.t 1)) none), (AI.mk none (AOp.store 1 (AX.t 12) (AX.t 5)) none), (AI.mk (some 13) (AOp.fad 2 (AX.t 1)) none), (AI.mk none (AOp.store 1 (AX.t 13) (AX.t 8)) none), (AI.mk (some 14) (AOp.fad 3 (AX.t 1)) none), (AI.mk none (AOp.store 1 (AX.t 14) (AX.t 11)) none)]) (AC.seq (AC.region [(AI.mk (some 15) (AOp.load true 5 (AX.t 1)) none), (AI.mk none (AOp.store 5 (AX.t 2) (AX.t 15)) none)]) AC.ret))))
theorem cop8 : copF Tryd.prog [41,60,65,66,68,79,87,90,97,101,102,103,104] 8 = some A8 := by kernel_rfl
/-- boscage/boscagelaw31.Back -/
def A15 : AF := (AF.mk 34 [(2, (some (true, 2)))] (AC.seq (AC.region [(AI.mk (some 1) (AOp.new 39 2 (AX.t 0)) none), (AI.mk (some 2) (AOp.new 27 2 (AX.c (AV.agg [(AV.nl 2), (AV.nl 2)]))) none)]) (AC.seq (AC.region [(AI.mk (some 5) (AOp.fad 0 (AX.t 1)) none), (AI.mk (some 6) (AOp.load false 1 (AX.t 5)) none), (AI.mk (some 7) (AOp.bld [(AV.nl 2), (AV.nl 2)] [(0, (1, (AX.t 6)))]) none), (AI.mk (some 3) (AOp.new 27 2 (AX.c (AV.agg [(AV.nl 2), (AV.nl 2)]))) none), (AI.mk none (AOp.store 2 (AX.t 3) (AX.t 7)) none)]) (AC.seq (AC.seq (AC.region [(AI.mk (some 4) (AOp.mv (AX.c (AV.v (Value.int IntKind.i64 0)))) none)]) (AC.block 0 (AC.loop (AC.seq (AC.seq (AC.region [(AI.mk (some 8) (AOp.mv (AX.t 4)) none), (AI.mk (some 9) (AOp.fad 1 (AX.t 1)) none), (AI.mk (some 10) (AOp.load false 1 (AX.t 9)) none), (AI.mk (some 11) (AOp.len (AX.t 10)) none), (AI.mk (some 12) (AOp.bin BinOp.lss 3 false (Operand.tmp 8) (Operand.tmp 11) (AX.t 8) (AX.t 11)) none)]) (AC.cond (AX.t 12) AC.skip (AC.exit 0))) (AC.seq (AC.block 1 (AC.draw [(AI.mk (some 15) (AOp.fad 1 (AX.t 3)) none), (AI.mk (some 16) (AOp.load false 1 (AX.t 15)) none), (AI.mk (some 17) (AOp.fad 1 (AX.t 1)) none), (AI.mk (some 18) (AOp.load false 1 (AX.t 17)) none), (AI.mk (some 19) (AOp.mv (AX.t 4)) none), (AI.mk (some 20) (AOp.iad 2 (AX.t 18) (AX.t 19)) none), (AI.mk (some 21) (AOp.fad 0 (AX.t 20)) none), (AI.mk (some 22) (AOp.load false 1 (AX.t 21)) none), (AI.mk (some 23) (AOp.fad 1 (AX.t 1)) none), (AI.mk (some 24) (AOp.load false 1 (AX.t 23)) none), (AI.mk (some 25) (AOp.mv (AX.t 4)) none), (AI.mk (some 26) (AOp.iad 2 (AX.t 24) (AX.t 25)) none), (AI.mk (some 27) (AOp.fad 1 (AX.t 26)) none), (AI.mk (some 28) (AOp.load false 1 (AX.t 27)) none), (AI.mk (some 29) (AOp.bld [(AV.v (Value.int IntKind.i64 0)), (AV.nl 2)] [(0, (1, (AX.t 22))), (1, (1, (AX.t 28)))]) none), (AI.mk (some 30) (AOp.bsl 61 2 [(AX.t 29)]) none), (AI.mk (some 31) (AOp.app 61 2 32 (AX.t 16) (AX.t 30)) none), (AI.mk (some 32) (AOp.fad 1 (AX.t 3)) none), (AI.mk none (AOp.store 1 (AX.t 32) (AX.t 31)) none)])) (AC.region [(AI.mk (some 13) (AOp.mv (AX.t 4)) none), (AI.mk (some 14) (AOp.bin BinOp.add 3 false (Operand.tmp 13) (Operand.const (Value.int IntKind.i64 1)) (AX.t 13) (AX.c (AV.v (Value.int IntKind.i64 1)))) none), (AI.mk (some 4) (AOp.mv (AX.t 14)) none)])))))) (AC.seq (AC.region [(AI.mk (some 33) (AOp.load true 2 (AX.t 3)) none), (AI.mk none (AOp.store 2 (AX.t 2) (AX.t 33)) none)]) AC.ret)))))
theorem cop15 : copF Tryd.prog [41,60,65,66,68,79,87,90,97,101,102,103,104] 15 = some A15 := by kernel_rfl
/-- boscage/boscageref31.At -/
def A23 : AF := (AF.mk 28 [(4, none), (5, none)] (AC.seq (AC.region [(AI.mk (some 2) (AOp.new 27 2 (AX.t 0)) none), (AI.mk (some 4) (AOp.mv (AX.c (AV.nl 2))) none), (AI.mk (some 5) (AOp.mv (AX.c (AV.v (Value.bool false)))) none)]) (AC.seq (AC.seq (AC.region [(AI.mk (some 6) (AOp.mv (AX.c (AV.v (Value.int IntKind.i64 0)))) none)]) (AC.block 0 (AC.loop (AC.seq (AC.seq (AC.region [(AI.mk (some 7) (AOp.mv (AX.t 6)) none), (AI.mk (some 8) (AOp.fad 1 (AX.t 2)) none), (AI.mk (some 9) (AOp.load false 1 (AX.t 8)) none), (AI.mk (some 10) (AOp.len (AX.t 9)) none), (AI.mk (some 11) (AOp.bin BinOp.lss 3 false (Operand.tmp 7) (Operand.tmp 10) (AX.t 7) (AX.t 10)) none)]) (AC.cond (AX.t 11) AC.skip (AC.exit 0))) (AC.seq (AC.block 1 (AC.seq (AC.region [(AI.mk (some 14) (AOp.fad 1 (AX.t 2)) none), (AI.mk (some 15) (AOp.load false 1 (AX.t 14)) none), (AI.mk (some 16) (AOp.mv (AX.t 6)) none), (AI.mk (some 17) (AOp.iad 2 (AX.t 15) (AX.t 16)) none), (AI.mk (some 18) (AOp.fad 0 (AX.t 17)) none), (AI.mk (some 19) (AOp.load false 1 (AX.t 18)) none), (AI.mk (some 20) (AOp.mv (AX.t 1)) none), (AI.mk (some 21) (AOp.bin BinOp.eql 3 false (Operand.tmp 19) (Operand.tmp 20) (AX.t 19) (AX.t 20)) none)]) (AC.cond (AX.t 21) (AC.seq (AC.region [(AI.mk (some 22) (AOp.fad 1 (AX.t 2)) none), (AI.mk (some 23) (AOp.load false 1 (AX.t 22)) none), (AI.mk (some 24) (AOp.mv (AX.t 6)) none), (AI.mk (some 25) (AOp.iad 2 (AX.t 23) (AX.t 24)) none), (AI.mk (some 26) (AOp.fad 1 (AX.t 25)) none), (AI.mk (some 27) (AOp.load false 1 (AX.t 26)) none), (AI.mk (some 4) (AOp.mv (AX.t 27)) none), (AI.mk (some 5) (AOp.mv (AX.c (AV.v (Value.bool true)))) none)]) AC.ret) AC.skip))) (AC.region [(AI.mk (some 12) (AOp.mv (AX.t 6)) none), (AI.mk (some 13) (AOp.bin BinOp.add 3 false (Operand.tmp 12) (Operand.const (Value.int IntKind.i64 1)) (AX.t 12) (AX.c (AV.v (Value.int IntKind.i64 1)))) none), (AI.mk (some 6) (AOp.mv (AX.t 13)) none)])))))) (AC.seq (AC.region [(AI.mk (some 4) (AOp.mv (AX.c (AV.nl 2))) none), (AI.mk (some 5) (AOp.mv (AX.c (AV.v (Value.bool false)))) none)]) AC.ret))))
theorem cop23 : copF Tryd.prog [41,60,65,66,68,79,87,90,97,101,102,103,104] 23 = some A23 := by kernel_rfl
/-- boscage/pair.Drop -/
def A39 : AF := (AF.mk 25 [(4, none)] (AC.seq (AC.region [(AI.mk (some 4) (AOp.mv (AX.c (AV.nl 2))) none)]) (AC.seq (AC.region [(AI.mk (some 7) (AOp.mv (AX.t 0)) none), (AI.mk (some 8) (AOp.call 54 [(AX.t 7)]) none), (AI.mk (some 0) (AOp.mv (AX.t 8)) none)]) (AC.seq (AC.region [(AI.mk (some 9) (AOp.mv (AX.t 0)) none), (AI.mk (some 10) (AOp.mv (AX.t 1)) none), (AI.mk (some 11) (AOp.call 67 [(AX.t 10)]) none), (AI.mk (some 12) (AOp.call 55 [(AX.t 9), (AX.t 11)]) none), (AI.mk (some 13) (AOp.mv (AX.t 0)) none), (AI.mk (some 14) (AOp.mv (AX.t 1)) none), (AI.mk (some 15) (AOp.call 56 [(AX.t 14)]) none), (AI.mk (some 16) (AOp.call 55 [(AX.t 13), (AX.t 15)]) none), (AI.mk (some 5) (AOp.mv (AX.t 12)) none), (AI.mk (some 6) (AOp.mv (AX.t 16)) none)]) (AC.seq (AC.draw [(AI.mk (some 17) (AOp.mv (AX.t 0)) none), (AI.mk (some 18) (AOp.mv (AX.t 5)) none), (AI.mk (some 19) (AOp.slc 2 (AX.t 17) none (some (AX.t 18))) none), (AI.mk (some 20) (AOp.mv (AX.t 0)) none), (AI.mk (some 21) (AOp.mv (AX.t 6)) none), (AI.mk (some 22) (AOp.slc 2 (AX.t 20) (some (AX.t 21)) none) none), (AI.mk (some 23) (AOp.bsl 24 1 [(AX.t 19), (AX.t 22)]) none), (AI.mk (some 24) (AOp.callh 68 [(AX.t 23)]) none), (AI.mk (some 4) (AOp.mv (AX.t 24)) none)]) AC.ret)))))
theorem cop39 : copF Tryd.prog [41,60,65,66,68,79,87,90,97,101,102,103,104] 39 = some A39 := by kernel_rfl
/-- boscage/model.holds -/
def A40 : AF := (AF.mk 9 [(4, none)] (AC.seq (AC.region [(AI.mk (some 2) (AOp.new 39 2 (AX.t 0)) none), (AI.mk (some 3) (AOp.new 3 1 (AX.t 1)) none), (AI.mk (some 4) (AOp.mv (AX.c (AV.v (Value.int IntKind.i64 0)))) none)]) (AC.seq (AC.region [(AI.mk (some 5) (AOp.fad 1 (AX.t 2)) none), (AI.mk (some 6) (AOp.load false 1 (AX.t 5)) none), (AI.mk (some 7) (AOp.mkf 70 [(AX.t 3)]) none), (AI.mk (some 8) (AOp.call 69 [(AX.t 6), (AX.t 7)]) none), (AI.mk (some 4) (AOp.mv (AX.t 8)) none)]) AC.ret)))
theorem cop40 : copF Tryd.prog [41,60,65,66,68,79,87,90,97,101,102,103,104] 40 = some A40 := by kernel_rfl
/-- slices.IndexFunc[[]boscage/model.Held,boscage/model.Held] -/
def A69 : AF := (AF.mk 19 [(4, none)] (AC.seq (AC.region [(AI.mk (some 4) (AOp.mv (AX.c (AV.v (Value.int IntKind.i64 0)))) none)]) (AC.seq (AC.seq (AC.region [(AI.mk (some 6) (AOp.mv (AX.t 0)) none), (AI.mk (some 7) (AOp.len (AX.t 6)) none), (AI.mk (some 8) (AOp.mv (AX.c (AV.v (Value.int IntKind.i64 0)))) none)]) (AC.block 0 (AC.loop (AC.seq (AC.region [(AI.mk (some 9) (AOp.bin BinOp.lss 3 false (Operand.tmp 8) (Operand.tmp 7) (AX.t 8) (AX.t 7)) none)]) (AC.seq (AC.cond (AX.t 9) AC.skip (AC.exit 0)) (AC.seq (AC.block 1 (AC.seq (AC.region [(AI.mk (some 10) (AOp.mv (AX.t 8)) none), (AI.mk (some 5) (AOp.mv (AX.t 10)) none)]) (AC.seq (AC.region [(AI.mk (some 11) (AOp.mv (AX.t 1)) none), (AI.mk (some 12) (AOp.mv (AX.t 0)) none), (AI.mk (some 13) (AOp.mv (AX.t 5)) none), (AI.mk (some 14) (AOp.iad 2 (AX.t 12) (AX.t 13)) none), (AI.mk (some 15) (AOp.load true 2 (AX.t 14)) none), (AI.mk (some 16) (AOp.callv (AX.t 11) [(AX.t 15)]) none)]) (AC.cond (AX.t 16) (AC.seq (AC.region [(AI.mk (some 17) (AOp.mv (AX.t 5)) none), (AI.mk (some 4) (AOp.mv (AX.t 17)) none)]) AC.ret) AC.skip)))) (AC.region [(AI.mk (some 18) (AOp.bin BinOp.add 3 false (Operand.tmp 8) (Operand.const (Value.int IntKind.i64 1)) (AX.t 8) (AX.c (AV.v (Value.int IntKind.i64 1)))) none), (AI.mk (some 8) (AOp.mv (AX.t 18)) none)]))))))) (AC.seq (AC.region [(AI.mk (some 4) (AOp.mv (AX.c (AV.v (Value.int IntKind.i64 (Int.negSucc 0))))) none)]) AC.ret))))
theorem cop69 : copF Tryd.prog [41,60,65,66,68,79,87,90,97,101,102,103,104] 69 = some A69 := by kernel_rfl
/-- boscage/model.holds$1 -/
def A70 : AF := (AF.mk 8 [(3, none)] (AC.seq (AC.region [(AI.mk (some 2) (AOp.new 71 2 (AX.t 0)) none), (AI.mk (some 3) (AOp.mv (AX.c (AV.v (Value.bool false)))) none)]) (AC.seq (AC.region [(AI.mk (some 4) (AOp.fad 0 (AX.t 2)) none), (AI.mk (some 5) (AOp.load false 1 (AX.t 4)) none), (AI.mk (some 6) (AOp.load false 1 (AX.t 1)) none), (AI.mk (some 7) (AOp.bin BinOp.eql 3 false (Operand.tmp 5) (Operand.tmp 6) (AX.t 5) (AX.t 6)) none), (AI.mk (some 3) (AOp.mv (AX.t 7)) none)]) AC.ret)))
theorem cop70 : copF Tryd.prog [41,60,65,66,68,79,87,90,97,101,102,103,104] 70 = some A70 := by kernel_rfl
end Go.Proofs.YtgpldekhcojimaaDoor.Sim

namespace Go.Proofs.YtgpldekhcojimaaDoor.Sim
open Go.RowKit
set_option linter.unusedVariables false
section
variable {P : Program} {G : Nat → AV} {m : Nat}
/-- Between two pieces of code: what is known of the slots, and of the rows. -/
theorem V_cut {α : Type} {a b : AC} {Q : EX → St → Prop} {s : List AV} {H : Hp} (J : α → Prop) (M : α → List (Nat × Option AV)) (Hc : α → Hp)
    (h1 : ∀ K : St → Prop, (∀ (s' : List AV) (H' : Hp) (p : α), J p → Fg m ⟨s', H'⟩ ⟨mx s (M p), Hc p⟩ → K ⟨s', H'⟩) → V P G m a (thenQ K Q) ⟨s, H⟩)
    (h2 : ∀ p, J p → V P G m b Q ⟨mx s (M p), Hc p⟩) : V P G m (.seq a b) Q ⟨s, H⟩ :=
  h1 _ (fun s' H' p hp hf => SeqP.fg _ hf (h2 p hp))
end
end Go.Proofs.YtgpldekhcojimaaDoor.Sim

namespace Go.Proofs.YtgpldekhcojimaaDoor.Sim
open Go.RowKit
set_option maxRecDepth 100000
set_option linter.unusedSimpArgs false
set_option linter.unusedVariables false
open Pr7
theorem id_take {H : List Hd} {k : Nat} (h : k < H.length) : id (H.take (k + 1)) = id (H.take k) ++ [H[k]] := List.take_succ_eq_append_getElem h
section
variable (G : Nat → AV)
set_option maxHeartbeats 2000000 in
theorem back15 (l : List Pr) (H : List Hd) (h40 : H.length ≤ 1000000) : PC Tryd.prog G 15 [sA l H] (sA l (H)) := by
  have hnr := nr_h H
  refine pc_ofV cop15 ?_
  repeat' ((conv => whnf); first | (with_reducible refine SeqP.go ?_) | ((with_reducible refine ObD.mk ?_ ?_); (focus (first | rfl | (simp; done)))) | ((with_reducible refine ObN.mk ?_ ?_); (focus (first | rfl | assumption | omega | (simp only [List.length_map, List.length_append, List.length_cons, List.length_nil]; omega) | (simp; done) | (simp; omega)))) | ((with_reducible refine (?_ : ObU _ _)); (refine ObU.mk _ (by first | assumption | ((conv => lhs; simp only [List.set_cons_zero, List.set_cons_succ, List.take_succ_cons, List.take_zero, List.drop_succ_cons, List.drop_zero, List.nil_append, List.cons_append, List.append_nil, List.take_nil, List.drop_nil]); try rfl) | rfl) ?_)) | ((with_reducible refine (?_ : ObR _ _ _)); (first | (refine ObR.mk _ (by assumption) ?_) | (refine ObR.mk _ (by with_reducible rfl) ?_) | (refine ObR.map (by (first | omega | assumption | (simp only [List.length_map, List.length_append, List.length_cons, List.length_nil, List.length_take, List.length_drop, List.length_set, List.length_replicate]; omega))) (fun x hx => ?_)) | (refine ObR.mk _ rfl ?_))))
  conv => whnf
  refine LoopP.go (α := Nat × List Hd) (fun p => p.1 ≤ H.length ∧ p.2 = id (H.take p.1)) (fun p => H.length - p.1) (fun p => [(4, some (I p.1)), (3, none), (0, none), (0, none), (0, none), (0, none), (0, none), (0, none), (0, none), (0, none), (0, none), (0, none), (0, none), (0, none), (0, none), (0, none), (0, none), (0, none), (0, none), (0, none), (0, none), (0, none), (0, none), (0, none), (0, none), (0, none)]) (fun p => [⟨39, 2, [sA l H], 0, 0⟩, ⟨27, 2, [.agg [.nl 2, .nl 2]], 0, 0⟩, ⟨27, 2, [.agg [.sl 2 (l.map pA), hS 3 p.2]], 0, 0⟩] ++ hH 61 p.2) (0, []) ⟨Nat.zero_le _, rfl⟩ (Fg.go ?_ rfl) ?_
  · repeat' ((conv => whnf); first | ((with_reducible refine ObEqs.mk ?_ ?_); (focus rfl)) | ((with_reducible refine ObEq1.i ?_ ?_); (focus (first | (with_reducible rfl) | omega))) | exact True.intro)
  rintro ⟨k, o⟩ ⟨hk, ho⟩
  dsimp only at hk ho ⊢
  have hol : o.length ≤ H.length := by rw [ho, id, List.length_take]; omega
  by_cases hkl : k < H.length
  · skip
    have q := hA_at hkl
    have f := id_take hkl
    generalize H[k] = x at *
    rw [← ho] at f
    rcases o with _ | ⟨o0, ot⟩
    · have r1 := nr_h [x]
      repeat' ((conv => whnf); first | (with_reducible refine SeqP.go ?_) | ((with_reducible refine ObD.mk ?_ ?_); (focus (first | rfl | (simp; done)))) | ((with_reducible refine ObN.mk ?_ ?_); (focus (first | rfl | assumption | omega | (simp only [List.length_map, List.length_append, List.length_cons, List.length_nil]; omega) | (simp; done) | (simp; omega)))) | (with_reducible refine ObT.tt ?_) | ((with_reducible refine ObB.yes ?_ ?_); (focus (first | assumption | (with_reducible rfl) | omega))) | ((with_reducible refine ObI.nl ?_ ?_); (focus omega)) | ((with_reducible refine ObX.mk _ rfl ?_ ?_); (focus (first | omega | assumption | (simp only [List.length_map, List.length_append, List.length_cons, List.length_nil, List.length_take, List.length_drop, List.length_set, List.length_replicate]; omega)))) | ((with_reducible refine (?_ : ObL _ _)); (refine ObL.mk _ (by first | exact (List.length_map _) | assumption | exact (List.length_map _).trans (by assumption) | exact List.length_map _ | rfl) ?_)) | ((with_reducible refine (?_ : ObU _ _)); (refine ObU.mk _ (by first | assumption | ((conv => lhs; simp only [List.set_cons_zero, List.set_cons_succ, List.take_succ_cons, List.take_zero, List.drop_succ_cons, List.drop_zero, List.nil_append, List.cons_append, List.append_nil, List.take_nil, List.drop_nil]); try rfl) | rfl) ?_)) | ((with_reducible refine (?_ : ObR _ _ _)); (first | (refine ObR.mk _ (by assumption) ?_) | (refine ObR.mk _ (by exact q) ?_) | (refine ObR.mk _ (by with_reducible rfl) ?_) | (refine ObR.map (by (first | omega | assumption | (simp only [List.length_map, List.length_append, List.length_cons, List.length_nil, List.length_take, List.length_drop, List.length_set, List.length_replicate]; omega))) (fun x hx => ?_)) | (refine ObR.mk _ rfl ?_))) | ((with_reducible refine ObW.cons ?_ ?_); (focus (first | assumption | (simp; done)))))
      all_goals conv => whnf
      refine Again.mk (k + 1, [x]) ⟨by dsimp only; omega, by dsimp only; rw [f]; rfl⟩ ?_ (Fg.vw [(0, 0, 0), (0, 1, 0), (0, 2, 0), (0, 4, 0)] ?_ ?_ (by simp) ?_)
      · dsimp only; omega
      all_goals repeat' ((conv => whnf); first | ((with_reducible refine ObRow.lit ?_ ?_); (focus (simp [rnB, rnC, rnL, AV.cells, hS]; done))) | ((with_reducible refine ObRn.mk ?_ ?_); (focus (simp [rnB, rnC, rnA, rnT, hS]; done))) | ((with_reducible refine ObN.mk ?_ ?_); (focus (first | rfl | assumption | omega | (simp only [List.length_map, List.length_append, List.length_cons, List.length_nil]; omega) | (simp; done) | (simp; omega)))) | ((with_reducible refine ObRow.same ?_ ?_ ?_); (focus (first | rfl | assumption)); (focus (first | rfl | assumption | (simp; done)))) | ((with_reducible refine ObEqs.mk ?_ ?_); (focus rfl)) | exact True.intro)
    · have hol2 : ot.length + 1 ≤ H.length := hol
      have r1 := nr_h ((o0 :: ot) ++ [x])
      have r2 := nr_h (o0 :: ot)
      have us : ((o0 :: ot).map hA).take (ot.length + 1) ++ [.agg [I x.1, .sl 2 (x.2.map pA)]] = ((o0 :: ot) ++ [x]).map hA := h_snoc (l := o0 :: ot) (x := x)
      repeat' ((conv => whnf); first | (with_reducible refine SeqP.go ?_) | ((with_reducible refine ObD.mk ?_ ?_); (focus (first | rfl | (simp; done)))) | ((with_reducible refine ObN.mk ?_ ?_); (focus (first | rfl | assumption | omega | (simp only [List.length_map, List.length_append, List.length_cons, List.length_nil]; omega) | (simp; done) | (simp; omega)))) | (with_reducible refine ObT.tt ?_) | ((with_reducible refine ObB.yes ?_ ?_); (focus (first | assumption | (with_reducible rfl) | omega))) | ((with_reducible refine ObI.nl ?_ ?_); (focus omega)) | ((with_reducible refine ObX.mk _ rfl ?_ ?_); (focus (first | omega | assumption | (simp only [List.length_map, List.length_append, List.length_cons, List.length_nil, List.length_take, List.length_drop, List.length_set, List.length_replicate]; omega)))) | ((with_reducible refine (?_ : ObL _ _)); (refine ObL.mk _ (by first | exact (List.length_map _) | assumption | exact (List.length_map _).trans (by assumption) | exact List.length_map _ | rfl) ?_)) | ((with_reducible refine (?_ : ObU _ _)); (refine ObU.mk _ (by first | exact us | assumption | ((conv => lhs; simp only [List.set_cons_zero, List.set_cons_succ, List.take_succ_cons, List.take_zero, List.drop_succ_cons, List.drop_zero, List.nil_append, List.cons_append, List.append_nil, List.take_nil, List.drop_nil]); try rfl) | rfl) ?_)) | ((with_reducible refine (?_ : ObR _ _ _)); (first | (refine ObR.mk _ (by assumption) ?_) | (refine ObR.mk _ (by exact q) ?_) | (refine ObR.mk _ (by with_reducible rfl) ?_) | (refine ObR.map (by (first | omega | assumption | (simp only [List.length_map, List.length_append, List.length_cons, List.length_nil, List.length_take, List.length_drop, List.length_set, List.length_replicate]; omega))) (fun x hx => ?_)) | (refine ObR.mk _ rfl ?_))))
      all_goals conv => whnf
      refine Again.mk (k + 1, (o0 :: ot) ++ [x]) ⟨by dsimp only; omega, by dsimp only; rw [f]⟩ ?_ (Fg.vw [(0, 0, 0), (0, 1, 0), (0, 2, 0), (0, 3, 1)] ?_ ?_ (by simp) ?_)
      · dsimp only; omega
      all_goals repeat' ((conv => whnf); first | ((with_reducible refine ObRow.lit ?_ ?_); (focus (simp [rnB, rnC, rnL, AV.cells, hS]; done))) | ((with_reducible refine ObRn.mk ?_ ?_); (focus (simp [rnB, rnC, rnA, rnT, hS]; done))) | ((with_reducible refine ObN.mk ?_ ?_); (focus (first | rfl | assumption | omega | (simp only [List.length_map, List.length_append, List.length_cons, List.length_nil]; omega) | (simp; done) | (simp; omega)))) | ((with_reducible refine ObRow.same ?_ ?_ ?_); (focus (first | rfl | assumption)); (focus (first | rfl | assumption | (simp; done)))) | ((with_reducible refine ObEqs.mk ?_ ?_); (focus rfl)) | exact True.intro)
  · obtain rfl : k = H.length := by omega
    rw [List.take_length] at ho
    obtain rfl : o = H := ho
    rcases o with _ | ⟨o0, ot⟩
    · repeat' ((conv => whnf); first | (with_reducible refine SeqP.go ?_) | ((with_reducible refine ObD.mk ?_ ?_); (focus (first | rfl | (simp; done)))) | ((with_reducible refine ObN.mk ?_ ?_); (focus (first | rfl | assumption | omega | (simp only [List.length_map, List.length_append, List.length_cons, List.length_nil]; omega) | (simp; done) | (simp; omega)))) | (with_reducible refine ObT.ff ?_) | ((with_reducible refine ObB.no ?_ ?_); (focus (first | assumption | omega))) | ((with_reducible refine (?_ : ObL _ _)); (refine ObL.mk _ (by first | assumption | exact (List.length_map _).trans (by assumption) | exact List.length_map _ | rfl) ?_)) | ((with_reducible refine (?_ : ObU _ _)); (refine ObU.mk _ (by first | assumption | ((conv => lhs; simp only [List.set_cons_zero, List.set_cons_succ, List.take_succ_cons, List.take_zero, List.drop_succ_cons, List.drop_zero, List.nil_append, List.cons_append, List.append_nil, List.take_nil, List.drop_nil]); try rfl) | rfl) ?_)) | ((with_reducible refine (?_ : ObR _ _ _)); (first | (refine ObR.mk _ (by assumption) ?_) | (refine ObR.mk _ (by with_reducible rfl) ?_) | (refine ObR.map (by (first | omega | assumption | (simp only [List.length_map, List.length_append, List.length_cons, List.length_nil, List.length_take, List.length_drop, List.length_set, List.length_replicate]; omega))) (fun x hx => ?_)) | (refine ObR.mk _ rfl ?_))) | ((with_reducible refine ObEq.mk ?_); (focus (first | rfl | assumption))))
    · have la : ((o0 :: ot).map hA).take (ot.length + 1) = (o0 :: ot).map hA := h_all (l := o0 :: ot)
      have lp := p_h (o0 :: ot)
      have lq : (((o0 :: ot).map hA).take (ot.length + 1)).all AV.isP = true := by rw [la]; exact lp
      have hol2 : ot.length + 1 ≤ 1000000 := h40
      repeat' ((conv => whnf); first | (with_reducible refine SeqP.go ?_) | ((with_reducible refine ObD.mk ?_ ?_); (focus (first | rfl | (simp; done)))) | ((with_reducible refine ObN.mk ?_ ?_); (focus (first | rfl | assumption | omega | (simp only [List.length_map, List.length_append, List.length_cons, List.length_nil]; omega) | (simp; done) | (simp; omega)))) | (with_reducible refine ObT.ff ?_) | ((with_reducible refine ObB.no ?_ ?_); (focus (first | assumption | omega))) | ((with_reducible refine (?_ : ObL _ _)); (refine ObL.mk _ (by first | assumption | exact (List.length_map _).trans (by assumption) | exact List.length_map _ | rfl) ?_)) | ((with_reducible refine (?_ : ObU _ _)); (refine ObU.mk _ (by first | exact la | assumption | ((conv => lhs; simp only [List.set_cons_zero, List.set_cons_succ, List.take_succ_cons, List.take_zero, List.drop_succ_cons, List.drop_zero, List.nil_append, List.cons_append, List.append_nil, List.take_nil, List.drop_nil]); try rfl) | rfl) ?_)) | ((with_reducible refine (?_ : ObR _ _ _)); (first | (refine ObR.mk _ (by assumption) ?_) | (refine ObR.mk _ (by with_reducible rfl) ?_) | (refine ObR.map (by (first | omega | assumption | (simp only [List.length_map, List.length_append, List.length_cons, List.length_nil, List.length_take, List.length_drop, List.length_set, List.length_replicate]; omega))) (fun x hx => ?_)) | (refine ObR.mk _ rfl ?_))) | ((with_reducible refine ObEq.mk ?_); (focus (first | rfl | assumption))))
end
end Go.Proofs.YtgpldekhcojimaaDoor.Sim

namespace Go.Proofs.YtgpldekhcojimaaDoor.Sim
open Go.RowKit Go.Lib
set_option maxRecDepth 100000
set_option linter.unusedSimpArgs false
set_option linter.unusedVariables false
/-- append where there is room, in a row. -/
theorem step_app_row {P : Program} {ops : Array Oper} {o : Oper} {a : Act} {w : World} {K : Act → World → Prop} {Q : Exit → Act → World → Prop} {E : Prop}
    (hg : o.guard = none) (s x : Operand) (t : TypeId) (hop : o.op = Op.call { callee := Callee.builtin Builtin.append, args := #[s, x], argTypes := #[t, t] })
    (e : TypeId) (i : TypeInfo) (h1 : P.underlying t = some (.slice e)) (h2 : P.info? e = some i)
    (b n cap : Nat) (cur : Array Value) (hrow : w.heap[b]? = some (.cells cur e (0, 0))) (hs : a.eval s = .slice (some ⟨b, 0, none⟩) n cap)
    (ad : Addr) (m c : Nat) (news : List Value) (hx : a.eval x = .slice (some ad) m c) (hn : news.length = m * i.size) (hc : ∀ j u, news[j]? = some u → w.cell? (ad.add j) = some u) (h1c : ∀ u ∈ news, u.oneCell' = true)
    (hroom : n + m ≤ cap) (hfit : n * i.size + news.length ≤ cur.size)
    (hK : K (a.put o.dst (.slice (some ⟨b, 0, none⟩) (n + m) cap)) (w.setRow b (cur.toList.take (n * i.size) ++ news ++ cur.toList.drop (n * i.size + news.length)).toArray)) :
    if Region.wanted o (yielded ops a.tmps) = true then Oper.wp P o a w K Q else E := by
  have hw : Region.wanted o (yielded ops a.tmps) = true := by simp [Region.wanted, hg]
  rw [if_pos hw]
  have hrun := run_append_room (P := P) w t o.type e i h1 h2 b n cap cur hrow ad m c news hn hc h1c hroom hfit
  unfold Oper.wp
  simp [execOp, hop, resolve, invoke, builtin, hs, hx, hrun, Result.andThen]
  simp only [List.append_assoc] at hK
  exact hK
/-- clear, of elements of a row. -/
theorem run_clear_row {P : Program} (w : World) (t e ty : TypeId) (z : Value) (ht : P.underlying t = some (.slice e)) (hv : ∀ w, (zeroValue e).run P w = .ok z w) (b o n c : Nat) (hn : 0 < n) (cur : Array Value) (hrow : w.heap[b]? = some (.cells cur e (0, 0))) (vs : List Value) (hvs : (Builtin.zeroCells z.cells n).toList = vs) (hfit : o + vs.length ≤ cur.size) (h1 : ∀ u ∈ vs, u.oneCell' = true) :
    (Builtin.clear_ #[t] ty #[.slice (some ⟨b, o, none⟩) n c]).run P w = .ok (.tuple #[]) (w.setRow b (cur.toList.take o ++ vs ++ cur.toList.drop (o + vs.length)).toArray) := by
  have hst := run_storeCells_at P b o e vs 0 cur w hrow (by simpa using hfit) h1
  simp only [Nat.add_zero] at hst
  obtain ⟨m, rfl⟩ : ∃ m, n = m + 1 := ⟨n - 1, by omega⟩
  simp [Builtin.clear_, run_underlying ht, hv, hvs, hst]
theorem zero71 : ∃ z : Value, (∀ w, (zeroValue 71).run (Tryd.prog) w = .ok z w) ∧ (Builtin.zeroCells z.cells 1).toList = [Value.int .i64 0, Value.slice none 0 0] := by
  refine ⟨.agg #[Value.int .i64 0, Value.slice none 0 0], fun w => ?_, ?_⟩
  · kernel_rfl
  · simp [Builtin.zeroCells, Value.cells]
    rfl
theorem und37 : (Tryd.prog).underlying 37 = some (.slice 71) := by kernel_rfl
theorem inf71 : ∃ i, (Tryd.prog).info? 71 = some i ∧ i.size = 2 := by
  obtain ⟨i, hi⟩ : ∃ i, i = (Tryd.prog).info? 71 := ⟨_, rfl⟩
  have h : ((Tryd.prog).info? 71).map (·.size) = some 2 := by kernel_rfl
  cases hq : (Tryd.prog).info? 71 with
  | none => rw [hq] at h; cases h
  | some i => rw [hq] at h; exact ⟨i, rfl, by simpa using h⟩
set_option maxHeartbeats 4000000 in
theorem del_row (w : World) (b n C a j : Nat) (hj : j = a + 1) (cur : Array Value) (hg : w.heap[b]? = some (.cells cur 71 (0, 0))) (hsz : cur.size = C * 2) (hm : C ≤ 9223372036854775807) (ha : a < n) (hn : n ≤ C) (h1 : ∀ u ∈ cur.toList.take (n * 2), u.oneCell' = true) :
    Calls Tryd.prog 41 #[.slice (some ⟨b, 0, none⟩) n C, .int .i64 a, .int .i64 j] w fun e w' => e = .returned (.slice (some ⟨b, 0, none⟩) (n - 1) C) ∧ ∃ new : Array Value, w' = w.drew.setRow b new ∧ new.size = cur.size ∧ (∀ j, j < a * 2 → new[j]? = cur[j]?) ∧ (∀ j, a * 2 ≤ j → j < (n - 1) * 2 → new[j]? = cur[j + 2]?) := by
  obtain ⟨i0, hi0, hz1⟩ := inf71
  have t37 := und37
  have hmaxl := hm
  obtain ⟨news, hnews⟩ : ∃ news, news = (cur.toList.drop (j * 2)).take ((n - j) * 2) := ⟨_, rfl⟩
  have hlen : news.length = (n - j) * 2 := by
    rw [hnews, List.length_take, List.length_drop, Array.length_toList, hsz]; omega
  have hget : ∀ t u, news[t]? = some u → t < (n - j) * 2 ∧ cur[j * 2 + t]? = some u := by
    intro t u ht
    rw [hnews, List.getElem?_take] at ht
    split at ht
    · rw [List.getElem?_drop, Array.getElem?_toList] at ht
      exact ⟨by assumption, ht⟩
    · cases ht
  have hcell : ∀ j u, cur[j]? = some u → w.drew.cell? ⟨b, j, none⟩ = some u := by
    intro j u hj
    show w.cell? ⟨b, j, none⟩ = some u
    simp [World.cell?, hg, hj]
  obtain ⟨A, hA, hsrc⟩ : ∃ A : Addr, (if C = j then some (⟨b, 0, none⟩ : Addr) else some ⟨b, j * 2, none⟩) = some A ∧ Hid (∀ t u, news[t]? = some u → w.drew.cell? (A.add t) = some u) := by
    by_cases h : C = j
    · refine ⟨⟨b, 0, none⟩, by simp [h], fun t u hu => ?_⟩
      have := (hget t u hu).1; omega
    · refine ⟨⟨b, j * 2, none⟩, by simp [h], fun t u hu => ?_⟩
      rw [Addr.add_lit]
      exact hcell _ _ (hget t u hu).2
  have s1 : Hid (news.length = (n - j) * i0.size) := by rw [hz1]; exact hlen
  have s2 : Hid (∀ u ∈ news, u.oneCell' = true) := by
    intro u hu
    refine h1 u ?_
    rw [hnews] at hu
    obtain ⟨t, ht⟩ := List.mem_iff_getElem?.1 hu
    obtain ⟨h3, h4⟩ := hget t u (by rw [hnews]; exact ht)
    rw [← Array.getElem?_toList] at h4
    refine List.mem_of_getElem? (i := j * 2 + t) ?_
    rw [List.getElem?_take, if_pos (by omega)]
    exact h4
  have s3 : Hid (w.drew.heap[b]? = some (.cells cur 71 (0, 0))) := hg
  have s4 : Hid (a * i0.size + news.length ≤ cur.size) := by rw [hz1, hlen, hsz]; show _ ≤ _; omega
  obtain ⟨new1, hnew1⟩ : ∃ new1, new1 = (cur.toList.take (a * i0.size) ++ news ++ cur.toList.drop (a * i0.size + news.length)).toArray := ⟨_, rfl⟩
  have n1s : new1.size = cur.size := by
    rw [hnew1, hz1]
    simp only [List.size_toArray, List.length_append, List.length_take, List.length_drop, Array.length_toList, hlen, hsz]; omega
  obtain ⟨W1, hW1⟩ : ∃ W1, W1 = w.drew.setRow b new1 := ⟨_, rfl⟩
  have W1r : W1.heap[b]? = some (.cells new1 71 (0, 0)) := by rw [hW1]; exact setRow_heap w.drew b cur new1 71 (0, 0) hg
  obtain ⟨z, hz, hzc⟩ := zero71
  obtain ⟨new2, hnew2⟩ : ∃ new2, new2 = (new1.toList.take ((a + (n - j)) * 2) ++ [Value.int .i64 0, Value.slice none 0 0] ++ new1.toList.drop ((a + (n - j)) * 2 + 2)).toArray := ⟨_, rfl⟩
  obtain ⟨W2, hW2⟩ : ∃ W2, W2 = W1.setRow b new2 := ⟨_, rfl⟩
  have e1 : n - (a + (n - j)) = 1 := by omega
  have hcl : ∀ ty, (Builtin.clear_ #[37] ty #[.slice (some ⟨b, (a + (n - j)) * 2, none⟩) (n - (a + (n - j))) (C - (a + (n - j)))]).run (Tryd.prog) W1 = .ok (.tuple #[]) W2 := fun ty => by
    rw [e1, hW2, hnew2]
    exact run_clear_row W1 37 71 ty z und37 hz b _ 1 _ (by omega) new1 W1r _ hzc (by rw [n1s, hsz]; simp; omega) (fun u hu => by simp at hu; rcases hu with rfl | rfl <;> rfl)
  have X1 : Aside (new1 = (cur.toList.take (a * i0.size) ++ news ++ cur.toList.drop (a * i0.size + news.length)).toArray) := hnew1
  have X2 : Aside (new2 = (new1.toList.take ((a + (n - j)) * 2) ++ [Value.int .i64 0, Value.slice none 0 0] ++ new1.toList.drop ((a + (n - j)) * 2 + 2)).toArray) := hnew2
  have X3 : Aside (news = (cur.toList.drop (j * 2)).take ((n - j) * 2)) := hnews
  have hW : Hid (W1 = w.drew.setRow b (cur.toList.take (a * i0.size) ++ news ++ cur.toList.drop (a * i0.size + news.length)).toArray) := by rw [← hnew1]; exact hW1
  have X4' : W2 = w.drew.setRow b new2 := by rw [hW2, hW1, setRow_setRow]
  have X4 : Aside (W2 = w.drew.setRow b new2) := X4'
  have X5 : Aside (news.length = (n - j) * 2) := hlen
  clear X4' e1 hW2 hW1 hnew1 hnew2 hnews hget hlen hcell W1r n1s hzc hz
  have hic : a ≤ C := by omega
  have hjc : j ≤ C := by omega
  have hjn : j ≤ n := by omega
  have hlt : a < j := by omega
  have Hj : Hid (j = a + 1) := hj
  clear hj
  go_enter Tryd.func41, Tryd.ntmps41
  go_wp2_with fail
  go_region_law (refine step_app_row rfl (.tmp 22) (.tmp 25) 37 rfl 71 i0 t37 hi0 b a C cur s3.out (by simp [Act.eval, Act.put]) A (n - j) (C - j) news (by simp [Act.eval, Act.put]) s1.out hsrc.out s2.out (by omega) s4.out ?_; rw [← hW.out])
  go_wp2
  go_ret
  have hj : j = a + 1 := Hj.out
  have x1 := X1.out
  have x2 := X2.out
  have x3 := X3.out
  have x5 := X5.out
  rw [hz1] at x1
  subst hj
  have c1 : cur.toList.length = C * 2 := by rw [Array.length_toList, hsz]
  have e1 : (a + (n - (a + 1))) * 2 = (n - 1) * 2 := by omega
  have l1 : new1.toList.length = C * 2 := by
    rw [x1]
    simp only [List.length_append, List.length_take, List.length_drop, c1, x5]; omega
  have g1 : ∀ t, t < (n - 1) * 2 → new2[t]? = new1[t]? := by
    intro t ht
    rw [x2, ← Array.getElem?_toList, ← Array.getElem?_toList (xs := new1), e1]
    show (new1.toList.take ((n - 1) * 2) ++ _ ++ _)[t]? = _
    rw [List.append_assoc, List.getElem?_append_left (by rw [List.length_take]; omega), List.getElem?_take, if_pos ht]
  have l2 : (cur.toList.take (a * 2)).length = a * 2 := by rw [List.length_take]; omega
  refine ⟨by rw [show a + (n - (a + 1)) = n - 1 by omega]; rfl, new2, X4.out, ?_, fun t ht => ?_, fun t h1 h2 => ?_⟩
  · rw [x2]
    simp only [List.size_toArray, List.length_append, List.length_take, List.length_drop, l1, hsz, List.length_cons, List.length_nil]; omega
  · rw [g1 t (by omega), x1, ← Array.getElem?_toList, ← Array.getElem?_toList (xs := cur)]
    show (cur.toList.take (a * 2) ++ _ ++ _)[t]? = _
    rw [List.append_assoc, List.getElem?_append_left (by omega), List.getElem?_take, if_pos ht]
  · rw [g1 t h2, x1, ← Array.getElem?_toList, ← Array.getElem?_toList (xs := cur)]
    show (cur.toList.take (a * 2) ++ news ++ _)[t]? = _
    rw [List.append_assoc, List.getElem?_append_right (by omega), List.getElem?_append_left (by rw [l2, x5]; omega), l2, x3, List.getElem?_take, if_pos (by omega), List.getElem?_drop]
    congr 1; omega
/-- One snapshot is taken out of an own row. -/
theorem del41 (G : Nat → AV) (H : Hp) (i g n a : Nat) (es : List AV) (hi : H[i]? = some ⟨71, 2, es, g, 0⟩) (ha : a < n) (hn : n ≤ es.length) (hml : es.length ≤ 1000000) :
    HC Tryd.prog G 41 [.ol i g n, I a, I ((a : Int) + 1)] H (.ol i (g + 1) (n - 1)) (H.set i ⟨71, 2, es.take a ++ (es.take n).drop (a + 1), g + 1, 0⟩) := by
  intro B w0 F0 F O w xs hO hG hl hv
  obtain ⟨x0, x1, x2, rfl⟩ : ∃ x0 x1 x2, xs = [x0, x1, x2] := by
    match xs, hl with
    | [x0, x1, x2], _ => exact ⟨x0, x1, x2, rfl⟩
  have v0 := hv 0 x0 _ rfl rfl
  have v1 := hv 1 x1 _ rfl rfl
  have v2 := hv 2 x2 _ rfl rfl
  have k1 : x1 = .int .i64 a := by
    cases v1 with
    | p h => cases h; rfl
  have k2 : x2 = .int .i64 (a + 1 : Nat) := by
    cases v2 with
    | p h => cases h; rfl
  subst k1; subst k2
  have hlv : Sim.live H i g = some ⟨71, 2, es, g, 0⟩ := by
    simp [Sim.live, hi]
  obtain ⟨d, hd, hi', r, hnC, rfl⟩ := hO.ol v0 hlv
  obtain ⟨cur, hcur, hsz, hcc⟩ := r.cur
  dsimp only at hcur hsz hcc
  have hmC : d.C ≤ 9223372036854775807 := by have := r.hC; rw [maxLenE] at this; exact this
  have hone : ∀ u ∈ cur.toList.take (n * 2), u.oneCell' = true := by
    intro u hu
    obtain ⟨t, ht⟩ := List.mem_iff_getElem?.1 hu
    rw [List.getElem?_take] at ht
    split at ht
    · rename_i htn
      have hp : t / 2 < es.length := by omega
      have hc2 := r.hn es[t / 2] (List.getElem_mem hp)
      dsimp only at hc2
      have hq : t % 2 < es[t / 2].cells.length := by rw [hc2]; omega
      obtain ⟨c, g1, g2⟩ := hcc (t / 2) (t % 2) _ _ (List.getElem?_eq_getElem hp) (List.getElem?_eq_getElem hq)
      rw [show t / 2 * 2 + t % 2 = t by omega] at g1
      rw [Array.getElem?_toList, g1] at ht
      cases ht
      exact g2.oneCell (r.h1 _ (List.getElem_mem hp) _ (List.getElem_mem hq))
    · cases ht
  refine (del_row w d.b n d.C a (a + 1) rfl cur hcur hsz hmC ha hnC hone).mono ?_
  rintro e w' ⟨rfl, new, rfl, hns, hlo, hhi⟩
  have hO' : Own B w0 F0 F O H w.drew := hO.keep (Below.refl _ w).drew
  have tl : (es.take a ++ (es.take n).drop (a + 1)).length = n - 1 := by simp; omega
  have sub : ∀ x ∈ es.take a ++ (es.take n).drop (a + 1), x ∈ es := by
    intro x hx
    rcases List.mem_append.1 hx with hx | hx
    · exact List.mem_of_mem_take hx
    · exact List.mem_of_mem_take (List.mem_of_mem_drop hx)
  have at_ : ∀ (p : Nat) (x : AV), (es.take a ++ (es.take n).drop (a + 1))[p]? = some x → p < n - 1 ∧ es[if p < a then p else p + 1]? = some x := by
    intro p x hx
    have hp : p < n - 1 := by rw [← tl]; exact (List.getElem?_eq_some_iff.1 hx).1
    refine ⟨hp, ?_⟩
    have la : (es.take a).length = a := by rw [List.length_take]; omega
    by_cases hpa : p < a
    · rw [List.getElem?_append_left (by omega), List.getElem?_take, if_pos hpa] at hx
      rw [if_pos hpa]; exact hx
    · rw [List.getElem?_append_right (by omega), la, List.getElem?_drop, List.getElem?_take, if_pos (by omega)] at hx
      rw [if_neg hpa, ← hx]; congr 1; omega
  obtain ⟨q1, q2⟩ := hO'.write (i := i) (ob := ⟨71, 2, es, g, 0⟩) (d := d) hi' hd (new := new) (g' := g + 1) (es' := es.take a ++ (es.take n).drop (a + 1)) (Nat.le_succ _) (by rw [tl]; omega) (by rw [hns, hsz])
    (fun x hx => r.hn x (sub x hx)) (fun x hx => r.h1 x (sub x hx)) (Nat.zero_le _)
    (fun p q x u hx hu => by
      obtain ⟨hp, he⟩ := at_ p x hx
      have hxc : x.cells.length = 2 := r.hn x (sub x (List.mem_of_getElem? hx))
      have hq : q < 2 := by rw [← hxc]; exact (List.getElem?_eq_some_iff.1 hu).1
      obtain ⟨c, g1, g2⟩ := hcc _ q x u he hu
      refine ⟨c, ?_, g2⟩
      dsimp only
      by_cases hpa : p < a
      · rw [if_pos hpa] at g1
        rw [hlo _ (by omega)]; exact g1
      · rw [if_neg hpa] at g1
        rw [hhi _ (by omega) (by omega), ← g1]; congr 1; omega)
    (fun o u hu => by
      have := r.hf o u hu
      dsimp only at this
      omega)
  have hd' : (O.set i ⟨d.b, d.C, g + 1, d.k⟩)[i]? = some ⟨d.b, d.C, g + 1, d.k⟩ := by
    rw [List.getElem?_set_self (List.getElem?_eq_some_iff.1 hd).1]
  exact ⟨_, rfl, F, _, .ol _ _ _ _ ⟨d.b, d.C, g + 1, d.k⟩ hd' (Nat.le_refl _) ⟨_, _, rfl⟩ (fun _ => ⟨by show n - 1 ≤ d.C; omega, rfl⟩), q1, Fz.le_refl F, q2⟩
end Go.Proofs.YtgpldekhcojimaaDoor.Sim

namespace Go.Proofs.YtgpldekhcojimaaDoor.Sim.Pr7
open Go.RowKit
set_option maxRecDepth 100000
set_option linter.unusedSimpArgs false
set_option linter.unusedVariables false
set_option maxHeartbeats 4000000 in
theorem grow0 (G : Nat → AV) (H : Hp) : HC Tryd.prog G 90 [.nl 2, I 0] H (.nl 2) H := by
  refine hc_of cop90 ?_
  show W _ _ _ _ ⟨_, _⟩; simp only [A90, List.cons_append, List.nil_append, List.length_cons, List.length_nil, Nat.reduceAdd, Nat.reduceSub, List.replicate]
  repeat (first | with_reducible refine w_seq ?_ | with_reducible refine w_reg ?_ | with_reducible refine w_skip ?_ | with_reducible refine ws_nil ?_ | with_reducible refine q_then ?_ | with_reducible refine w_ret ?_ | ((first | with_reducible refine ks fun K hK => ?_ | with_reducible refine kd fun K hK => ?_ | with_reducible refine kc fun K hK2 hK hK3 => ?_); simp (disch := omega) only [bg0, bg1, bg2, bg3, bg4, stepO, rsAs, eff, AX.ev, St.put, binA, conc, ap1, ofVal, Int.reduceTMod, Int.reduceTDiv, reduceCtorEq, fillA, AV.cells, AV.fine, AV.one, Nat.reduceAdd, Nat.reduceSub, Nat.reduceMul, Nat.reduceLT, Nat.reduceLeDiff, Int.reduceLT, Int.reduceLE, Int.reduceAdd, Int.reduceSub, Int.reduceNeg, Int.reduceMul, Int.reduceEq, Int.reduceToNat, nilA, moveA, live, loadA, rdA, storeA, wrA, intA, elemA, lenA, appA, srcA, isPtr, isNilPtr, partA, resOf, sliceA, cut, id, ap2, reduceIte, concs, chkB, geB, AOp.cls, AOp.xs, ltB, ltC, Nat.reduceBEq, Option.toList, List.cons_append, decide_eq_true, decide_eq_false, if_pos, if_neg, List.length_map, List.cons_append, bVb, bVn, eq_self, Bool.and_self, BEq.rfl, not_true_eq_false, capN, Int.sub_zero, Int.sub_self]; (first | ((with_reducible refine hK _ ?_); clear hK K) | ((with_reducible refine hK ?_); clear hK hK3 K hK2) | ((with_reducible refine hK3 ?_); clear hK hK3 K hK2))) | ((first | with_reducible refine ret_h fun K hK => ?_ | with_reducible refine ret_hh rfl fun K hK => ?_ | with_reducible refine ret_pp fun K hK => ?_); simp (disch := omega) only [bg0, bg1, bg2, bg3, bg4, stepO, rsAs, eff, AX.ev, St.put, binA, conc, ap1, ofVal, Int.reduceTMod, Int.reduceTDiv, reduceCtorEq, fillA, AV.cells, AV.fine, AV.one, Nat.reduceAdd, Nat.reduceSub, Nat.reduceMul, Nat.reduceLT, Nat.reduceLeDiff, Int.reduceLT, Int.reduceLE, Int.reduceAdd, Int.reduceSub, Int.reduceNeg, Int.reduceMul, Int.reduceEq, Int.reduceToNat, nilA, moveA, live, loadA, rdA, storeA, wrA, intA, elemA, lenA, appA, srcA, isPtr, isNilPtr, partA, resOf, sliceA, cut, id, ap2, reduceIte, concs, chkB, geB, AOp.cls, AOp.xs, ltB, ltC, Nat.reduceBEq, Option.toList, List.cons_append, decide_eq_true, decide_eq_false, if_pos, if_neg, List.length_map, List.cons_append, bVb, bVn, eq_self, Bool.and_self, BEq.rfl, not_true_eq_false, capN, Int.sub_zero, Int.sub_self]; (first | ((with_reducible refine hK _ ?_ ?_ ?_ ?_); rotate_left 2; rfl; rfl) | ((with_reducible refine hK _ ?_); rfl))))
set_option maxHeartbeats 4000000 in
theorem cc2 (G : Nat → AV) (A B : List AV) (a b : Nat) (hA : A.length = a) (hB : B.length = b) (ha : a ≤ 1000000) (hb : b ≤ 1000000) (hab : 0 < a + b) :
    HC Tryd.prog G 68 [.ol 0 0 2] [⟨24, 1, [.sl 2 A, .sl 2 B], 0, 0⟩] (.ol 1 2 (a + b)) [⟨24, 1, [.sl 2 A, .sl 2 B], 0, 0⟩, ⟨65, 2, A ++ B, 2, 0⟩] := by
  have t1 : A.take a = A := List.take_of_length_le (by omega)
  have h0 : ¬ ((a : Int) + (b : Int)) < 0 := by omega
  have h3 : ¬ (a : Int) < 0 := by omega
  have hg := grow42 G (a + b) (by omega) (by omega) [⟨24, 1, [.sl 2 A, .sl 2 B], 0, 0⟩]
  have e1 : ((a + b : Nat) : Int) = (a : Int) + (b : Int) := by omega
  rw [e1] at hg
  refine hc_of cop68 ?_
  show W _ _ _ _ ⟨_, _⟩; simp only [A68, List.cons_append, List.nil_append, List.length_cons, List.length_nil, Nat.reduceAdd, Nat.reduceSub, List.replicate]
  repeat (first | with_reducible refine w_seq ?_ | with_reducible refine w_reg ?_ | with_reducible refine w_block ?_ | with_reducible refine w_skip ?_ | with_reducible refine w_exit ?_ | with_reducible refine ws_nil ?_ | with_reducible refine q_then ?_ | with_reducible refine q_then_x ?_ | with_reducible refine q_block_n ?_ | with_reducible refine q_block_x ?_ | with_reducible refine w_ret ?_ | (with_reducible refine w_loopF 60 ?_) | (with_reducible refine w_loopS ?_) | ((first | with_reducible refine ks fun K hK => ?_ | with_reducible refine kd fun K hK => ?_ | with_reducible refine kc fun K hK2 hK hK3 => ?_); simp (disch := omega) only [bg0, bg1, bg2, bg3, bg4, stepO, rsAs, eff, AX.ev, St.put, binA, conc, ap1, ofVal, Int.reduceTMod, Int.reduceTDiv, reduceCtorEq, fillA, AV.cells, AV.fine, AV.one, Nat.reduceAdd, Nat.reduceSub, Nat.reduceMul, Nat.reduceLT, Nat.reduceLeDiff, Int.reduceLT, Int.reduceLE, Int.reduceAdd, Int.reduceSub, Int.reduceNeg, Int.reduceMul, Int.reduceEq, Int.reduceToNat, nilA, moveA, live, loadA, rdA, storeA, wrA, intA, elemA, lenA, appA, srcA, isPtr, isNilPtr, partA, resOf, sliceA, cut, id, ap2, reduceIte, concs, chkB, geB, AOp.cls, AOp.xs, ltB, ltC, Nat.reduceBEq, Option.toList, List.cons_append, decide_eq_true, decide_eq_false, if_pos, if_neg, List.length_map, List.cons_append, bVb, bVn, eq_self, Bool.and_self, BEq.rfl, not_true_eq_false, capN, hA, hB, t1, h0, h3, Int.zero_add]; (first | ((with_reducible refine hK _ ?_); clear hK K) | ((with_reducible refine hK ?_); clear hK hK3 K hK2) | ((with_reducible refine hK3 ?_); clear hK hK3 K hK2))) | ((with_reducible refine khs 90 ?_ ?_ ?_ ?_); rotate_left 2; exact hg) | ((first | with_reducible refine ret_h fun K hK => ?_ | with_reducible refine ret_hh rfl fun K hK => ?_ | with_reducible refine ret_pp fun K hK => ?_); simp (disch := omega) only [bg0, bg1, bg2, bg3, bg4, stepO, rsAs, eff, AX.ev, St.put, binA, conc, ap1, ofVal, Int.reduceTMod, Int.reduceTDiv, reduceCtorEq, fillA, AV.cells, AV.fine, AV.one, Nat.reduceAdd, Nat.reduceSub, Nat.reduceMul, Nat.reduceLT, Nat.reduceLeDiff, Int.reduceLT, Int.reduceLE, Int.reduceAdd, Int.reduceSub, Int.reduceNeg, Int.reduceMul, Int.reduceEq, Int.reduceToNat, nilA, moveA, live, loadA, rdA, storeA, wrA, intA, elemA, lenA, appA, srcA, isPtr, isNilPtr, partA, resOf, sliceA, cut, id, ap2, reduceIte, concs, chkB, geB, AOp.cls, AOp.xs, ltB, ltC, Nat.reduceBEq, Option.toList, List.cons_append, decide_eq_true, decide_eq_false, if_pos, if_neg, List.length_map, List.cons_append, bVb, bVn, eq_self, Bool.and_self, BEq.rfl, not_true_eq_false, capN, hA, hB, t1, h0, h3, Int.zero_add]; (first | ((with_reducible refine hK _ ?_ ?_ ?_ ?_); rotate_left 2; rfl; rfl) | ((with_reducible refine hK _ ?_); rfl))))
set_option maxHeartbeats 4000000 in
theorem cc0 (G : Nat → AV) : HC Tryd.prog G 68 [.ol 0 0 2] [⟨24, 1, [.sl 2 [], .sl 2 []], 0, 0⟩] (.nl 2) [⟨24, 1, [.sl 2 [], .sl 2 []], 0, 0⟩] := by
  refine hc_of cop68 ?_
  show W _ _ _ _ ⟨_, _⟩; simp only [A68, List.cons_append, List.nil_append, List.length_cons, List.length_nil, Nat.reduceAdd, Nat.reduceSub, List.replicate]
  repeat (first | with_reducible refine w_seq ?_ | with_reducible refine w_reg ?_ | with_reducible refine w_block ?_ | with_reducible refine w_skip ?_ | with_reducible refine w_exit ?_ | with_reducible refine ws_nil ?_ | with_reducible refine q_then ?_ | with_reducible refine q_then_x ?_ | with_reducible refine q_block_n ?_ | with_reducible refine q_block_x ?_ | with_reducible refine w_ret ?_ | (with_reducible refine w_loopF 60 ?_) | (with_reducible refine w_loopS ?_) | ((first | with_reducible refine ks fun K hK => ?_ | with_reducible refine kd fun K hK => ?_ | with_reducible refine kc fun K hK2 hK hK3 => ?_); simp (disch := omega) only [bg0, bg1, bg2, bg3, bg4, stepO, rsAs, eff, AX.ev, St.put, binA, conc, ap1, ofVal, Int.reduceTMod, Int.reduceTDiv, reduceCtorEq, fillA, AV.cells, AV.fine, AV.one, Nat.reduceAdd, Nat.reduceSub, Nat.reduceMul, Nat.reduceLT, Nat.reduceLeDiff, Int.reduceLT, Int.reduceLE, Int.reduceAdd, Int.reduceSub, Int.reduceNeg, Int.reduceMul, Int.reduceEq, Int.reduceToNat, nilA, moveA, live, loadA, rdA, storeA, wrA, intA, elemA, lenA, appA, srcA, isPtr, isNilPtr, partA, resOf, sliceA, cut, id, ap2, reduceIte, concs, chkB, geB, AOp.cls, AOp.xs, ltB, ltC, Nat.reduceBEq, Option.toList, List.cons_append, decide_eq_true, decide_eq_false, if_pos, if_neg, List.length_map, List.cons_append, bVb, bVn, eq_self, Bool.and_self, BEq.rfl, not_true_eq_false, capN, Int.zero_add]; (first | ((with_reducible refine hK _ ?_); clear hK K) | ((with_reducible refine hK ?_); clear hK hK3 K hK2) | ((with_reducible refine hK3 ?_); clear hK hK3 K hK2))) | ((with_reducible refine khs 90 ?_ ?_ ?_ ?_); rotate_left 2; exact (grow0 G _)) | ((first | with_reducible refine ret_h fun K hK => ?_ | with_reducible refine ret_hh rfl fun K hK => ?_ | with_reducible refine ret_pp fun K hK => ?_); simp (disch := omega) only [bg0, bg1, bg2, bg3, bg4, stepO, rsAs, eff, AX.ev, St.put, binA, conc, ap1, ofVal, Int.reduceTMod, Int.reduceTDiv, reduceCtorEq, fillA, AV.cells, AV.fine, AV.one, Nat.reduceAdd, Nat.reduceSub, Nat.reduceMul, Nat.reduceLT, Nat.reduceLeDiff, Int.reduceLT, Int.reduceLE, Int.reduceAdd, Int.reduceSub, Int.reduceNeg, Int.reduceMul, Int.reduceEq, Int.reduceToNat, nilA, moveA, live, loadA, rdA, storeA, wrA, intA, elemA, lenA, appA, srcA, isPtr, isNilPtr, partA, resOf, sliceA, cut, id, ap2, reduceIte, concs, chkB, geB, AOp.cls, AOp.xs, ltB, ltC, Nat.reduceBEq, Option.toList, List.cons_append, decide_eq_true, decide_eq_false, if_pos, if_neg, List.length_map, List.cons_append, bVb, bVn, eq_self, Bool.and_self, BEq.rfl, not_true_eq_false, capN, Int.zero_add]; (first | ((with_reducible refine hK _ ?_ ?_ ?_ ?_); rotate_left 2; rfl; rfl) | ((with_reducible refine hK _ ?_); rfl))))
end Go.Proofs.YtgpldekhcojimaaDoor.Sim.Pr7

namespace Go.Proofs.YtgpldekhcojimaaDoor.Sim.Pr7
open Go.RowKit
set_option maxRecDepth 100000
set_option linter.unusedSimpArgs false
set_option linter.unusedVariables false
set_option maxHeartbeats 4000000 in
theorem drop19 (G : Nat → AV) (hM : MkOk G) (l : List Pr) (hl : Okl l) (h40 : l.length ≤ 40) (key : ByteArray) (hk : key.size ≤ 9223372036854775807) : PC Tryd.prog G 39 [.sl 2 (l.map pA), S key] (.sl 2 ((dr (mk l) key).map pA)) := by
  have hs := sorted31 G hM l hl h40
  have hm := okl_mk hl
  have hlen := hm.len
  have hi1 := idx40 G (mk l) (mk_lt l).le hm key hk
  have hi2 := idx41 G (mk l) (mk_lt l).le hm key hk
  have hl1 := lo_len (B := mk l) (k := key)
  have hl2 := le_len (B := mk l) (k := key)
  have hml := mk_len l
  have t1 := lo_take (mk_lt l).le key
  have t2 := drop_le (mk_lt l).le key
  have hpt : (dr (mk l) key).map pA = (lo (mk l) key).map pA ++ (hi (mk l) key).map pA := by rw [← dr_eq (mk_lt l), List.map_append]
  rw [hpt]
  have hhl : (hi (mk l) key).length = (mk l).length - (le (mk l) key).length := by rw [← t2]; simp
  refine pc_of cop39 ?_
  generalize mk l = m at *
  have c2 := cc2 G ((lo m key).map pA) ((hi m key).map pA) (lo m key).length (hi m key).length (by simp) (by simp) (by omega) (by omega)
  have s1 : (m.map pA).take (lo m key).length = (lo m key).map pA := by rw [← List.map_take, t1]
  have s2 : (m.map pA).drop (le m key).length = (hi m key).map pA := by rw [← List.map_drop, t2]
  have s3 : (m.map pA).take m.length = m.map pA := List.take_of_length_le (by simp)
  have pL := all_pA (lo m key)
  have pH := all_pA (hi m key)
  have lL : ((lo m key).map pA).length = (lo m key).length := by simp
  have lH : ((hi m key).map pA).length = (hi m key).length := by simp
  generalize (lo m key).map pA = LA at *
  generalize (hi m key).map pA = HA at *
  generalize (lo m key).length = c at *
  generalize (le m key).length = d at *
  generalize (hi m key).length = e at *
  by_cases h0 : 0 < c + e
  · have c2 := c2 h0
    show W _ _ _ _ ⟨_, _⟩; simp only [A39, List.cons_append, List.nil_append, List.length_cons, List.length_nil, Nat.reduceAdd, Nat.reduceSub, List.replicate]
    repeat (first | with_reducible refine w_seq ?_ | with_reducible refine w_reg ?_ | with_reducible refine w_draw ?_ | with_reducible refine ws_nil ?_ | with_reducible refine wd_nil ?_ | with_reducible refine q_then ?_ | with_reducible refine w_ret ?_ | ((first | with_reducible refine ks fun K hK => ?_ | with_reducible refine kd fun K hK => ?_ | with_reducible refine kc fun K hK2 hK hK3 => ?_); simp (disch := omega) only [bg0, bg1, bg2, bg3, bg4, stepO, rsAs, eff, AX.ev, St.put, binA, conc, ap1, ofVal, Int.reduceTMod, Int.reduceTDiv, reduceCtorEq, fillA, AV.cells, AV.fine, AV.one, Nat.reduceAdd, Nat.reduceSub, Nat.reduceMul, Nat.reduceLT, Nat.reduceLeDiff, Int.reduceLT, Int.reduceLE, Int.reduceAdd, Int.reduceSub, Int.reduceNeg, Int.reduceMul, Int.reduceEq, Int.reduceToNat, nilA, moveA, live, loadA, rdA, storeA, wrA, intA, elemA, lenA, appA, srcA, isPtr, isNilPtr, partA, resOf, sliceA, cut, id, ap2, reduceIte, concs, chkB, geB, AOp.cls, AOp.xs, ltB, ltC, Nat.reduceBEq, Option.toList, List.cons_append, decide_eq_true, decide_eq_false, if_pos, if_neg, List.length_map, pA_at, List.cons_append, bVb, bVn, eq_self, Bool.and_self, BEq.rfl, not_true_eq_false, u_str, s1, s2, s3]; (first | ((with_reducible refine hK _ ?_); clear hK K) | ((with_reducible refine hK ?_); clear hK hK3 K hK2) | ((with_reducible refine hK3 ?_); clear hK hK3 K hK2))) | ((with_reducible refine kps 54 ?_ ?_ ?_ ?_); rotate_left 1; rfl; exact hs) | ((with_reducible refine kps 67 ?_ ?_ ?_ ?_); rotate_left 1; rfl; exact (nl33 G key)) | ((with_reducible refine kps 56 ?_ ?_ ?_ ?_); rotate_left 1; rfl; exact (gr34 G key)) | ((with_reducible refine kps 55 ?_ ?_ ?_ ?_); rotate_left 1; rfl; exact hi1) | ((with_reducible refine kps 55 ?_ ?_ ?_ ?_); rotate_left 1; rfl; exact hi2) | ((first | ((with_reducible refine kpd 54 ?_ ?_ ?_ ?_ ?_); rotate_left 1) | ((with_reducible refine kpd 67 ?_ ?_ ?_ ?_ ?_); rotate_left 1) | ((with_reducible refine kpd 56 ?_ ?_ ?_ ?_ ?_); rotate_left 1) | ((with_reducible refine kpd 55 ?_ ?_ ?_ ?_ ?_); rotate_left 1) | ((with_reducible refine kpd 55 ?_ ?_ ?_ ?_ ?_); rotate_left 1) | ((with_reducible refine khd 68 ?_ ?_ ?_ ?_ ?_); rotate_left 2)); (focus (simp (disch := omega) only [bg0, bg1, bg2, bg3, bg4, stepO, rsAs, eff, AX.ev, St.put, binA, conc, ap1, ofVal, Int.reduceTMod, Int.reduceTDiv, reduceCtorEq, fillA, AV.cells, AV.fine, AV.one, Nat.reduceAdd, Nat.reduceSub, Nat.reduceMul, Nat.reduceLT, Nat.reduceLeDiff, Int.reduceLT, Int.reduceLE, Int.reduceAdd, Int.reduceSub, Int.reduceNeg, Int.reduceMul, Int.reduceEq, Int.reduceToNat, nilA, moveA, live, loadA, rdA, storeA, wrA, intA, elemA, lenA, appA, srcA, isPtr, isNilPtr, partA, resOf, sliceA, cut, id, ap2, reduceIte, concs, chkB, geB, AOp.cls, AOp.xs, ltB, ltC, Nat.reduceBEq, Option.toList, List.cons_append, decide_eq_true, decide_eq_false, if_pos, if_neg, List.length_map, pA_at, List.cons_append, bVb, bVn, eq_self, Bool.and_self, BEq.rfl, not_true_eq_false, u_str, s1, s2, s3]; try rfl)); (first | (rfl; exact hs) | (rfl; exact (nl33 G key)) | (rfl; exact (gr34 G key)) | (rfl; exact hi1) | (rfl; exact hi2) | (exact c2))))
    exact ret_frz rfl rfl (by simp [lL, lH]) (by simp only [List.all_append, pL, pH]; rfl)
  · obtain rfl : c = 0 := by omega
    obtain rfl : e = 0 := by omega
    obtain rfl := List.length_eq_zero_iff.1 lL
    obtain rfl := List.length_eq_zero_iff.1 lH
    show W _ _ _ _ ⟨_, _⟩; simp only [A39, List.cons_append, List.nil_append, List.length_cons, List.length_nil, Nat.reduceAdd, Nat.reduceSub, List.replicate]
    repeat (first | with_reducible refine w_seq ?_ | with_reducible refine w_reg ?_ | with_reducible refine w_draw ?_ | with_reducible refine ws_nil ?_ | with_reducible refine wd_nil ?_ | with_reducible refine q_then ?_ | with_reducible refine w_ret ?_ | ((first | with_reducible refine ks fun K hK => ?_ | with_reducible refine kd fun K hK => ?_ | with_reducible refine kc fun K hK2 hK hK3 => ?_); simp (disch := omega) only [bg0, bg1, bg2, bg3, bg4, stepO, rsAs, eff, AX.ev, St.put, binA, conc, ap1, ofVal, Int.reduceTMod, Int.reduceTDiv, reduceCtorEq, fillA, AV.cells, AV.fine, AV.one, Nat.reduceAdd, Nat.reduceSub, Nat.reduceMul, Nat.reduceLT, Nat.reduceLeDiff, Int.reduceLT, Int.reduceLE, Int.reduceAdd, Int.reduceSub, Int.reduceNeg, Int.reduceMul, Int.reduceEq, Int.reduceToNat, nilA, moveA, live, loadA, rdA, storeA, wrA, intA, elemA, lenA, appA, srcA, isPtr, isNilPtr, partA, resOf, sliceA, cut, id, ap2, reduceIte, concs, chkB, geB, AOp.cls, AOp.xs, ltB, ltC, Nat.reduceBEq, Option.toList, List.cons_append, decide_eq_true, decide_eq_false, if_pos, if_neg, List.length_map, pA_at, List.cons_append, bVb, bVn, eq_self, Bool.and_self, BEq.rfl, not_true_eq_false, u_str, s1, s2, s3]; (first | ((with_reducible refine hK _ ?_); clear hK K) | ((with_reducible refine hK ?_); clear hK hK3 K hK2) | ((with_reducible refine hK3 ?_); clear hK hK3 K hK2))) | ((with_reducible refine kps 54 ?_ ?_ ?_ ?_); rotate_left 1; rfl; exact hs) | ((with_reducible refine kps 67 ?_ ?_ ?_ ?_); rotate_left 1; rfl; exact (nl33 G key)) | ((with_reducible refine kps 56 ?_ ?_ ?_ ?_); rotate_left 1; rfl; exact (gr34 G key)) | ((with_reducible refine kps 55 ?_ ?_ ?_ ?_); rotate_left 1; rfl; exact hi1) | ((with_reducible refine kps 55 ?_ ?_ ?_ ?_); rotate_left 1; rfl; exact hi2) | ((first | ((with_reducible refine kpd 54 ?_ ?_ ?_ ?_ ?_); rotate_left 1) | ((with_reducible refine kpd 67 ?_ ?_ ?_ ?_ ?_); rotate_left 1) | ((with_reducible refine kpd 56 ?_ ?_ ?_ ?_ ?_); rotate_left 1) | ((with_reducible refine kpd 55 ?_ ?_ ?_ ?_ ?_); rotate_left 1) | ((with_reducible refine kpd 55 ?_ ?_ ?_ ?_ ?_); rotate_left 1) | ((with_reducible refine khd 68 ?_ ?_ ?_ ?_ ?_); rotate_left 2)); (focus (simp (disch := omega) only [bg0, bg1, bg2, bg3, bg4, stepO, rsAs, eff, AX.ev, St.put, binA, conc, ap1, ofVal, Int.reduceTMod, Int.reduceTDiv, reduceCtorEq, fillA, AV.cells, AV.fine, AV.one, Nat.reduceAdd, Nat.reduceSub, Nat.reduceMul, Nat.reduceLT, Nat.reduceLeDiff, Int.reduceLT, Int.reduceLE, Int.reduceAdd, Int.reduceSub, Int.reduceNeg, Int.reduceMul, Int.reduceEq, Int.reduceToNat, nilA, moveA, live, loadA, rdA, storeA, wrA, intA, elemA, lenA, appA, srcA, isPtr, isNilPtr, partA, resOf, sliceA, cut, id, ap2, reduceIte, concs, chkB, geB, AOp.cls, AOp.xs, ltB, ltC, Nat.reduceBEq, Option.toList, List.cons_append, decide_eq_true, decide_eq_false, if_pos, if_neg, List.length_map, pA_at, List.cons_append, bVb, bVn, eq_self, Bool.and_self, BEq.rfl, not_true_eq_false, u_str, s1, s2, s3]; try rfl)); (first | (rfl; exact hs) | (rfl; exact (nl33 G key)) | (rfl; exact (gr34 G key)) | (rfl; exact hi1) | (rfl; exact hi2) | (exact (cc0 G)))) | ((first | with_reducible refine ret_h fun K hK => ?_ | with_reducible refine ret_hh rfl fun K hK => ?_ | with_reducible refine ret_pp fun K hK => ?_); simp (disch := omega) only [bg0, bg1, bg2, bg3, bg4, stepO, rsAs, eff, AX.ev, St.put, binA, conc, ap1, ofVal, Int.reduceTMod, Int.reduceTDiv, reduceCtorEq, fillA, AV.cells, AV.fine, AV.one, Nat.reduceAdd, Nat.reduceSub, Nat.reduceMul, Nat.reduceLT, Nat.reduceLeDiff, Int.reduceLT, Int.reduceLE, Int.reduceAdd, Int.reduceSub, Int.reduceNeg, Int.reduceMul, Int.reduceEq, Int.reduceToNat, nilA, moveA, live, loadA, rdA, storeA, wrA, intA, elemA, lenA, appA, srcA, isPtr, isNilPtr, partA, resOf, sliceA, cut, id, ap2, reduceIte, concs, chkB, geB, AOp.cls, AOp.xs, ltB, ltC, Nat.reduceBEq, Option.toList, List.cons_append, decide_eq_true, decide_eq_false, if_pos, if_neg, List.length_map, pA_at, List.cons_append, bVb, bVn, eq_self, Bool.and_self, BEq.rfl, not_true_eq_false, u_str, s1, s2, s3]; (first | ((with_reducible refine hK _ ?_ ?_ ?_ ?_); rotate_left 2; rfl; rfl) | ((with_reducible refine hK _ ?_); rfl))))
end Go.Proofs.YtgpldekhcojimaaDoor.Sim.Pr7

namespace Go.Proofs.YtgpldekhcojimaaDoor.Sim
set_option maxRecDepth 100000
/-- boscage/model.clone -/
def B36 : AF := (AF.mk 32 [(2, (some (true, 2)))] (AC.seq (AC.region [(AI.mk (some 1) (AOp.new 39 2 (AX.t 0)) none), (AI.mk (some 2) (AOp.new 39 2 (AX.c (AV.agg [(AV.nl 2), (AV.nl 2)]))) none)]) (AC.seq (AC.drawx [[(AI.mk (some 5) (AOp.fad 0 (AX.t 1)) none), (AI.mk (some 6) (AOp.load false 1 (AX.t 5)) none), (AI.mk (some 7) (AOp.call 65 [(AX.t 6)]) none), (AI.mk (some 8) (AOp.fad 1 (AX.t 1)) none), (AI.mk (some 9) (AOp.load false 1 (AX.t 8)) none), (AI.mk (some 10) (AOp.callh 66 [(AX.t 9)]) none), (AI.mk (some 11) (AOp.bld [(AV.nl 2), (AV.nl 2)] [(0, (1, (AX.t 7))), (1, (1, (AX.t 10)))]) none), (AI.mk (some 3) (AOp.new 39 2 (AX.c (AV.agg [(AV.nl 2), (AV.nl 2)]))) none), (AI.mk none (AOp.store 2 (AX.t 3) (AX.t 11)) none)], [(AI.mk (some 5) (AOp.fad 0 (AX.t 1)) none), (AI.mk (some 6) (AOp.load false 1 (AX.t 5)) none), (AI.mk (some 7) (AOp.call 65 [(AX.t 6)]) none), (AI.mk (some 8) (AOp.fad 1 (AX.t 1)) none), (AI.mk (some 9) (AOp.load false 1 (AX.t 8)) none), (AI.mk (some 3) (AOp.new 39 2 (AX.c (AV.agg [(AV.nl 2), (AV.nl 2)]))) none), (AI.mk (some 10) (AOp.callh 66 [(AX.t 9)]) none), (AI.mk (some 11) (AOp.bld [(AV.nl 2), (AV.nl 2)] [(0, (1, (AX.t 7))), (1, (1, (AX.t 10)))]) none), (AI.mk none (AOp.store 2 (AX.t 3) (AX.t 11)) none)]]) (AC.seq (AC.seq (AC.region [(AI.mk (some 12) (AOp.fad 1 (AX.t 3)) none), (AI.mk (some 13) (AOp.load false 1 (AX.t 12)) none), (AI.mk (some 14) (AOp.len (AX.t 13)) none), (AI.mk (some 15) (AOp.mv (AX.c (AV.v (Value.int IntKind.i64 0)))) none)]) (AC.block 0 (AC.loop (AC.seq (AC.region [(AI.mk (some 16) (AOp.bin BinOp.lss 3 false (Operand.tmp 15) (Operand.tmp 14) (AX.t 15) (AX.t 14)) none)]) (AC.seq (AC.cond (AX.t 16) AC.skip (AC.exit 0)) (AC.seq (AC.block 1 (AC.seq (AC.region [(AI.mk (some 17) (AOp.mv (AX.t 15)) none), (AI.mk (some 4) (AOp.mv (AX.t 17)) none)]) (AC.draw [(AI.mk (some 18) (AOp.fad 1 (AX.t 3)) none), (AI.mk (some 19) (AOp.load false 1 (AX.t 18)) none), (AI.mk (some 20) (AOp.mv (AX.t 4)) none), (AI.mk (some 21) (AOp.fad 1 (AX.t 3)) none), (AI.mk (some 22) (AOp.load false 1 (AX.t 21)) none), (AI.mk (some 23) (AOp.mv (AX.t 4)) none), (AI.mk (some 24) (AOp.iad 2 (AX.t 22) (AX.t 23)) none), (AI.mk (some 25) (AOp.fad 1 (AX.t 24)) none), (AI.mk (some 26) (AOp.load false 1 (AX.t 25)) none), (AI.mk (some 27) (AOp.call 65 [(AX.t 26)]) none), (AI.mk (some 28) (AOp.iad 2 (AX.t 19) (AX.t 20)) none), (AI.mk (some 29) (AOp.fad 1 (AX.t 28)) none), (AI.mk none (AOp.store 1 (AX.t 29) (AX.t 27)) none)]))) (AC.region [(AI.mk (some 30) (AOp.bin BinOp.add 3 false (Operand.tmp 15) (Operand.const (Value.int IntKind.i64 1)) (AX.t 15) (AX.c (AV.v (Value.int IntKind.i64 1)))) none), (AI.mk (some 15) (AOp.mv (AX.t 30)) none)]))))))) (AC.seq (AC.region [(AI.mk (some 31) (AOp.load true 2 (AX.t 3)) none), (AI.mk none (AOp.store 2 (AX.t 2) (AX.t 31)) none)]) AC.ret)))))
theorem bop36 : copF Tryd.prog [41,60,66,68,79,87,90,97,101,102,103,104] 36 = some B36 := by kernel_rfl
end Go.Proofs.YtgpldekhcojimaaDoor.Sim

namespace Go.Proofs.YtgpldekhcojimaaDoor.Sim
open Go.RowKit
set_option maxRecDepth 100000
set_option linter.unusedSimpArgs false
set_option linter.unusedVariables false
open Pr7
theorem set_hA {H : List Hd} {k : Nat} (h : k < H.length) : (H.map hA).set k (.agg [I H[k].1, .sl 2 (H[k].2.map pA)]) = H.map hA := by
  refine List.ext_getElem (by simp) fun i h1 h2 => ?_
  rw [List.getElem_set]
  split
  · rename_i e; subst e; simp [hA]
  · rfl
section
variable (G : Nat → AV)
set_option maxHeartbeats 4000000 in
theorem cl66 (H : List Hd) (hH : H.length ≤ 1000000) (h0 : H ≠ []) (R : Hp) : HC Tryd.prog G 66 [.sl 2 (H.map hA)] R (.ol R.length 1 H.length) (R ++ [⟨71, 2, H.map hA, 1, 0⟩]) := by
  have he : (H.map hA).isEmpty = false := by cases H with | nil => exact absurd rfl h0 | cons => rfl
  refine hc_of cop66 ?_
  show W _ _ _ _ ⟨_, _⟩; simp only [A66, List.cons_append, List.nil_append, List.length_cons, List.length_nil, Nat.reduceAdd, Nat.reduceSub, List.replicate]
  repeat (first | with_reducible refine w_seq ?_ | with_reducible refine w_reg ?_ | with_reducible refine w_skip ?_ | with_reducible refine ws_nil ?_ | with_reducible refine q_then ?_ | with_reducible refine w_ret ?_ | ((first | with_reducible refine ks fun K hK => ?_ | with_reducible refine kd fun K hK => ?_ | with_reducible refine kc fun K hK2 hK hK3 => ?_); simp (disch := omega) only [bg0, bg1, bg2, bg3, bg4, stepO, rsAs, eff, AX.ev, St.put, binA, conc, ap1, ofVal, Int.reduceTMod, Int.reduceTDiv, reduceCtorEq, fillA, AV.cells, AV.fine, AV.one, Nat.reduceAdd, Nat.reduceSub, Nat.reduceMul, Nat.reduceLT, Nat.reduceLeDiff, Int.reduceLT, Int.reduceLE, Int.reduceAdd, Int.reduceSub, Int.reduceNeg, Int.reduceMul, Int.reduceEq, Int.reduceToNat, nilA, moveA, live, loadA, rdA, storeA, wrA, intA, elemA, lenA, appA, srcA, isPtr, isNilPtr, partA, resOf, sliceA, cut, id, ap2, reduceIte, concs, chkB, geB, AOp.cls, AOp.xs, ltB, ltC, Nat.reduceBEq, Option.toList, List.cons_append, decide_eq_true, decide_eq_false, if_pos, if_neg, List.length_map, List.cons_append, bVb, bVn, eq_self, Bool.and_self, BEq.rfl, not_true_eq_false, islH, nilCmp, isRow, isNl, he, Bool.not_false]; (first | ((with_reducible refine hK _ ?_); clear hK K) | ((with_reducible refine hK ?_); clear hK hK3 K hK2) | ((with_reducible refine hK3 ?_); clear hK hK3 K hK2))) | ((first | with_reducible refine ret_h fun K hK => ?_ | with_reducible refine ret_hh rfl fun K hK => ?_ | with_reducible refine ret_pp fun K hK => ?_); simp (disch := omega) only [bg0, bg1, bg2, bg3, bg4, stepO, rsAs, eff, AX.ev, St.put, binA, conc, ap1, ofVal, Int.reduceTMod, Int.reduceTDiv, reduceCtorEq, fillA, AV.cells, AV.fine, AV.one, Nat.reduceAdd, Nat.reduceSub, Nat.reduceMul, Nat.reduceLT, Nat.reduceLeDiff, Int.reduceLT, Int.reduceLE, Int.reduceAdd, Int.reduceSub, Int.reduceNeg, Int.reduceMul, Int.reduceEq, Int.reduceToNat, nilA, moveA, live, loadA, rdA, storeA, wrA, intA, elemA, lenA, appA, srcA, isPtr, isNilPtr, partA, resOf, sliceA, cut, id, ap2, reduceIte, concs, chkB, geB, AOp.cls, AOp.xs, ltB, ltC, Nat.reduceBEq, Option.toList, List.cons_append, decide_eq_true, decide_eq_false, if_pos, if_neg, List.length_map, List.cons_append, bVb, bVn, eq_self, Bool.and_self, BEq.rfl, not_true_eq_false, islH, nilCmp, isRow, isNl, he, Bool.not_false]; (first | ((with_reducible refine hK _ ?_ ?_ ?_ ?_); rotate_left 2; rfl; rfl) | ((with_reducible refine hK _ ?_); rfl))))
theorem eNilP {H : Hp} {k : KK} {xo yo : Operand} {es : List AV} (he : es.isEmpty = false) (hk : k (.v (.bool false)) H) : ObE ((binA Tryd.prog H .eql 24 false xo yo (.sl 2 es) (.nl 2)).map (·, H)) k :=
  ⟨_, _, by simp only [binA, isl, nilCmp, isRow, isNl, he, Bool.false_eq_true, if_false, if_true, Bool.not_false]; rfl, hk⟩
theorem cl65p (l : List Pr) (hm : l.length ≤ 1000) : PC Tryd.prog G 65 [.sl 2 (l.map pA)] (.sl 2 (l.map pA)) := by
  cases l with
  | nil => exact clone27e G
  | cons c0 ct =>
    have hl : ct.length + 1 ≤ 1000 := hm
    have u1 : ((c0 :: ct).map pA).take (0 + ((c0 :: ct).map pA).length) = (c0 :: ct).map pA := List.take_of_length_le (by simp)
    have p1 := all_pA (c0 :: ct)
    refine pc_ofV cop65 ?_
    have he : ((c0 :: ct).map pA).isEmpty = false := rfl
    repeat' ((conv => whnf); first | (with_reducible refine SeqP.go ?_) | ((with_reducible refine (?_ : ObE _ _)); (refine eNilP he ?_)) | ((with_reducible refine ObD.mk ?_ ?_); (focus (first | rfl | (simp; done)))) | ((with_reducible refine ObN.mk ?_ ?_); (focus (first | rfl | assumption | omega | (simp only [List.length_map, List.length_append, List.length_cons, List.length_nil]; omega) | (simp; done) | (simp; omega)))) | (with_reducible refine ObT.ff ?_) | ((with_reducible refine (?_ : ObL _ _)); (refine ObL.mk _ (by first | exact (List.length_map _) | assumption | exact (List.length_map _).trans (by assumption) | exact List.length_map _ | rfl) ?_)) | ((with_reducible refine (?_ : ObU _ _)); (refine ObU.mk _ (by first | exact u1 | assumption | ((conv => lhs; simp only [List.set_cons_zero, List.set_cons_succ, List.take_succ_cons, List.take_zero, List.drop_succ_cons, List.drop_zero, List.nil_append, List.cons_append, List.append_nil, List.take_nil, List.drop_nil]); try rfl) | rfl) ?_)) | ((with_reducible refine ObEq.mk ?_); (focus (first | rfl | assumption))))
set_option maxHeartbeats 4000000 in
theorem cl36a (l : List Pr) (H : List Hd) (ok : Cu l H) (hH0 : H ≠ []) : PC Tryd.prog G 36 [sA l H] (sA l H) := by
  have hl1 : l.length ≤ 40 := ok.l0
  have cl := cl65p G l (by omega)
  have hH1 : H.length ≤ 1000000 := by have := ok.h0; omega
  have nh := nr_h H
  refine pc_ofV bop36 ?_
  repeat' ((conv => whnf); first | ((with_reducible refine ObD.mk ?_ ?_); (focus (first | rfl | (simp; done)))))
  conv => whnf
  refine SeqP.go ?_
  refine V_cut (α := Unit) (fun _ => True) (fun _ => [(3, some (.oa 2 0 0 0)), (1, none), (0, none), (0, none), (0, none), (0, none), (0, none), (0, none)]) (fun _ => [⟨39, 2, [sA l H], 0, 0⟩, ⟨39, 2, [.agg [.nl 2, .nl 2]], 0, 0⟩, ⟨39, 2, [.agg [.sl 2 (l.map pA), (.ol 3 1 H.length)]], 0, 0⟩, ⟨71, 2, H.map hA, 1, 0⟩]) ?_ ?_
  · intro Q hQ
    have hQ0 := fun s' H' (h : s'.getD 3 undefA = .oa 2 0 0 0) hf => hQ s' H' () trivial hf
    have hQ1 := fun s' H' (h : s'.getD 3 undefA = .oa 3 0 0 0) hf => hQ s' H' () trivial hf
    repeat' ((conv => whnf); first | (with_reducible refine ObAnd.mk ?_ ?_) | (with_reducible refine ObDx.each ?_) | ((with_reducible refine ObD.mk ?_ ?_); (focus (first | rfl | (simp; done)))) | ((with_reducible refine ObN.mk ?_ ?_); (focus (first | rfl | assumption | omega | (simp only [List.length_map, List.length_append, List.length_cons, List.length_nil]; omega) | (simp; done) | (simp; omega)))) | ((with_reducible refine (?_ : ObU _ _)); (refine ObU.mk _ (by first | assumption | ((conv => lhs; simp only [List.set_cons_zero, List.set_cons_succ, List.take_succ_cons, List.take_zero, List.drop_succ_cons, List.drop_zero, List.nil_append, List.cons_append, List.append_nil, List.take_nil, List.drop_nil]); try rfl) | rfl) ?_)) | ((with_reducible refine (?_ : ObR _ _ _)); (first | (refine ObR.mk _ (by assumption) ?_) | (refine ObR.mk _ (by with_reducible rfl) ?_) | (refine ObR.map (by (first | omega | assumption | (simp only [List.length_map, List.length_append, List.length_cons, List.length_nil, List.length_take, List.length_drop, List.length_set, List.length_replicate]; omega))) (fun x hx => ?_)) | (refine ObR.mk _ rfl ?_))) | ((with_reducible refine ObC.f 65 ?_); (first | (with_reducible refine ObC.mk _ (cl) ?_) | (refine ObC.mk _ (cl) ?_))) | ((with_reducible refine ObH.f 66 ?_); (first | (with_reducible refine ObH.mk _ _ ((cl66 G H hH1 hH0 _)) ?_) | (refine ObH.mk _ _ ((cl66 G H hH1 hH0 _)) ?_))))
    all_goals conv => whnf
    all_goals first | refine hQ0 _ _ rfl (Fg.vw [(0, 0, 0), (0, 1, 0), (0, 2, 0), (1, 3, 1)] ?_ ?_ (by simp) ?_) | refine hQ1 _ _ rfl (Fg.vw [(0, 0, 0), (0, 1, 0), (0, 3, 0), (1, 2, 1)] ?_ ?_ (by simp) ?_)
    all_goals repeat' ((conv => whnf); first | ((with_reducible refine ObRow.lit ?_ ?_); (focus (simp [rnB, rnC, rnL, AV.cells]; done))) | ((with_reducible refine ObN.mk ?_ ?_); (focus (first | rfl | assumption | omega | (simp only [List.length_map, List.length_append, List.length_cons, List.length_nil]; omega) | (simp; done) | (simp; omega)))) | ((with_reducible refine ObRn.mk ?_ ?_); (focus (first | rfl | (simp [rnB, rnC, rnL]; done)))) | ((with_reducible refine ObRow.same ?_ ?_ ?_); (focus (first | rfl | assumption)); (focus (first | rfl | assumption | (simp; done)))) | ((with_reducible refine ObEqs.mk ?_ ?_); (focus rfl)) | exact True.intro)
  · rintro ⟨⟩ -
    repeat' ((conv => whnf); first | (with_reducible refine SeqP.go ?_) | ((with_reducible refine ObN.mk ?_ ?_); (focus (first | rfl | assumption | omega | (simp only [List.length_map, List.length_append, List.length_cons, List.length_nil]; omega) | (simp; done) | (simp; omega)))) | ((with_reducible refine (?_ : ObR _ _ _)); (first | (refine ObR.mk _ (by assumption) ?_) | (refine ObR.mk _ (by with_reducible rfl) ?_) | (refine ObR.map (by (first | omega | assumption | (simp only [List.length_map, List.length_append, List.length_cons, List.length_nil, List.length_take, List.length_drop, List.length_set, List.length_replicate]; omega))) (fun x hx => ?_)) | (refine ObR.mk _ rfl ?_))))
    conv => whnf
    refine LoopP.go (α := Nat) (fun k => k ≤ H.length) (fun k => H.length - k) (fun k => [(4, none), (10, some (I k)), (0, none), (0, none), (0, none), (0, none), (0, none), (0, none), (0, none), (0, none), (0, none), (0, none), (0, none), (0, none), (0, none), (0, none), (0, none)]) (fun _ => [⟨39, 2, [sA l H], 0, 0⟩, ⟨39, 2, [.agg [.nl 2, .nl 2]], 0, 0⟩, ⟨39, 2, [.agg [.sl 2 (l.map pA), (.ol 3 1 H.length)]], 0, 0⟩, ⟨71, 2, H.map hA, 1, 0⟩]) 0 (Nat.zero_le _) (Fg.go ?_ rfl) ?_
    · repeat' ((conv => whnf); first | ((with_reducible refine ObEqs.mk ?_ ?_); (focus rfl)) | ((with_reducible refine ObEq1.i ?_ ?_); (focus (first | (with_reducible rfl) | omega))) | exact True.intro)
    rintro k hk
    by_cases hkl : k < H.length
    · have q := hA_at hkl
      have hs := set_hA hkl
      obtain ⟨x1, x2⟩ := ok.h1 _ (List.getElem_mem hkl)
      generalize H[k] = x at *
      have c := cl65p G x.2 (by omega)
      repeat' ((conv => whnf); first | (with_reducible refine SeqP.go ?_) | ((with_reducible refine ObD.mk ?_ ?_); (focus (first | rfl | (simp; done)))) | ((with_reducible refine ObN.mk ?_ ?_); (focus (first | rfl | assumption | omega | (simp only [List.length_map, List.length_append, List.length_cons, List.length_nil]; omega) | (simp; done) | (simp; omega)))) | (with_reducible refine ObT.tt ?_) | ((with_reducible refine ObB.yes ?_ ?_); (focus (first | assumption | (with_reducible rfl) | omega))) | ((with_reducible refine ObI.nl ?_ ?_); (focus omega)) | ((with_reducible refine ObX.mk _ rfl ?_ ?_); (focus (first | omega | assumption | (simp only [List.length_map, List.length_append, List.length_cons, List.length_nil, List.length_take, List.length_drop, List.length_set, List.length_replicate]; omega)))) | ((with_reducible refine (?_ : ObU _ _)); (refine ObU.mk _ (by first | exact hs | assumption | ((conv => lhs; simp only [List.set_cons_zero, List.set_cons_succ, List.take_succ_cons, List.take_zero, List.drop_succ_cons, List.drop_zero, List.nil_append, List.cons_append, List.append_nil, List.take_nil, List.drop_nil]); try rfl) | rfl) ?_)) | ((with_reducible refine (?_ : ObR _ _ _)); (first | (refine ObR.mk _ (by assumption) ?_) | (refine ObR.mk _ (by exact q) ?_) | (refine ObR.mk _ (by with_reducible rfl) ?_) | (refine ObR.map (by (first | omega | assumption | (simp only [List.length_map, List.length_append, List.length_cons, List.length_nil, List.length_take, List.length_drop, List.length_set, List.length_replicate]; omega))) (fun x hx => ?_)) | (refine ObR.mk _ rfl ?_))) | ((with_reducible refine ObC.f 65 ?_); (first | (with_reducible refine ObC.mk _ (c) ?_) | (refine ObC.mk _ (c) ?_))))
      all_goals conv => whnf
      refine Again.mk (k + 1) (by omega) (by omega) (Fg.go ?_ rfl)
      repeat' ((conv => whnf); first | ((with_reducible refine ObEqs.mk ?_ ?_); (focus rfl)) | ((with_reducible refine ObEq1.i ?_ ?_); (focus (first | (with_reducible rfl) | omega))) | exact True.intro)
    · obtain rfl : k = H.length := by omega
      have ha : (H.map hA).take H.length = H.map hA := h_all
      have hp : ((H.map hA).take H.length).all AV.isP = true := by rw [ha]; exact p_h _
      have hp2 := p_h H
      repeat' ((conv => whnf); first | (with_reducible refine SeqP.go ?_) | ((with_reducible refine ObD.mk ?_ ?_); (focus (first | rfl | (simp; done)))) | ((with_reducible refine ObN.mk ?_ ?_); (focus (first | rfl | assumption | omega | (simp only [List.length_map, List.length_append, List.length_cons, List.length_nil]; omega) | (simp; done) | (simp; omega)))) | (with_reducible refine ObT.ff ?_) | ((with_reducible refine ObB.no ?_ ?_); (focus (first | assumption | omega))) | ((with_reducible refine (?_ : ObU _ _)); (refine ObU.mk _ (by first | exact ha | assumption | ((conv => lhs; simp only [List.set_cons_zero, List.set_cons_succ, List.take_succ_cons, List.take_zero, List.drop_succ_cons, List.drop_zero, List.nil_append, List.cons_append, List.append_nil, List.take_nil, List.drop_nil]); try rfl) | rfl) ?_)) | ((with_reducible refine (?_ : ObR _ _ _)); (first | (refine ObR.mk _ (by assumption) ?_) | (refine ObR.mk _ (by with_reducible rfl) ?_) | (refine ObR.map (by (first | omega | assumption | (simp only [List.length_map, List.length_append, List.length_cons, List.length_nil, List.length_take, List.length_drop, List.length_set, List.length_replicate]; omega))) (fun x hx => ?_)) | (refine ObR.mk _ rfl ?_))) | ((with_reducible refine ObEq.mk ?_); (focus (first | rfl | assumption))))
set_option maxHeartbeats 4000000 in
theorem cl36b (l : List Pr) (ok : Cu l []) : PC Tryd.prog G 36 [sA l []] (sA l []) := by
  have hl1 : l.length ≤ 40 := ok.l0
  have cl := cl65p G l (by omega)
  have z1 : ([] : List AV).length = 0 := rfl
  have z2 : ([] : List Hd).length = 0 := rfl
  have z3 : ¬ ((0 : Int) < (([] : List AV).length : Nat)) := by simp
  have z4 : ¬ ((0 : Int) < (([] : List Hd).length : Nat)) := by simp
  refine pc_ofV bop36 ?_
  repeat' ((conv => whnf); first | ((with_reducible refine ObD.mk ?_ ?_); (focus (first | rfl | (simp; done)))))
  conv => whnf
  refine SeqP.go ?_
  refine V_cut (α := Unit) (fun _ => True) (fun _ => [(3, some (.oa 2 0 0 0)), (1, none), (0, none), (0, none), (0, none), (0, none), (0, none), (0, none)]) (fun _ => [⟨39, 2, [sA l []], 0, 0⟩, ⟨39, 2, [.agg [.nl 2, .nl 2]], 0, 0⟩, ⟨39, 2, [.agg [.sl 2 (l.map pA), (.sl 2 [])]], 0, 0⟩]) ?_ ?_
  · intro Q hQ
    have hQ0 := fun s' H' (h : s'.getD 3 undefA = .oa 2 0 0 0) hf => hQ s' H' () trivial hf
    repeat' ((conv => whnf); first | (with_reducible refine ObAnd.mk ?_ ?_) | (with_reducible refine ObDx.each ?_) | ((with_reducible refine ObD.mk ?_ ?_); (focus (first | rfl | (simp; done)))) | ((with_reducible refine ObN.mk ?_ ?_); (focus (first | rfl | assumption | omega | (simp only [List.length_map, List.length_append, List.length_cons, List.length_nil]; omega) | (simp; done) | (simp; omega)))) | ((with_reducible refine (?_ : ObU _ _)); (refine ObU.mk _ (by first | assumption | ((conv => lhs; simp only [List.set_cons_zero, List.set_cons_succ, List.take_succ_cons, List.take_zero, List.drop_succ_cons, List.drop_zero, List.nil_append, List.cons_append, List.append_nil, List.take_nil, List.drop_nil]); try rfl) | rfl) ?_)) | ((with_reducible refine (?_ : ObR _ _ _)); (first | (refine ObR.mk _ (by assumption) ?_) | (refine ObR.mk _ (by with_reducible rfl) ?_) | (refine ObR.map (by (first | omega | assumption | (simp only [List.length_map, List.length_append, List.length_cons, List.length_nil, List.length_take, List.length_drop, List.length_set, List.length_replicate]; omega))) (fun x hx => ?_)) | (refine ObR.mk _ rfl ?_))) | ((with_reducible refine ObC.f 65 ?_); (first | (with_reducible refine ObC.mk _ (cl) ?_) | (refine ObC.mk _ (cl) ?_))) | ((with_reducible refine ObH.f 66 ?_); (first | (with_reducible refine ObH.mk _ _ ((hc_pc (by rfl) (cl66e G) _)) ?_) | (refine ObH.mk _ _ ((hc_pc (by rfl) (cl66e G) _)) ?_))))
    all_goals conv => whnf
    all_goals first | refine hQ0 _ _ rfl (Fg.vw [(0, 0, 0), (0, 1, 0), (0, 2, 0)] ?_ ?_ (by simp) ?_)
    all_goals repeat' ((conv => whnf); first | ((with_reducible refine ObRow.lit ?_ ?_); (focus (simp [rnB, rnC, rnL, AV.cells]; done))) | ((with_reducible refine ObN.mk ?_ ?_); (focus (first | rfl | assumption | omega | (simp only [List.length_map, List.length_append, List.length_cons, List.length_nil]; omega) | (simp; done) | (simp; omega)))) | ((with_reducible refine ObRn.mk ?_ ?_); (focus (first | rfl | (simp [rnB, rnC, rnL]; done)))) | ((with_reducible refine ObEqs.mk ?_ ?_); (focus rfl)) | exact True.intro)
  · rintro ⟨⟩ -
    repeat' ((conv => whnf); first | (with_reducible refine SeqP.go ?_) | ((with_reducible refine ObN.mk ?_ ?_); (focus (first | rfl | assumption | omega | (simp only [List.length_map, List.length_append, List.length_cons, List.length_nil]; omega) | (simp; done) | (simp; omega)))) | ((with_reducible refine (?_ : ObL _ _)); (refine ObL.mk _ (by first | exact (List.length_map _) | assumption | exact (List.length_map _).trans (by assumption) | exact List.length_map _ | rfl) ?_)) | ((with_reducible refine (?_ : ObR _ _ _)); (first | (refine ObR.mk _ (by assumption) ?_) | (refine ObR.mk _ (by with_reducible rfl) ?_) | (refine ObR.map (by (first | omega | assumption | (simp only [List.length_map, List.length_append, List.length_cons, List.length_nil, List.length_take, List.length_drop, List.length_set, List.length_replicate]; omega))) (fun x hx => ?_)) | (refine ObR.mk _ rfl ?_))))
    conv => whnf
    refine LoopP.go (α := Unit) (fun _ => True) (fun _ => 0) (fun _ => [(4, none), (10, some (I 0)), (0, none), (0, none), (0, none), (0, none), (0, none), (0, none), (0, none), (0, none), (0, none), (0, none), (0, none), (0, none), (0, none), (0, none), (0, none)]) (fun _ => [⟨39, 2, [sA l []], 0, 0⟩, ⟨39, 2, [.agg [.nl 2, .nl 2]], 0, 0⟩, ⟨39, 2, [.agg [.sl 2 (l.map pA), (.sl 2 [])]], 0, 0⟩]) () trivial (Fg.go ?_ rfl) ?_
    · repeat' ((conv => whnf); first | ((with_reducible refine ObEqs.mk ?_ ?_); (focus rfl)) | ((with_reducible refine ObEq1.i ?_ ?_); (focus (first | (with_reducible rfl) | omega))) | exact True.intro)
    rintro ⟨⟩ -
    repeat' ((conv => whnf); first | (with_reducible refine SeqP.go ?_) | ((with_reducible refine ObD.mk ?_ ?_); (focus (first | rfl | (simp; done)))) | ((with_reducible refine ObN.mk ?_ ?_); (focus (first | rfl | assumption | omega | (simp only [List.length_map, List.length_append, List.length_cons, List.length_nil]; omega) | (simp; done) | (simp; omega)))) | (with_reducible refine ObT.ff ?_) | ((with_reducible refine ObB.no ?_ ?_); (focus (first | assumption | omega))) | ((with_reducible refine (?_ : ObU _ _)); (refine ObU.mk _ (by first | assumption | ((conv => lhs; simp only [List.set_cons_zero, List.set_cons_succ, List.take_succ_cons, List.take_zero, List.drop_succ_cons, List.drop_zero, List.nil_append, List.cons_append, List.append_nil, List.take_nil, List.drop_nil]); try rfl) | rfl) ?_)) | ((with_reducible refine (?_ : ObR _ _ _)); (first | (refine ObR.mk _ (by assumption) ?_) | (refine ObR.mk _ (by with_reducible rfl) ?_) | (refine ObR.map (by (first | omega | assumption | (simp only [List.length_map, List.length_append, List.length_cons, List.length_nil, List.length_take, List.length_drop, List.length_set, List.length_replicate]; omega))) (fun x hx => ?_)) | (refine ObR.mk _ rfl ?_))) | ((with_reducible refine ObEq.mk ?_); (focus (first | rfl | assumption))))
set_option maxHeartbeats 4000000 in
theorem cl36r (l : List Pr) (H : List Hd) (ok : Cu l H) (hH0 : H ≠ []) : HC Tryd.prog G 36 [sA l H] [] (.agg [.sl 2 (l.map pA), .ol 0 1 H.length]) [⟨71, 2, H.map hA, 1, 0⟩] := by
  have hl1 : l.length ≤ 40 := ok.l0
  have cl := cl65p G l (by omega)
  have hH1 : H.length ≤ 1000000 := by have := ok.h0; omega
  have nh := nr_h H
  refine hc_ofV bop36 rfl ?_
  repeat' ((conv => whnf); first | ((with_reducible refine ObD.mk ?_ ?_); (focus (first | rfl | (simp; done)))))
  conv => whnf
  refine SeqP.go ?_
  refine V_cut (α := Unit) (fun _ => True) (fun _ => [(3, some (.oa 2 0 0 0)), (1, none), (0, none), (0, none), (0, none), (0, none), (0, none), (0, none)]) (fun _ => [⟨39, 2, [sA l H], 0, 0⟩, ⟨39, 2, [.agg [.nl 2, .nl 2]], 0, 0⟩, ⟨39, 2, [.agg [.sl 2 (l.map pA), (.ol 3 1 H.length)]], 0, 0⟩, ⟨71, 2, H.map hA, 1, 0⟩]) ?_ ?_
  · intro Q hQ
    have hQ0 := fun s' H' (h : s'.getD 3 undefA = .oa 2 0 0 0) hf => hQ s' H' () trivial hf
    have hQ1 := fun s' H' (h : s'.getD 3 undefA = .oa 3 0 0 0) hf => hQ s' H' () trivial hf
    repeat' ((conv => whnf); first | (with_reducible refine ObAnd.mk ?_ ?_) | (with_reducible refine ObDx.each ?_) | ((with_reducible refine ObD.mk ?_ ?_); (focus (first | rfl | (simp; done)))) | ((with_reducible refine ObN.mk ?_ ?_); (focus (first | rfl | assumption | omega | (simp only [List.length_map, List.length_append, List.length_cons, List.length_nil]; omega) | (simp; done) | (simp; omega)))) | ((with_reducible refine (?_ : ObU _ _)); (refine ObU.mk _ (by first | assumption | ((conv => lhs; simp only [List.set_cons_zero, List.set_cons_succ, List.take_succ_cons, List.take_zero, List.drop_succ_cons, List.drop_zero, List.nil_append, List.cons_append, List.append_nil, List.take_nil, List.drop_nil]); try rfl) | rfl) ?_)) | ((with_reducible refine (?_ : ObR _ _ _)); (first | (refine ObR.mk _ (by assumption) ?_) | (refine ObR.mk _ (by with_reducible rfl) ?_) | (refine ObR.map (by (first | omega | assumption | (simp only [List.length_map, List.length_append, List.length_cons, List.length_nil, List.length_take, List.length_drop, List.length_set, List.length_replicate]; omega))) (fun x hx => ?_)) | (refine ObR.mk _ rfl ?_))) | ((with_reducible refine ObC.f 65 ?_); (first | (with_reducible refine ObC.mk _ (cl) ?_) | (refine ObC.mk _ (cl) ?_))) | ((with_reducible refine ObH.f 66 ?_); (first | (with_reducible refine ObH.mk _ _ ((cl66 G H hH1 hH0 _)) ?_) | (refine ObH.mk _ _ ((cl66 G H hH1 hH0 _)) ?_))))
    all_goals conv => whnf
    all_goals first | refine hQ0 _ _ rfl (Fg.vw [(0, 0, 0), (0, 1, 0), (0, 2, 0), (1, 3, 1)] ?_ ?_ (by simp) ?_) | refine hQ1 _ _ rfl (Fg.vw [(0, 0, 0), (0, 1, 0), (0, 3, 0), (1, 2, 1)] ?_ ?_ (by simp) ?_)
    all_goals repeat' ((conv => whnf); first | ((with_reducible refine ObRow.lit ?_ ?_); (focus (simp [rnB, rnC, rnL, AV.cells]; done))) | ((with_reducible refine ObN.mk ?_ ?_); (focus (first | rfl | assumption | omega | (simp only [List.length_map, List.length_append, List.length_cons, List.length_nil]; omega) | (simp; done) | (simp; omega)))) | ((with_reducible refine ObRn.mk ?_ ?_); (focus (first | rfl | (simp [rnB, rnC, rnL]; done)))) | ((with_reducible refine ObRow.same ?_ ?_ ?_); (focus (first | rfl | assumption)); (focus (first | rfl | assumption | (simp; done)))) | ((with_reducible refine ObEqs.mk ?_ ?_); (focus rfl)) | exact True.intro)
  · rintro ⟨⟩ -
    repeat' ((conv => whnf); first | (with_reducible refine SeqP.go ?_) | ((with_reducible refine ObN.mk ?_ ?_); (focus (first | rfl | assumption | omega | (simp only [List.length_map, List.length_append, List.length_cons, List.length_nil]; omega) | (simp; done) | (simp; omega)))) | ((with_reducible refine (?_ : ObR _ _ _)); (first | (refine ObR.mk _ (by assumption) ?_) | (refine ObR.mk _ (by with_reducible rfl) ?_) | (refine ObR.map (by (first | omega | assumption | (simp only [List.length_map, List.length_append, List.length_cons, List.length_nil, List.length_take, List.length_drop, List.length_set, List.length_replicate]; omega))) (fun x hx => ?_)) | (refine ObR.mk _ rfl ?_))))
    conv => whnf
    refine LoopP.go (α := Nat) (fun k => k ≤ H.length) (fun k => H.length - k) (fun k => [(4, none), (10, some (I k)), (0, none), (0, none), (0, none), (0, none), (0, none), (0, none), (0, none), (0, none), (0, none), (0, none), (0, none), (0, none), (0, none), (0, none), (0, none)]) (fun _ => [⟨39, 2, [sA l H], 0, 0⟩, ⟨39, 2, [.agg [.nl 2, .nl 2]], 0, 0⟩, ⟨39, 2, [.agg [.sl 2 (l.map pA), (.ol 3 1 H.length)]], 0, 0⟩, ⟨71, 2, H.map hA, 1, 0⟩]) 0 (Nat.zero_le _) (Fg.go ?_ rfl) ?_
    · repeat' ((conv => whnf); first | ((with_reducible refine ObEqs.mk ?_ ?_); (focus rfl)) | ((with_reducible refine ObEq1.i ?_ ?_); (focus (first | (with_reducible rfl) | omega))) | exact True.intro)
    rintro k hk
    by_cases hkl : k < H.length
    · have q := hA_at hkl
      have hs := set_hA hkl
      obtain ⟨x1, x2⟩ := ok.h1 _ (List.getElem_mem hkl)
      generalize H[k] = x at *
      have c := cl65p G x.2 (by omega)
      repeat' ((conv => whnf); first | (with_reducible refine SeqP.go ?_) | ((with_reducible refine ObD.mk ?_ ?_); (focus (first | rfl | (simp; done)))) | ((with_reducible refine ObN.mk ?_ ?_); (focus (first | rfl | assumption | omega | (simp only [List.length_map, List.length_append, List.length_cons, List.length_nil]; omega) | (simp; done) | (simp; omega)))) | (with_reducible refine ObT.tt ?_) | ((with_reducible refine ObB.yes ?_ ?_); (focus (first | assumption | (with_reducible rfl) | omega))) | ((with_reducible refine ObI.nl ?_ ?_); (focus omega)) | ((with_reducible refine ObX.mk _ rfl ?_ ?_); (focus (first | omega | assumption | (simp only [List.length_map, List.length_append, List.length_cons, List.length_nil, List.length_take, List.length_drop, List.length_set, List.length_replicate]; omega)))) | ((with_reducible refine (?_ : ObU _ _)); (refine ObU.mk _ (by first | exact hs | assumption | ((conv => lhs; simp only [List.set_cons_zero, List.set_cons_succ, List.take_succ_cons, List.take_zero, List.drop_succ_cons, List.drop_zero, List.nil_append, List.cons_append, List.append_nil, List.take_nil, List.drop_nil]); try rfl) | rfl) ?_)) | ((with_reducible refine (?_ : ObR _ _ _)); (first | (refine ObR.mk _ (by assumption) ?_) | (refine ObR.mk _ (by exact q) ?_) | (refine ObR.mk _ (by with_reducible rfl) ?_) | (refine ObR.map (by (first | omega | assumption | (simp only [List.length_map, List.length_append, List.length_cons, List.length_nil, List.length_take, List.length_drop, List.length_set, List.length_replicate]; omega))) (fun x hx => ?_)) | (refine ObR.mk _ rfl ?_))) | ((with_reducible refine ObC.f 65 ?_); (first | (with_reducible refine ObC.mk _ (c) ?_) | (refine ObC.mk _ (c) ?_))))
      all_goals conv => whnf
      refine Again.mk (k + 1) (by omega) (by omega) (Fg.go ?_ rfl)
      repeat' ((conv => whnf); first | ((with_reducible refine ObEqs.mk ?_ ?_); (focus rfl)) | ((with_reducible refine ObEq1.i ?_ ?_); (focus (first | (with_reducible rfl) | omega))) | exact True.intro)
    · obtain rfl : k = H.length := by omega
      have ha : (H.map hA).take H.length = H.map hA := h_all
      have hp : ((H.map hA).take H.length).all AV.isP = true := by rw [ha]; exact p_h _
      have hp2 := p_h H
      repeat' ((conv => whnf); first | (with_reducible refine SeqP.go ?_) | ((with_reducible refine ObD.mk ?_ ?_); (focus (first | rfl | (simp; done)))) | ((with_reducible refine ObN.mk ?_ ?_); (focus (first | rfl | assumption | omega | (simp only [List.length_map, List.length_append, List.length_cons, List.length_nil]; omega) | (simp; done) | (simp; omega)))) | (with_reducible refine ObT.ff ?_) | ((with_reducible refine ObB.no ?_ ?_); (focus (first | assumption | omega))) | ((with_reducible refine (?_ : ObU _ _)); (refine ObU.mk _ (by first | assumption | ((conv => lhs; simp only [List.set_cons_zero, List.set_cons_succ, List.take_succ_cons, List.take_zero, List.drop_succ_cons, List.drop_zero, List.nil_append, List.cons_append, List.append_nil, List.take_nil, List.drop_nil]); try rfl) | rfl) ?_)) | ((with_reducible refine (?_ : ObR _ _ _)); (first | (refine ObR.mk _ (by assumption) ?_) | (refine ObR.mk _ (by with_reducible rfl) ?_) | (refine ObR.map (by (first | omega | assumption | (simp only [List.length_map, List.length_append, List.length_cons, List.length_nil, List.length_take, List.length_drop, List.length_set, List.length_replicate]; omega))) (fun x hx => ?_)) | (refine ObR.mk _ rfl ?_))))
      all_goals conv => whnf
      refine ObEnd.vw [(1, 3, 1)] rfl ?_ (by simp) ?_
      all_goals repeat' ((conv => whnf); first | ((with_reducible refine ObN.mk ?_ ?_); (focus (first | rfl | assumption | omega | (simp only [List.length_map, List.length_append, List.length_cons, List.length_nil]; omega) | (simp; done) | (simp; omega)))) | ((with_reducible refine ObRow.same ?_ ?_ ?_); (focus (first | rfl | assumption)); (focus (first | rfl | assumption | (simp; done)))) | exact True.intro)
end
end Go.Proofs.YtgpldekhcojimaaDoor.Sim

namespace Go.Proofs.YtgpldekhcojimaaDoor.Sim
open Go.RowKit
set_option maxRecDepth 100000
set_option linter.unusedSimpArgs false
set_option linter.unusedVariables false
open Pr7
/-- Where the first snapshot with a number stands. -/
def fx (H : List Hd) (id : Int) : Option Nat := H.findIdx? fun x => decide (x.1 = id)
def hix (H : List Hd) (id : Int) : Int := match fx H id with | some i => (i : Int) | none => -1
theorem fx_some {H : List Hd} {id : Int} {k : Nat} (hk : k < H.length) (h : ∀ (j : Nat) (hj : j < H.length), j < k → ¬ H[j].1 = id) (e : H[k].1 = id) : fx H id = some k := by
  unfold fx
  rw [List.findIdx?_eq_some_iff_getElem]
  exact ⟨hk, by simpa using e, fun j hj => by simpa using h j (by omega) hj⟩
theorem fx_none {H : List Hd} {id : Int} (h : ∀ (j : Nat) (hj : j < H.length), j < H.length → ¬ H[j].1 = id) : fx H id = none := by
  unfold fx
  rw [List.findIdx?_eq_none_iff]
  intro x hx
  obtain ⟨j, hj, rfl⟩ := List.mem_iff_getElem.1 hx
  simpa using h j hj hj
theorem no_next {H : List Hd} {id : Int} {k : Nat} (hk : k < H.length) (h : ∀ (j : Nat) (hj : j < H.length), j < k → ¬ H[j].1 = id) (e : ¬ H[k].1 = id) : ∀ (j : Nat) (hj : j < H.length), j < k + 1 → ¬ H[j].1 = id := by
  intro j hj hl
  by_cases hjk : j = k
  · subst hjk; exact e
  · exact h j hj (by omega)
section
variable (G : Nat → AV)
theorem cl70 (x : Hd) (id : Int) (r : Bool) (hr : r = decide (x.1 = id)) : PC Tryd.prog G 70 [.agg [I x.1, .sl 2 (x.2.map pA)], .ad 1 [I id] 0 0] (Bo r) := by
  subst hr
  by_cases h : x.1 = id
  · rw [decide_eq_true h]
    refine pc_ofV cop70 ?_
    repeat' ((conv => whnf); first | (with_reducible refine SeqP.go ?_) | ((with_reducible refine ObD.mk ?_ ?_); (focus (first | rfl | (simp; done)))) | ((with_reducible refine ObN.mk ?_ ?_); (focus (first | rfl | assumption | omega | (simp only [List.length_map, List.length_append, List.length_cons, List.length_nil]; omega) | (simp; done) | (simp; omega)))) | ((with_reducible refine ObB.yes ?_ ?_); (focus (first | assumption | (with_reducible rfl) | omega))) | ((with_reducible refine (?_ : ObR _ _ _)); (first | (refine ObR.mk _ (by assumption) ?_) | (refine ObR.mk _ (by with_reducible rfl) ?_) | (refine ObR.map (by (first | omega | assumption | (simp only [List.length_map, List.length_append, List.length_cons, List.length_nil, List.length_take, List.length_drop, List.length_set, List.length_replicate]; omega))) (fun x hx => ?_)) | (refine ObR.mk _ rfl ?_))) | ((with_reducible refine ObEq.mk ?_); (focus (first | rfl | assumption))))
  · rw [decide_eq_false h]
    refine pc_ofV cop70 ?_
    repeat' ((conv => whnf); first | (with_reducible refine SeqP.go ?_) | ((with_reducible refine ObD.mk ?_ ?_); (focus (first | rfl | (simp; done)))) | ((with_reducible refine ObN.mk ?_ ?_); (focus (first | rfl | assumption | omega | (simp only [List.length_map, List.length_append, List.length_cons, List.length_nil]; omega) | (simp; done) | (simp; omega)))) | ((with_reducible refine ObB.no ?_ ?_); (focus (first | assumption | omega))) | ((with_reducible refine (?_ : ObR _ _ _)); (first | (refine ObR.mk _ (by assumption) ?_) | (refine ObR.mk _ (by with_reducible rfl) ?_) | (refine ObR.map (by (first | omega | assumption | (simp only [List.length_map, List.length_append, List.length_cons, List.length_nil, List.length_take, List.length_drop, List.length_set, List.length_replicate]; omega))) (fun x hx => ?_)) | (refine ObR.mk _ rfl ?_))) | ((with_reducible refine ObEq.mk ?_); (focus (first | rfl | assumption))))
set_option maxHeartbeats 2000000 in
theorem if69 (H : List Hd) (hH : H.length ≤ 1000000) (id : Int) : PC Tryd.prog G 69 [.sl 2 (H.map hA), .fn 70 [.ad 1 [I id] 0 0]] (I (hix H id)) := by
  refine pc_ofV cop69 ?_
  repeat' ((conv => whnf); first | (with_reducible refine SeqP.go ?_) | ((with_reducible refine (?_ : ObL _ _)); (refine ObL.mk _ (by first | exact (List.length_map _) | assumption | exact (List.length_map _).trans (by assumption) | exact List.length_map _ | rfl) ?_)))
  conv => whnf
  refine LoopP.go (α := Nat) (fun k => k ≤ H.length ∧ ∀ (j : Nat) (hj : j < H.length), j < k → ¬ H[j].1 = id) (fun k => H.length - k) (fun k => [(4, some (I 0)), (0, none), (2, some (I k)), (0, none), (0, none), (0, none), (0, none), (0, none), (0, none), (0, none), (0, none), (0, none), (0, none)]) (fun _ => []) 0 ⟨Nat.zero_le _, fun j hj h => by omega⟩ (Fg.go ?_ rfl) ?_
  · repeat' ((conv => whnf); first | ((with_reducible refine ObEqs.mk ?_ ?_); (focus rfl)) | ((with_reducible refine ObEq1.i ?_ ?_); (focus (first | (with_reducible rfl) | omega))) | exact True.intro)
  rintro k ⟨hk, hq⟩
  by_cases hkl : k < H.length
  · have q := hA_at hkl
    have f1 := fx_some hkl hq
    have f2 := no_next hkl hq
    generalize H[k] = x at *
    by_cases he : x.1 = id
    · have c := cl70 G x id true (by simp [he])
      have e : hix H id = k := by unfold hix; rw [f1 he]
      rw [e]
      repeat' ((conv => whnf); first | (with_reducible refine SeqP.go ?_) | ((with_reducible refine ObD.mk ?_ ?_); (focus (first | rfl | (simp; done)))) | ((with_reducible refine ObN.mk ?_ ?_); (focus (first | rfl | assumption | omega | (simp only [List.length_map, List.length_append, List.length_cons, List.length_nil]; omega) | (simp; done) | (simp; omega)))) | (with_reducible refine ObT.tt ?_) | ((with_reducible refine ObB.yes ?_ ?_); (focus (first | assumption | (with_reducible rfl) | omega))) | ((with_reducible refine ObX.mk _ rfl ?_ ?_); (focus (first | omega | assumption | (simp only [List.length_map, List.length_append, List.length_cons, List.length_nil, List.length_take, List.length_drop, List.length_set, List.length_replicate]; omega)))) | ((with_reducible refine (?_ : ObU _ _)); (refine ObU.mk _ (by first | assumption | ((conv => lhs; simp only [List.set_cons_zero, List.set_cons_succ, List.take_succ_cons, List.take_zero, List.drop_succ_cons, List.drop_zero, List.nil_append, List.cons_append, List.append_nil, List.take_nil, List.drop_nil]); try rfl) | rfl) ?_)) | ((with_reducible refine (?_ : ObR _ _ _)); (first | (refine ObR.mk _ (by assumption) ?_) | (refine ObR.mk _ (by exact q) ?_) | (refine ObR.mk _ (by with_reducible rfl) ?_) | (refine ObR.map (by (first | omega | assumption | (simp only [List.length_map, List.length_append, List.length_cons, List.length_nil, List.length_take, List.length_drop, List.length_set, List.length_replicate]; omega))) (fun x hx => ?_)) | (refine ObR.mk _ rfl ?_))) | ((with_reducible refine ObH.f 70 ?_); (first | (with_reducible refine ObH.mk _ _ ((hc_pc (by rfl) c _)) ?_) | (refine ObH.mk _ _ ((hc_pc (by rfl) c _)) ?_))) | ((with_reducible refine ObEq.i ?_); (focus (first | (with_reducible rfl) | omega))))
    · have c := cl70 G x id false (by simp [he])
      repeat' ((conv => whnf); first | (with_reducible refine SeqP.go ?_) | ((with_reducible refine ObD.mk ?_ ?_); (focus (first | rfl | (simp; done)))) | ((with_reducible refine ObN.mk ?_ ?_); (focus (first | rfl | assumption | omega | (simp only [List.length_map, List.length_append, List.length_cons, List.length_nil]; omega) | (simp; done) | (simp; omega)))) | (with_reducible refine ObT.tt ?_) | (with_reducible refine ObT.ff ?_) | ((with_reducible refine ObB.yes ?_ ?_); (focus (first | assumption | (with_reducible rfl) | omega))) | ((with_reducible refine ObI.nl ?_ ?_); (focus omega)) | ((with_reducible refine ObX.mk _ rfl ?_ ?_); (focus (first | omega | assumption | (simp only [List.length_map, List.length_append, List.length_cons, List.length_nil, List.length_take, List.length_drop, List.length_set, List.length_replicate]; omega)))) | ((with_reducible refine (?_ : ObU _ _)); (refine ObU.mk _ (by first | assumption | ((conv => lhs; simp only [List.set_cons_zero, List.set_cons_succ, List.take_succ_cons, List.take_zero, List.drop_succ_cons, List.drop_zero, List.nil_append, List.cons_append, List.append_nil, List.take_nil, List.drop_nil]); try rfl) | rfl) ?_)) | ((with_reducible refine (?_ : ObR _ _ _)); (first | (refine ObR.mk _ (by assumption) ?_) | (refine ObR.mk _ (by exact q) ?_) | (refine ObR.mk _ (by with_reducible rfl) ?_) | (refine ObR.map (by (first | omega | assumption | (simp only [List.length_map, List.length_append, List.length_cons, List.length_nil, List.length_take, List.length_drop, List.length_set, List.length_replicate]; omega))) (fun x hx => ?_)) | (refine ObR.mk _ rfl ?_))) | ((with_reducible refine ObH.f 70 ?_); (first | (with_reducible refine ObH.mk _ _ ((hc_pc (by rfl) c _)) ?_) | (refine ObH.mk _ _ ((hc_pc (by rfl) c _)) ?_))))
      conv => whnf
      refine Again.mk (k + 1) ⟨by omega, f2 he⟩ (by omega) (Fg.go ?_ rfl)
      repeat' ((conv => whnf); first | ((with_reducible refine ObEqs.mk ?_ ?_); (focus rfl)) | ((with_reducible refine ObEq1.i ?_ ?_); (focus (first | (with_reducible rfl) | omega))) | exact True.intro)
  · obtain rfl : k = H.length := by omega
    have e : hix H id = -1 := by unfold hix; rw [fx_none hq]
    rw [e]
    repeat' ((conv => whnf); first | (with_reducible refine SeqP.go ?_) | ((with_reducible refine ObN.mk ?_ ?_); (focus (first | rfl | assumption | omega | (simp only [List.length_map, List.length_append, List.length_cons, List.length_nil]; omega) | (simp; done) | (simp; omega)))) | (with_reducible refine ObT.ff ?_) | ((with_reducible refine ObB.no ?_ ?_); (focus (first | assumption | omega))) | ((with_reducible refine ObEq.i ?_); (focus (first | (with_reducible rfl) | omega))))
theorem holds40 (l : List Pr) (H : List Hd) (hH : H.length ≤ 1000000) (id : Int) : PC Tryd.prog G 40 [sA l H, I id] (I (hix H id)) := by
  have c := if69 G H hH id
  refine pc_ofV cop40 ?_
  repeat' ((conv => whnf); first | (with_reducible refine SeqP.go ?_) | ((with_reducible refine ObD.mk ?_ ?_); (focus (first | rfl | (simp; done)))) | ((with_reducible refine ObN.mk ?_ ?_); (focus (first | rfl | assumption | omega | (simp only [List.length_map, List.length_append, List.length_cons, List.length_nil]; omega) | (simp; done) | (simp; omega)))) | ((with_reducible refine (?_ : ObR _ _ _)); (first | (refine ObR.mk _ (by assumption) ?_) | (refine ObR.mk _ (by with_reducible rfl) ?_) | (refine ObR.map (by (first | omega | assumption | (simp only [List.length_map, List.length_append, List.length_cons, List.length_nil, List.length_take, List.length_drop, List.length_set, List.length_replicate]; omega))) (fun x hx => ?_)) | (refine ObR.mk _ rfl ?_))) | ((with_reducible refine ObC.f 69 ?_); (first | (with_reducible refine ObC.mk _ (c) ?_) | (refine ObC.mk _ (c) ?_))) | ((with_reducible refine ObEq.i ?_); (focus (first | (with_reducible rfl) | omega))))
/-- What is held with a number. -/
def atV (H : List Hd) (id : Int) : List Pr × Bool := match fx H id with | some i => ((H.getD i (0, [])).2, true) | none => ([], false)
set_option maxHeartbeats 2000000 in
theorem at23 (l : List Pr) (H : List Hd) (hH : H.length ≤ 1000000) (id : Int) : PC Tryd.prog G 23 [sA l H, I id] (.tup [.sl 2 ((atV H id).1.map pA), Bo (atV H id).2]) := by
  refine pc_ofV cop23 ?_
  repeat' ((conv => whnf); first | (with_reducible refine SeqP.go ?_) | ((with_reducible refine ObD.mk ?_ ?_); (focus (first | rfl | (simp; done)))))
  conv => whnf
  refine LoopP.go (α := Nat) (fun k => k ≤ H.length ∧ ∀ (j : Nat) (hj : j < H.length), j < k → ¬ H[j].1 = id) (fun k => H.length - k) (fun k => [(4, some (.nl 2)), (0, some (Bo false)), (0, some (I k)), (0, none), (0, none), (0, none), (0, none), (0, none), (0, none), (0, none), (0, none), (0, none), (0, none), (0, none), (0, none), (0, none), (0, none), (0, none), (0, none), (0, none), (0, none), (0, none), (0, none), (0, none)]) (fun _ => [⟨27, 2, [sA l H], 0, 0⟩]) 0 ⟨Nat.zero_le _, fun j hj h => by omega⟩ (Fg.go ?_ rfl) ?_
  · repeat' ((conv => whnf); first | ((with_reducible refine ObEqs.mk ?_ ?_); (focus rfl)) | ((with_reducible refine ObEq1.i ?_ ?_); (focus (first | (with_reducible rfl) | omega))) | ((with_reducible refine ObEq1.mk ?_ ?_); (focus (first | rfl | assumption))) | exact True.intro)
  rintro k ⟨hk, hq⟩
  by_cases hkl : k < H.length
  · have q := hA_at hkl
    have f1 := fx_some hkl hq
    have f2 := no_next hkl hq
    have e : H[k].1 = id → atV H id = (H[k].2, true) := fun h => by
      unfold atV
      rw [f1 h]
      simp [List.getD_eq_getElem?_getD, List.getElem?_eq_getElem hkl]
    generalize H[k] = x at *
    by_cases he : x.1 = id
    · rw [e he]
      repeat' ((conv => whnf); first | (with_reducible refine SeqP.go ?_) | ((with_reducible refine ObN.mk ?_ ?_); (focus (first | rfl | assumption | omega | (simp only [List.length_map, List.length_append, List.length_cons, List.length_nil]; omega) | (simp; done) | (simp; omega)))) | (with_reducible refine ObT.tt ?_) | ((with_reducible refine ObB.yes ?_ ?_); (focus (first | assumption | (with_reducible rfl) | omega))) | ((with_reducible refine ObX.mk _ rfl ?_ ?_); (focus (first | omega | assumption | (simp only [List.length_map, List.length_append, List.length_cons, List.length_nil, List.length_take, List.length_drop, List.length_set, List.length_replicate]; omega)))) | ((with_reducible refine (?_ : ObL _ _)); (refine ObL.mk _ (by first | exact (List.length_map _) | assumption | exact (List.length_map _).trans (by assumption) | exact List.length_map _ | rfl) ?_)) | ((with_reducible refine (?_ : ObR _ _ _)); (first | (refine ObR.mk _ (by assumption) ?_) | (refine ObR.mk _ (by exact q) ?_) | (refine ObR.mk _ (by with_reducible rfl) ?_) | (refine ObR.map (by (first | omega | assumption | (simp only [List.length_map, List.length_append, List.length_cons, List.length_nil, List.length_take, List.length_drop, List.length_set, List.length_replicate]; omega))) (fun x hx => ?_)) | (refine ObR.mk _ rfl ?_))) | ((with_reducible refine ObEq.mk ?_); (focus (first | rfl | assumption))))
    · repeat' ((conv => whnf); first | (with_reducible refine SeqP.go ?_) | ((with_reducible refine ObN.mk ?_ ?_); (focus (first | rfl | assumption | omega | (simp only [List.length_map, List.length_append, List.length_cons, List.length_nil]; omega) | (simp; done) | (simp; omega)))) | (with_reducible refine ObT.tt ?_) | (with_reducible refine ObT.ff ?_) | ((with_reducible refine ObB.yes ?_ ?_); (focus (first | assumption | (with_reducible rfl) | omega))) | ((with_reducible refine ObB.no ?_ ?_); (focus (first | assumption | omega))) | ((with_reducible refine ObI.nl ?_ ?_); (focus omega)) | ((with_reducible refine ObX.mk _ rfl ?_ ?_); (focus (first | omega | assumption | (simp only [List.length_map, List.length_append, List.length_cons, List.length_nil, List.length_take, List.length_drop, List.length_set, List.length_replicate]; omega)))) | ((with_reducible refine (?_ : ObL _ _)); (refine ObL.mk _ (by first | exact (List.length_map _) | assumption | exact (List.length_map _).trans (by assumption) | exact List.length_map _ | rfl) ?_)) | ((with_reducible refine (?_ : ObR _ _ _)); (first | (refine ObR.mk _ (by assumption) ?_) | (refine ObR.mk _ (by exact q) ?_) | (refine ObR.mk _ (by with_reducible rfl) ?_) | (refine ObR.map (by (first | omega | assumption | (simp only [List.length_map, List.length_append, List.length_cons, List.length_nil, List.length_take, List.length_drop, List.length_set, List.length_replicate]; omega))) (fun x hx => ?_)) | (refine ObR.mk _ rfl ?_))))
      conv => whnf
      refine Again.mk (k + 1) ⟨by omega, f2 he⟩ (by omega) (Fg.go ?_ rfl)
      repeat' ((conv => whnf); first | ((with_reducible refine ObEqs.mk ?_ ?_); (focus rfl)) | ((with_reducible refine ObEq1.i ?_ ?_); (focus (first | (with_reducible rfl) | omega))) | ((with_reducible refine ObEq1.mk ?_ ?_); (focus (first | rfl | assumption))) | exact True.intro)
  · obtain rfl : k = H.length := by omega
    have e : atV H id = ([], false) := by unfold atV; rw [fx_none hq]
    rw [e]
    repeat' ((conv => whnf); first | (with_reducible refine SeqP.go ?_) | ((with_reducible refine ObN.mk ?_ ?_); (focus (first | rfl | assumption | omega | (simp only [List.length_map, List.length_append, List.length_cons, List.length_nil]; omega) | (simp; done) | (simp; omega)))) | (with_reducible refine ObT.ff ?_) | ((with_reducible refine ObB.no ?_ ?_); (focus (first | assumption | omega))) | ((with_reducible refine (?_ : ObL _ _)); (refine ObL.mk _ (by first | assumption | exact (List.length_map _).trans (by assumption) | exact List.length_map _ | rfl) ?_)) | ((with_reducible refine (?_ : ObR _ _ _)); (first | (refine ObR.mk _ (by assumption) ?_) | (refine ObR.mk _ (by with_reducible rfl) ?_) | (refine ObR.map (by (first | omega | assumption | (simp only [List.length_map, List.length_append, List.length_cons, List.length_nil, List.length_take, List.length_drop, List.length_set, List.length_replicate]; omega))) (fun x hx => ?_)) | (refine ObR.mk _ rfl ?_))) | ((with_reducible refine ObEq.mk ?_); (focus (first | rfl | assumption))))
end
theorem cut19 (G : Nat → AV) (k : ByteArray) (hk : k.size ≤ 9223372036854775807) : PC Tryd.prog G 19 [S k, I 40] (S (cutB k 40)) := cutP G k 40 hk
set_option maxHeartbeats 2000000 in
theorem short8 (G : Nat → AV) (o : Int) (x y z : ByteArray) (i : Int) (hx : x.size ≤ 9223372036854775807) (hy : y.size ≤ 9223372036854775807) (hz : z.size ≤ 9223372036854775807) : PC Tryd.prog G 8 [.agg [I o, S x, S y, S z, I i]] (.agg [I o, S (cutB x 40), S (cutB y 40), S (cutB z 40), I i]) := by
  have c1 := cut19 G x hx
  have c2 := cut19 G y hy
  have c3 := cut19 G z hz
  refine pc_ofV cop8 ?_
  repeat' ((conv => whnf); first | (with_reducible refine SeqP.go ?_) | ((with_reducible refine ObD.mk ?_ ?_); (focus (first | rfl | (simp; done)))) | ((with_reducible refine ObN.mk ?_ ?_); (focus (first | rfl | assumption | omega | (simp only [List.length_map, List.length_append, List.length_cons, List.length_nil]; omega) | (simp; done) | (simp; omega)))) | ((with_reducible refine (?_ : ObU _ _)); (refine ObU.mk _ (by first | assumption | ((conv => lhs; simp only [List.set_cons_zero, List.set_cons_succ, List.take_succ_cons, List.take_zero, List.drop_succ_cons, List.drop_zero, List.nil_append, List.cons_append, List.append_nil, List.take_nil, List.drop_nil]); try rfl) | rfl) ?_)) | ((with_reducible refine (?_ : ObR _ _ _)); (first | (refine ObR.mk _ (by assumption) ?_) | (refine ObR.mk _ (by with_reducible rfl) ?_) | (refine ObR.map (by (first | omega | assumption | (simp only [List.length_map, List.length_append, List.length_cons, List.length_nil, List.length_take, List.length_drop, List.length_set, List.length_replicate]; omega))) (fun x hx => ?_)) | (refine ObR.mk _ rfl ?_))) | ((with_reducible refine ObC.f 19 ?_); (first | (with_reducible refine ObC.mk _ (c1) ?_) | (refine ObC.mk _ (c1) ?_))) | ((with_reducible refine ObC.f 19 ?_); (first | (with_reducible refine ObC.mk _ (c2) ?_) | (refine ObC.mk _ (c2) ?_))) | ((with_reducible refine ObC.f 19 ?_); (first | (with_reducible refine ObC.mk _ (c3) ?_) | (refine ObC.mk _ (c3) ?_))) | ((with_reducible refine ObEq.mk ?_); (focus (first | rfl | assumption))))
end Go.Proofs.YtgpldekhcojimaaDoor.Sim

namespace Go.Proofs.YtgpldekhcojimaaDoor.Sim
open Go.RowKit
set_option maxRecDepth 100000
set_option linter.unusedSimpArgs false
set_option linter.unusedVariables false
open Pr7
/-- Does a call bind? -/
def putsB (o : Int) (v : Option ByteArray) (z : ByteArray) : Bool := decide (o = 2) || (decide (o = 3) && !v.isSome) || (decide (o = 4) && decide (v = some z))
section
variable (k s t h b : Int) (l : List Pr) (H : List Hd) (o : Int) (x y z : ByteArray) (i : Int)
theorem aft_no (hf : PC Tryd.prog tabG 25 [cA k s t h b, xA o x y z i] (Bo false)) (c36 : PC Tryd.prog tabG 36 [sA l H] (sA l H)) : PC Tryd.prog tabG 12 [cA k s t h b, sA l H, xA o x y z i] (.tup [sA l H, Bo false]) := by
  refine pc_ofV cop12 ?_
  repeat' ((conv => whnf); first | (with_reducible refine SeqP.go ?_) | ((with_reducible refine ObD.mk ?_ ?_); (focus (first | rfl | (simp; done)))) | ((with_reducible refine ObN.mk ?_ ?_); (focus (first | rfl | assumption | omega | (simp only [List.length_map, List.length_append, List.length_cons, List.length_nil]; omega) | (simp; done) | (simp; omega)))) | (with_reducible refine ObT.tt ?_) | (with_reducible refine ObT.ff ?_) | ((with_reducible refine (?_ : ObU _ _)); (refine ObU.mk _ (by first | assumption | ((conv => lhs; simp only [List.set_cons_zero, List.set_cons_succ, List.take_succ_cons, List.take_zero, List.drop_succ_cons, List.drop_zero, List.nil_append, List.cons_append, List.append_nil, List.take_nil, List.drop_nil]); try rfl) | rfl) ?_)) | ((with_reducible refine (?_ : ObR _ _ _)); (first | (refine ObR.mk _ (by assumption) ?_) | (refine ObR.mk _ (by with_reducible rfl) ?_) | (refine ObR.map (by (first | omega | assumption | (simp only [List.length_map, List.length_append, List.length_cons, List.length_nil, List.length_take, List.length_drop, List.length_set, List.length_replicate]; omega))) (fun x hx => ?_)) | (refine ObR.mk _ rfl ?_))) | ((with_reducible refine ObC.f 25 ?_); (first | (with_reducible refine ObC.mk _ (hf) ?_) | (refine ObC.mk _ (hf) ?_))) | ((with_reducible refine ObC.f 36 ?_); (first | (with_reducible refine ObC.mk _ (c36) ?_) | (refine ObC.mk _ (c36) ?_))) | ((with_reducible refine ObEq.mk ?_); (focus (first | rfl | assumption))))
set_option maxHeartbeats 8000000 in
theorem aft_12 (hf : PC Tryd.prog tabG 25 [cA k s t h b, xA o x y z i] (Bo true)) (c36 : PC Tryd.prog tabG 36 [sA l H] (sA l H)) (v : Option ByteArray)
    (c37 : PC Tryd.prog tabG 37 [.sl 2 (l.map pA), S x] (.tup [S (v.getD ⟨#[]⟩), Bo v.isSome])) (P D : List Pr) (c38 : PC Tryd.prog tabG 38 [.sl 2 (l.map pA), S x, S y] (.sl 2 (P.map pA))) (c39 : PC Tryd.prog tabG 39 [.sl 2 (l.map pA), S x] (.sl 2 (D.map pA)))
    (c40 : o = 8 → PC Tryd.prog tabG 40 [sA l H, I i] (I (-1))) :
    (putsB o v z = true → v ≠ some y → PC Tryd.prog tabG 12 [cA k s t h b, sA l H, xA o x y z i] (.tup [sA P H, Bo true]))
    ∧ (o = 5 → v.isSome = true → PC Tryd.prog tabG 12 [cA k s t h b, sA l H, xA o x y z i] (.tup [sA D H, Bo true]))
    ∧ (¬ (putsB o v z = true ∧ v ≠ some y) → ¬ (o = 5 ∧ v.isSome = true) → PC Tryd.prog tabG 12 [cA k s t h b, sA l H, xA o x y z i] (.tup [sA l H, Bo false])) := by
  have done : ∀ {p : Prop}, p → p := id
  refine ⟨fun hp hv => ?_, fun h5 hv => ?_, fun hp h5 => ?_⟩
  · cases v with
    | none =>
      change PC Tryd.prog tabG 37 [.sl 2 (l.map pA), S x] (.tup [S ⟨#[]⟩, Bo false]) at c37
      have o23 : o = 2 ∨ o = 3 := by simpa [putsB] using hp
      rcases o23 with rfl | rfl
      all_goals
        refine pc_ofV cop12 ?_
        repeat' ((conv => whnf); first | (with_reducible refine SeqP.go ?_) | ((with_reducible refine ObD.mk ?_ ?_); (focus (first | rfl | (simp; done)))) | ((with_reducible refine ObN.mk ?_ ?_); (focus (first | rfl | assumption | omega | (simp only [List.length_map, List.length_append, List.length_cons, List.length_nil]; omega) | (simp; done) | (simp; omega)))) | (with_reducible refine ObT.tt ?_) | (with_reducible refine ObT.ff ?_) | ((with_reducible refine ObB.yes ?_ ?_); (focus (first | assumption | (with_reducible rfl) | omega))) | ((with_reducible refine ObB.no ?_ ?_); (focus (first | assumption | omega))) | ((with_reducible refine (?_ : ObU _ _)); (refine ObU.mk _ (by first | assumption | ((conv => lhs; simp only [List.set_cons_zero, List.set_cons_succ, List.take_succ_cons, List.take_zero, List.drop_succ_cons, List.drop_zero, List.nil_append, List.cons_append, List.append_nil, List.take_nil, List.drop_nil]); try rfl) | rfl) ?_)) | ((with_reducible refine (?_ : ObR _ _ _)); (first | (refine ObR.mk _ (by assumption) ?_) | (refine ObR.mk _ (by with_reducible rfl) ?_) | (refine ObR.map (by (first | omega | assumption | (simp only [List.length_map, List.length_append, List.length_cons, List.length_nil, List.length_take, List.length_drop, List.length_set, List.length_replicate]; omega))) (fun x hx => ?_)) | (refine ObR.mk _ rfl ?_))) | ((with_reducible refine ObC.f 25 ?_); (first | (with_reducible refine ObC.mk _ (hf) ?_) | (refine ObC.mk _ (hf) ?_))) | ((with_reducible refine ObC.f 36 ?_); (first | (with_reducible refine ObC.mk _ (c36) ?_) | (refine ObC.mk _ (c36) ?_))) | ((with_reducible refine ObC.f 37 ?_); (first | (with_reducible refine ObC.mk _ (c37) ?_) | (refine ObC.mk _ (c37) ?_))) | ((with_reducible refine ObC.f 38 ?_); (first | (with_reducible refine ObC.mk _ (c38) ?_) | (refine ObC.mk _ (c38) ?_))) | ((with_reducible refine ObEq.mk ?_); (focus (first | rfl | assumption))))
    | some w =>
      change PC Tryd.prog tabG 37 [.sl 2 (l.map pA), S x] (.tup [S w, Bo true]) at c37
      have hwy : ¬ w = y := fun e => hv (by rw [e])
      have o24 : o = 2 ∨ (o = 4 ∧ w = z) := by simpa [putsB] using hp
      rcases o24 with rfl | ⟨rfl, rfl⟩
      all_goals
        refine pc_ofV cop12 ?_
        repeat' ((conv => whnf); first | (with_reducible refine SeqP.go ?_) | ((with_reducible refine ObD.mk ?_ ?_); (focus (first | rfl | (simp; done)))) | ((with_reducible refine ObN.mk ?_ ?_); (focus (first | rfl | assumption | omega | (simp only [List.length_map, List.length_append, List.length_cons, List.length_nil]; omega) | (simp; done) | (simp; omega)))) | (with_reducible refine ObT.tt ?_) | (with_reducible refine ObT.ff ?_) | ((with_reducible refine ObB.yes ?_ ?_); (focus (first | assumption | (with_reducible rfl) | omega))) | ((with_reducible refine ObB.no ?_ ?_); (focus (first | assumption | omega))) | ((with_reducible refine (?_ : ObU _ _)); (refine ObU.mk _ (by first | assumption | ((conv => lhs; simp only [List.set_cons_zero, List.set_cons_succ, List.take_succ_cons, List.take_zero, List.drop_succ_cons, List.drop_zero, List.nil_append, List.cons_append, List.append_nil, List.take_nil, List.drop_nil]); try rfl) | rfl) ?_)) | ((with_reducible refine (?_ : ObR _ _ _)); (first | (refine ObR.mk _ (by assumption) ?_) | (refine ObR.mk _ (by with_reducible rfl) ?_) | (refine ObR.map (by (first | omega | assumption | (simp only [List.length_map, List.length_append, List.length_cons, List.length_nil, List.length_take, List.length_drop, List.length_set, List.length_replicate]; omega))) (fun x hx => ?_)) | (refine ObR.mk _ rfl ?_))) | ((with_reducible refine ObC.f 25 ?_); (first | (with_reducible refine ObC.mk _ (hf) ?_) | (refine ObC.mk _ (hf) ?_))) | ((with_reducible refine ObC.f 36 ?_); (first | (with_reducible refine ObC.mk _ (c36) ?_) | (refine ObC.mk _ (c36) ?_))) | ((with_reducible refine ObC.f 37 ?_); (first | (with_reducible refine ObC.mk _ (c37) ?_) | (refine ObC.mk _ (c37) ?_))) | ((with_reducible refine ObC.f 38 ?_); (first | (with_reducible refine ObC.mk _ (c38) ?_) | (refine ObC.mk _ (c38) ?_))) | ((with_reducible refine ObEq.mk ?_); (focus (first | rfl | assumption))))
  · subst h5
    cases v with
    | none => cases hv
    | some w =>
      change PC Tryd.prog tabG 37 [.sl 2 (l.map pA), S x] (.tup [S w, Bo true]) at c37
      refine pc_ofV cop12 ?_
      repeat' ((conv => whnf); first | (with_reducible refine SeqP.go ?_) | ((with_reducible refine ObD.mk ?_ ?_); (focus (first | rfl | (simp; done)))) | ((with_reducible refine ObN.mk ?_ ?_); (focus (first | rfl | assumption | omega | (simp only [List.length_map, List.length_append, List.length_cons, List.length_nil]; omega) | (simp; done) | (simp; omega)))) | (with_reducible refine ObT.tt ?_) | (with_reducible refine ObT.ff ?_) | ((with_reducible refine ObB.yes ?_ ?_); (focus (first | assumption | (with_reducible rfl) | omega))) | ((with_reducible refine ObB.no ?_ ?_); (focus (first | assumption | omega))) | ((with_reducible refine (?_ : ObU _ _)); (refine ObU.mk _ (by first | assumption | ((conv => lhs; simp only [List.set_cons_zero, List.set_cons_succ, List.take_succ_cons, List.take_zero, List.drop_succ_cons, List.drop_zero, List.nil_append, List.cons_append, List.append_nil, List.take_nil, List.drop_nil]); try rfl) | rfl) ?_)) | ((with_reducible refine (?_ : ObR _ _ _)); (first | (refine ObR.mk _ (by assumption) ?_) | (refine ObR.mk _ (by with_reducible rfl) ?_) | (refine ObR.map (by (first | omega | assumption | (simp only [List.length_map, List.length_append, List.length_cons, List.length_nil, List.length_take, List.length_drop, List.length_set, List.length_replicate]; omega))) (fun x hx => ?_)) | (refine ObR.mk _ rfl ?_))) | ((with_reducible refine ObC.f 25 ?_); (first | (with_reducible refine ObC.mk _ (hf) ?_) | (refine ObC.mk _ (hf) ?_))) | ((with_reducible refine ObC.f 36 ?_); (first | (with_reducible refine ObC.mk _ (c36) ?_) | (refine ObC.mk _ (c36) ?_))) | ((with_reducible refine ObC.f 37 ?_); (first | (with_reducible refine ObC.mk _ (c37) ?_) | (refine ObC.mk _ (c37) ?_))) | ((with_reducible refine ObC.f 39 ?_); (first | (with_reducible refine ObC.mk _ (c39) ?_) | (refine ObC.mk _ (c39) ?_))) | ((with_reducible refine ObEq.mk ?_); (focus (first | rfl | assumption))))
  · cases v with
    | none =>
      change PC Tryd.prog tabG 37 [.sl 2 (l.map pA), S x] (.tup [S ⟨#[]⟩, Bo false]) at c37
      have a2 : ¬ o = 2 := fun e => hp ⟨by simp [putsB, e], by simp⟩
      have a3 : ¬ o = 3 := fun e => hp ⟨by simp [putsB, e], by simp⟩
      by_cases a4 : o = 4
      · subst a4
        refine pc_ofV cop12 ?_
        repeat' ((conv => whnf); first | (with_reducible refine SeqP.go ?_) | ((with_reducible refine ObD.mk ?_ ?_); (focus (first | rfl | (simp; done)))) | ((with_reducible refine ObN.mk ?_ ?_); (focus (first | rfl | assumption | omega | (simp only [List.length_map, List.length_append, List.length_cons, List.length_nil]; omega) | (simp; done) | (simp; omega)))) | (with_reducible refine ObT.tt ?_) | (with_reducible refine ObT.ff ?_) | ((with_reducible refine ObB.yes ?_ ?_); (focus (first | assumption | (with_reducible rfl) | omega))) | ((with_reducible refine ObB.no ?_ ?_); (focus (first | assumption | omega))) | ((with_reducible refine (?_ : ObU _ _)); (refine ObU.mk _ (by first | assumption | ((conv => lhs; simp only [List.set_cons_zero, List.set_cons_succ, List.take_succ_cons, List.take_zero, List.drop_succ_cons, List.drop_zero, List.nil_append, List.cons_append, List.append_nil, List.take_nil, List.drop_nil]); try rfl) | rfl) ?_)) | ((with_reducible refine (?_ : ObR _ _ _)); (first | (refine ObR.mk _ (by assumption) ?_) | (refine ObR.mk _ (by with_reducible rfl) ?_) | (refine ObR.map (by (first | omega | assumption | (simp only [List.length_map, List.length_append, List.length_cons, List.length_nil, List.length_take, List.length_drop, List.length_set, List.length_replicate]; omega))) (fun x hx => ?_)) | (refine ObR.mk _ rfl ?_))) | ((with_reducible refine ObC.f 25 ?_); (first | (with_reducible refine ObC.mk _ (hf) ?_) | (refine ObC.mk _ (hf) ?_))) | ((with_reducible refine ObC.f 36 ?_); (first | (with_reducible refine ObC.mk _ (c36) ?_) | (refine ObC.mk _ (c36) ?_))) | ((with_reducible refine ObC.f 37 ?_); (first | (with_reducible refine ObC.mk _ (c37) ?_) | (refine ObC.mk _ (c37) ?_))) | ((with_reducible refine ObEq.mk ?_); (focus (first | rfl | assumption))))
      by_cases a5 : o = 5
      · subst a5
        refine pc_ofV cop12 ?_
        repeat' ((conv => whnf); first | (with_reducible refine SeqP.go ?_) | ((with_reducible refine ObD.mk ?_ ?_); (focus (first | rfl | (simp; done)))) | ((with_reducible refine ObN.mk ?_ ?_); (focus (first | rfl | assumption | omega | (simp only [List.length_map, List.length_append, List.length_cons, List.length_nil]; omega) | (simp; done) | (simp; omega)))) | (with_reducible refine ObT.tt ?_) | (with_reducible refine ObT.ff ?_) | ((with_reducible refine ObB.yes ?_ ?_); (focus (first | assumption | (with_reducible rfl) | omega))) | ((with_reducible refine ObB.no ?_ ?_); (focus (first | assumption | omega))) | ((with_reducible refine (?_ : ObU _ _)); (refine ObU.mk _ (by first | assumption | ((conv => lhs; simp only [List.set_cons_zero, List.set_cons_succ, List.take_succ_cons, List.take_zero, List.drop_succ_cons, List.drop_zero, List.nil_append, List.cons_append, List.append_nil, List.take_nil, List.drop_nil]); try rfl) | rfl) ?_)) | ((with_reducible refine (?_ : ObR _ _ _)); (first | (refine ObR.mk _ (by assumption) ?_) | (refine ObR.mk _ (by with_reducible rfl) ?_) | (refine ObR.map (by (first | omega | assumption | (simp only [List.length_map, List.length_append, List.length_cons, List.length_nil, List.length_take, List.length_drop, List.length_set, List.length_replicate]; omega))) (fun x hx => ?_)) | (refine ObR.mk _ rfl ?_))) | ((with_reducible refine ObC.f 25 ?_); (first | (with_reducible refine ObC.mk _ (hf) ?_) | (refine ObC.mk _ (hf) ?_))) | ((with_reducible refine ObC.f 36 ?_); (first | (with_reducible refine ObC.mk _ (c36) ?_) | (refine ObC.mk _ (c36) ?_))) | ((with_reducible refine ObC.f 37 ?_); (first | (with_reducible refine ObC.mk _ (c37) ?_) | (refine ObC.mk _ (c37) ?_))) | ((with_reducible refine ObEq.mk ?_); (focus (first | rfl | assumption))))
      by_cases a8 : o = 8
      · subst a8
        refine pc_ofV cop12 ?_
        repeat' ((conv => whnf); first | (with_reducible refine SeqP.go ?_) | ((with_reducible refine ObD.mk ?_ ?_); (focus (first | rfl | (simp; done)))) | ((with_reducible refine ObN.mk ?_ ?_); (focus (first | rfl | assumption | omega | (simp only [List.length_map, List.length_append, List.length_cons, List.length_nil]; omega) | (simp; done) | (simp; omega)))) | (with_reducible refine ObT.tt ?_) | (with_reducible refine ObT.ff ?_) | ((with_reducible refine ObB.yes ?_ ?_); (focus (first | assumption | (with_reducible rfl) | omega))) | ((with_reducible refine ObB.no ?_ ?_); (focus (first | assumption | omega))) | ((with_reducible refine (?_ : ObU _ _)); (refine ObU.mk _ (by first | assumption | ((conv => lhs; simp only [List.set_cons_zero, List.set_cons_succ, List.take_succ_cons, List.take_zero, List.drop_succ_cons, List.drop_zero, List.nil_append, List.cons_append, List.append_nil, List.take_nil, List.drop_nil]); try rfl) | rfl) ?_)) | ((with_reducible refine (?_ : ObR _ _ _)); (first | (refine ObR.mk _ (by assumption) ?_) | (refine ObR.mk _ (by with_reducible rfl) ?_) | (refine ObR.map (by (first | omega | assumption | (simp only [List.length_map, List.length_append, List.length_cons, List.length_nil, List.length_take, List.length_drop, List.length_set, List.length_replicate]; omega))) (fun x hx => ?_)) | (refine ObR.mk _ rfl ?_))) | ((with_reducible refine ObC.f 25 ?_); (first | (with_reducible refine ObC.mk _ (hf) ?_) | (refine ObC.mk _ (hf) ?_))) | ((with_reducible refine ObC.f 36 ?_); (first | (with_reducible refine ObC.mk _ (c36) ?_) | (refine ObC.mk _ (c36) ?_))) | ((with_reducible refine ObC.f 37 ?_); (first | (with_reducible refine ObC.mk _ (c37) ?_) | (refine ObC.mk _ (c37) ?_))) | ((with_reducible refine ObC.f 40 ?_); (first | (with_reducible refine ObC.mk _ ((c40 rfl)) ?_) | (refine ObC.mk _ ((c40 rfl)) ?_))) | ((with_reducible refine ObEq.mk ?_); (focus (first | rfl | assumption))))
      · refine pc_ofV cop12 ?_
        repeat' ((conv => whnf); first | (with_reducible refine SeqP.go ?_) | ((with_reducible refine ObD.mk ?_ ?_); (focus (first | rfl | (simp; done)))) | ((with_reducible refine ObN.mk ?_ ?_); (focus (first | rfl | assumption | omega | (simp only [List.length_map, List.length_append, List.length_cons, List.length_nil]; omega) | (simp; done) | (simp; omega)))) | (with_reducible refine ObT.tt ?_) | (with_reducible refine ObT.ff ?_) | ((with_reducible refine ObB.no ?_ ?_); (focus (first | assumption | omega))) | ((with_reducible refine (?_ : ObU _ _)); (refine ObU.mk _ (by first | assumption | ((conv => lhs; simp only [List.set_cons_zero, List.set_cons_succ, List.take_succ_cons, List.take_zero, List.drop_succ_cons, List.drop_zero, List.nil_append, List.cons_append, List.append_nil, List.take_nil, List.drop_nil]); try rfl) | rfl) ?_)) | ((with_reducible refine (?_ : ObR _ _ _)); (first | (refine ObR.mk _ (by assumption) ?_) | (refine ObR.mk _ (by with_reducible rfl) ?_) | (refine ObR.map (by (first | omega | assumption | (simp only [List.length_map, List.length_append, List.length_cons, List.length_nil, List.length_take, List.length_drop, List.length_set, List.length_replicate]; omega))) (fun x hx => ?_)) | (refine ObR.mk _ rfl ?_))) | ((with_reducible refine ObC.f 25 ?_); (first | (with_reducible refine ObC.mk _ (hf) ?_) | (refine ObC.mk _ (hf) ?_))) | ((with_reducible refine ObC.f 36 ?_); (first | (with_reducible refine ObC.mk _ (c36) ?_) | (refine ObC.mk _ (c36) ?_))) | ((with_reducible refine ObC.f 37 ?_); (first | (with_reducible refine ObC.mk _ (c37) ?_) | (refine ObC.mk _ (c37) ?_))) | ((with_reducible refine ObEq.mk ?_); (focus (first | rfl | assumption))))
    | some w =>
      change PC Tryd.prog tabG 37 [.sl 2 (l.map pA), S x] (.tup [S w, Bo true]) at c37
      have a5 : ¬ o = 5 := fun e => h5 ⟨e, rfl⟩
      by_cases hwy : w = y
      · subst hwy
        by_cases a2 : o = 2
        · subst a2
          refine pc_ofV cop12 ?_
          repeat' ((conv => whnf); first | (with_reducible refine SeqP.go ?_) | ((with_reducible refine ObD.mk ?_ ?_); (focus (first | rfl | (simp; done)))) | ((with_reducible refine ObN.mk ?_ ?_); (focus (first | rfl | assumption | omega | (simp only [List.length_map, List.length_append, List.length_cons, List.length_nil]; omega) | (simp; done) | (simp; omega)))) | (with_reducible refine ObT.tt ?_) | (with_reducible refine ObT.ff ?_) | ((with_reducible refine ObB.yes ?_ ?_); (focus (first | assumption | (with_reducible rfl) | omega))) | ((with_reducible refine ObB.no ?_ ?_); (focus (first | assumption | omega))) | ((with_reducible refine (?_ : ObU _ _)); (refine ObU.mk _ (by first | assumption | ((conv => lhs; simp only [List.set_cons_zero, List.set_cons_succ, List.take_succ_cons, List.take_zero, List.drop_succ_cons, List.drop_zero, List.nil_append, List.cons_append, List.append_nil, List.take_nil, List.drop_nil]); try rfl) | rfl) ?_)) | ((with_reducible refine (?_ : ObR _ _ _)); (first | (refine ObR.mk _ (by assumption) ?_) | (refine ObR.mk _ (by with_reducible rfl) ?_) | (refine ObR.map (by (first | omega | assumption | (simp only [List.length_map, List.length_append, List.length_cons, List.length_nil, List.length_take, List.length_drop, List.length_set, List.length_replicate]; omega))) (fun x hx => ?_)) | (refine ObR.mk _ rfl ?_))) | ((with_reducible refine ObC.f 25 ?_); (first | (with_reducible refine ObC.mk _ (hf) ?_) | (refine ObC.mk _ (hf) ?_))) | ((with_reducible refine ObC.f 36 ?_); (first | (with_reducible refine ObC.mk _ (c36) ?_) | (refine ObC.mk _ (c36) ?_))) | ((with_reducible refine ObC.f 37 ?_); (first | (with_reducible refine ObC.mk _ (c37) ?_) | (refine ObC.mk _ (c37) ?_))) | ((with_reducible refine ObEq.mk ?_); (focus (first | rfl | assumption))))
        by_cases a4 : o = 4
        · subst a4
          by_cases hwz : w = z
          · subst hwz
            refine pc_ofV cop12 ?_
            repeat' ((conv => whnf); first | (with_reducible refine SeqP.go ?_) | ((with_reducible refine ObD.mk ?_ ?_); (focus (first | rfl | (simp; done)))) | ((with_reducible refine ObN.mk ?_ ?_); (focus (first | rfl | assumption | omega | (simp only [List.length_map, List.length_append, List.length_cons, List.length_nil]; omega) | (simp; done) | (simp; omega)))) | (with_reducible refine ObT.tt ?_) | (with_reducible refine ObT.ff ?_) | ((with_reducible refine ObB.yes ?_ ?_); (focus (first | assumption | (with_reducible rfl) | omega))) | ((with_reducible refine ObB.no ?_ ?_); (focus (first | assumption | omega))) | ((with_reducible refine (?_ : ObU _ _)); (refine ObU.mk _ (by first | assumption | ((conv => lhs; simp only [List.set_cons_zero, List.set_cons_succ, List.take_succ_cons, List.take_zero, List.drop_succ_cons, List.drop_zero, List.nil_append, List.cons_append, List.append_nil, List.take_nil, List.drop_nil]); try rfl) | rfl) ?_)) | ((with_reducible refine (?_ : ObR _ _ _)); (first | (refine ObR.mk _ (by assumption) ?_) | (refine ObR.mk _ (by with_reducible rfl) ?_) | (refine ObR.map (by (first | omega | assumption | (simp only [List.length_map, List.length_append, List.length_cons, List.length_nil, List.length_take, List.length_drop, List.length_set, List.length_replicate]; omega))) (fun x hx => ?_)) | (refine ObR.mk _ rfl ?_))) | ((with_reducible refine ObC.f 25 ?_); (first | (with_reducible refine ObC.mk _ (hf) ?_) | (refine ObC.mk _ (hf) ?_))) | ((with_reducible refine ObC.f 36 ?_); (first | (with_reducible refine ObC.mk _ (c36) ?_) | (refine ObC.mk _ (c36) ?_))) | ((with_reducible refine ObC.f 37 ?_); (first | (with_reducible refine ObC.mk _ (c37) ?_) | (refine ObC.mk _ (c37) ?_))) | ((with_reducible refine ObEq.mk ?_); (focus (first | rfl | assumption))))
          · refine pc_ofV cop12 ?_
            repeat' ((conv => whnf); first | (with_reducible refine SeqP.go ?_) | ((with_reducible refine ObD.mk ?_ ?_); (focus (first | rfl | (simp; done)))) | ((with_reducible refine ObN.mk ?_ ?_); (focus (first | rfl | assumption | omega | (simp only [List.length_map, List.length_append, List.length_cons, List.length_nil]; omega) | (simp; done) | (simp; omega)))) | (with_reducible refine ObT.tt ?_) | (with_reducible refine ObT.ff ?_) | ((with_reducible refine ObB.yes ?_ ?_); (focus (first | assumption | (with_reducible rfl) | omega))) | ((with_reducible refine ObB.no ?_ ?_); (focus (first | assumption | omega))) | ((with_reducible refine (?_ : ObU _ _)); (refine ObU.mk _ (by first | assumption | ((conv => lhs; simp only [List.set_cons_zero, List.set_cons_succ, List.take_succ_cons, List.take_zero, List.drop_succ_cons, List.drop_zero, List.nil_append, List.cons_append, List.append_nil, List.take_nil, List.drop_nil]); try rfl) | rfl) ?_)) | ((with_reducible refine (?_ : ObR _ _ _)); (first | (refine ObR.mk _ (by assumption) ?_) | (refine ObR.mk _ (by with_reducible rfl) ?_) | (refine ObR.map (by (first | omega | assumption | (simp only [List.length_map, List.length_append, List.length_cons, List.length_nil, List.length_take, List.length_drop, List.length_set, List.length_replicate]; omega))) (fun x hx => ?_)) | (refine ObR.mk _ rfl ?_))) | ((with_reducible refine ObC.f 25 ?_); (first | (with_reducible refine ObC.mk _ (hf) ?_) | (refine ObC.mk _ (hf) ?_))) | ((with_reducible refine ObC.f 36 ?_); (first | (with_reducible refine ObC.mk _ (c36) ?_) | (refine ObC.mk _ (c36) ?_))) | ((with_reducible refine ObC.f 37 ?_); (first | (with_reducible refine ObC.mk _ (c37) ?_) | (refine ObC.mk _ (c37) ?_))) | ((with_reducible refine ObEq.mk ?_); (focus (first | rfl | assumption))))
        by_cases a3 : o = 3
        · subst a3
          refine pc_ofV cop12 ?_
          repeat' ((conv => whnf); first | (with_reducible refine SeqP.go ?_) | ((with_reducible refine ObD.mk ?_ ?_); (focus (first | rfl | (simp; done)))) | ((with_reducible refine ObN.mk ?_ ?_); (focus (first | rfl | assumption | omega | (simp only [List.length_map, List.length_append, List.length_cons, List.length_nil]; omega) | (simp; done) | (simp; omega)))) | (with_reducible refine ObT.tt ?_) | (with_reducible refine ObT.ff ?_) | ((with_reducible refine ObB.yes ?_ ?_); (focus (first | assumption | (with_reducible rfl) | omega))) | ((with_reducible refine ObB.no ?_ ?_); (focus (first | assumption | omega))) | ((with_reducible refine (?_ : ObU _ _)); (refine ObU.mk _ (by first | assumption | ((conv => lhs; simp only [List.set_cons_zero, List.set_cons_succ, List.take_succ_cons, List.take_zero, List.drop_succ_cons, List.drop_zero, List.nil_append, List.cons_append, List.append_nil, List.take_nil, List.drop_nil]); try rfl) | rfl) ?_)) | ((with_reducible refine (?_ : ObR _ _ _)); (first | (refine ObR.mk _ (by assumption) ?_) | (refine ObR.mk _ (by with_reducible rfl) ?_) | (refine ObR.map (by (first | omega | assumption | (simp only [List.length_map, List.length_append, List.length_cons, List.length_nil, List.length_take, List.length_drop, List.length_set, List.length_replicate]; omega))) (fun x hx => ?_)) | (refine ObR.mk _ rfl ?_))) | ((with_reducible refine ObC.f 25 ?_); (first | (with_reducible refine ObC.mk _ (hf) ?_) | (refine ObC.mk _ (hf) ?_))) | ((with_reducible refine ObC.f 36 ?_); (first | (with_reducible refine ObC.mk _ (c36) ?_) | (refine ObC.mk _ (c36) ?_))) | ((with_reducible refine ObC.f 37 ?_); (first | (with_reducible refine ObC.mk _ (c37) ?_) | (refine ObC.mk _ (c37) ?_))) | ((with_reducible refine ObEq.mk ?_); (focus (first | rfl | assumption))))
        by_cases a8 : o = 8
        · subst a8
          refine pc_ofV cop12 ?_
          repeat' ((conv => whnf); first | (with_reducible refine SeqP.go ?_) | ((with_reducible refine ObD.mk ?_ ?_); (focus (first | rfl | (simp; done)))) | ((with_reducible refine ObN.mk ?_ ?_); (focus (first | rfl | assumption | omega | (simp only [List.length_map, List.length_append, List.length_cons, List.length_nil]; omega) | (simp; done) | (simp; omega)))) | (with_reducible refine ObT.tt ?_) | (with_reducible refine ObT.ff ?_) | ((with_reducible refine ObB.yes ?_ ?_); (focus (first | assumption | (with_reducible rfl) | omega))) | ((with_reducible refine ObB.no ?_ ?_); (focus (first | assumption | omega))) | ((with_reducible refine (?_ : ObU _ _)); (refine ObU.mk _ (by first | assumption | ((conv => lhs; simp only [List.set_cons_zero, List.set_cons_succ, List.take_succ_cons, List.take_zero, List.drop_succ_cons, List.drop_zero, List.nil_append, List.cons_append, List.append_nil, List.take_nil, List.drop_nil]); try rfl) | rfl) ?_)) | ((with_reducible refine (?_ : ObR _ _ _)); (first | (refine ObR.mk _ (by assumption) ?_) | (refine ObR.mk _ (by with_reducible rfl) ?_) | (refine ObR.map (by (first | omega | assumption | (simp only [List.length_map, List.length_append, List.length_cons, List.length_nil, List.length_take, List.length_drop, List.length_set, List.length_replicate]; omega))) (fun x hx => ?_)) | (refine ObR.mk _ rfl ?_))) | ((with_reducible refine ObC.f 25 ?_); (first | (with_reducible refine ObC.mk _ (hf) ?_) | (refine ObC.mk _ (hf) ?_))) | ((with_reducible refine ObC.f 36 ?_); (first | (with_reducible refine ObC.mk _ (c36) ?_) | (refine ObC.mk _ (c36) ?_))) | ((with_reducible refine ObC.f 37 ?_); (first | (with_reducible refine ObC.mk _ (c37) ?_) | (refine ObC.mk _ (c37) ?_))) | ((with_reducible refine ObC.f 40 ?_); (first | (with_reducible refine ObC.mk _ ((c40 rfl)) ?_) | (refine ObC.mk _ ((c40 rfl)) ?_))) | ((with_reducible refine ObEq.mk ?_); (focus (first | rfl | assumption))))
        · refine pc_ofV cop12 ?_
          repeat' ((conv => whnf); first | (with_reducible refine SeqP.go ?_) | ((with_reducible refine ObD.mk ?_ ?_); (focus (first | rfl | (simp; done)))) | ((with_reducible refine ObN.mk ?_ ?_); (focus (first | rfl | assumption | omega | (simp only [List.length_map, List.length_append, List.length_cons, List.length_nil]; omega) | (simp; done) | (simp; omega)))) | (with_reducible refine ObT.tt ?_) | (with_reducible refine ObT.ff ?_) | ((with_reducible refine ObB.no ?_ ?_); (focus (first | assumption | omega))) | ((with_reducible refine (?_ : ObU _ _)); (refine ObU.mk _ (by first | assumption | ((conv => lhs; simp only [List.set_cons_zero, List.set_cons_succ, List.take_succ_cons, List.take_zero, List.drop_succ_cons, List.drop_zero, List.nil_append, List.cons_append, List.append_nil, List.take_nil, List.drop_nil]); try rfl) | rfl) ?_)) | ((with_reducible refine (?_ : ObR _ _ _)); (first | (refine ObR.mk _ (by assumption) ?_) | (refine ObR.mk _ (by with_reducible rfl) ?_) | (refine ObR.map (by (first | omega | assumption | (simp only [List.length_map, List.length_append, List.length_cons, List.length_nil, List.length_take, List.length_drop, List.length_set, List.length_replicate]; omega))) (fun x hx => ?_)) | (refine ObR.mk _ rfl ?_))) | ((with_reducible refine ObC.f 25 ?_); (first | (with_reducible refine ObC.mk _ (hf) ?_) | (refine ObC.mk _ (hf) ?_))) | ((with_reducible refine ObC.f 36 ?_); (first | (with_reducible refine ObC.mk _ (c36) ?_) | (refine ObC.mk _ (c36) ?_))) | ((with_reducible refine ObC.f 37 ?_); (first | (with_reducible refine ObC.mk _ (c37) ?_) | (refine ObC.mk _ (c37) ?_))) | ((with_reducible refine ObEq.mk ?_); (focus (first | rfl | assumption))))
      · have hnp : putsB o (some w) z = false := by
          cases hq : putsB o (some w) z with
          | false => rfl
          | true => exact absurd ⟨hq, fun e => hwy (Option.some.inj e)⟩ hp
        have a2 : ¬ o = 2 := fun e => by simp [putsB, e] at hnp
        by_cases a4 : o = 4
        · subst a4
          have hwz : ¬ w = z := fun e => by simp [putsB, e] at hnp
          refine pc_ofV cop12 ?_
          repeat' ((conv => whnf); first | (with_reducible refine SeqP.go ?_) | ((with_reducible refine ObD.mk ?_ ?_); (focus (first | rfl | (simp; done)))) | ((with_reducible refine ObN.mk ?_ ?_); (focus (first | rfl | assumption | omega | (simp only [List.length_map, List.length_append, List.length_cons, List.length_nil]; omega) | (simp; done) | (simp; omega)))) | (with_reducible refine ObT.tt ?_) | (with_reducible refine ObT.ff ?_) | ((with_reducible refine ObB.yes ?_ ?_); (focus (first | assumption | (with_reducible rfl) | omega))) | ((with_reducible refine ObB.no ?_ ?_); (focus (first | assumption | omega))) | ((with_reducible refine (?_ : ObU _ _)); (refine ObU.mk _ (by first | assumption | ((conv => lhs; simp only [List.set_cons_zero, List.set_cons_succ, List.take_succ_cons, List.take_zero, List.drop_succ_cons, List.drop_zero, List.nil_append, List.cons_append, List.append_nil, List.take_nil, List.drop_nil]); try rfl) | rfl) ?_)) | ((with_reducible refine (?_ : ObR _ _ _)); (first | (refine ObR.mk _ (by assumption) ?_) | (refine ObR.mk _ (by with_reducible rfl) ?_) | (refine ObR.map (by (first | omega | assumption | (simp only [List.length_map, List.length_append, List.length_cons, List.length_nil, List.length_take, List.length_drop, List.length_set, List.length_replicate]; omega))) (fun x hx => ?_)) | (refine ObR.mk _ rfl ?_))) | ((with_reducible refine ObC.f 25 ?_); (first | (with_reducible refine ObC.mk _ (hf) ?_) | (refine ObC.mk _ (hf) ?_))) | ((with_reducible refine ObC.f 36 ?_); (first | (with_reducible refine ObC.mk _ (c36) ?_) | (refine ObC.mk _ (c36) ?_))) | ((with_reducible refine ObC.f 37 ?_); (first | (with_reducible refine ObC.mk _ (c37) ?_) | (refine ObC.mk _ (c37) ?_))) | ((with_reducible refine ObEq.mk ?_); (focus (first | rfl | assumption))))
        by_cases a3 : o = 3
        · subst a3
          refine pc_ofV cop12 ?_
          repeat' ((conv => whnf); first | (with_reducible refine SeqP.go ?_) | ((with_reducible refine ObD.mk ?_ ?_); (focus (first | rfl | (simp; done)))) | ((with_reducible refine ObN.mk ?_ ?_); (focus (first | rfl | assumption | omega | (simp only [List.length_map, List.length_append, List.length_cons, List.length_nil]; omega) | (simp; done) | (simp; omega)))) | (with_reducible refine ObT.tt ?_) | (with_reducible refine ObT.ff ?_) | ((with_reducible refine ObB.yes ?_ ?_); (focus (first | assumption | (with_reducible rfl) | omega))) | ((with_reducible refine ObB.no ?_ ?_); (focus (first | assumption | omega))) | ((with_reducible refine (?_ : ObU _ _)); (refine ObU.mk _ (by first | assumption | ((conv => lhs; simp only [List.set_cons_zero, List.set_cons_succ, List.take_succ_cons, List.take_zero, List.drop_succ_cons, List.drop_zero, List.nil_append, List.cons_append, List.append_nil, List.take_nil, List.drop_nil]); try rfl) | rfl) ?_)) | ((with_reducible refine (?_ : ObR _ _ _)); (first | (refine ObR.mk _ (by assumption) ?_) | (refine ObR.mk _ (by with_reducible rfl) ?_) | (refine ObR.map (by (first | omega | assumption | (simp only [List.length_map, List.length_append, List.length_cons, List.length_nil, List.length_take, List.length_drop, List.length_set, List.length_replicate]; omega))) (fun x hx => ?_)) | (refine ObR.mk _ rfl ?_))) | ((with_reducible refine ObC.f 25 ?_); (first | (with_reducible refine ObC.mk _ (hf) ?_) | (refine ObC.mk _ (hf) ?_))) | ((with_reducible refine ObC.f 36 ?_); (first | (with_reducible refine ObC.mk _ (c36) ?_) | (refine ObC.mk _ (c36) ?_))) | ((with_reducible refine ObC.f 37 ?_); (first | (with_reducible refine ObC.mk _ (c37) ?_) | (refine ObC.mk _ (c37) ?_))) | ((with_reducible refine ObEq.mk ?_); (focus (first | rfl | assumption))))
        by_cases a8 : o = 8
        · subst a8
          refine pc_ofV cop12 ?_
          repeat' ((conv => whnf); first | (with_reducible refine SeqP.go ?_) | ((with_reducible refine ObD.mk ?_ ?_); (focus (first | rfl | (simp; done)))) | ((with_reducible refine ObN.mk ?_ ?_); (focus (first | rfl | assumption | omega | (simp only [List.length_map, List.length_append, List.length_cons, List.length_nil]; omega) | (simp; done) | (simp; omega)))) | (with_reducible refine ObT.tt ?_) | (with_reducible refine ObT.ff ?_) | ((with_reducible refine ObB.yes ?_ ?_); (focus (first | assumption | (with_reducible rfl) | omega))) | ((with_reducible refine ObB.no ?_ ?_); (focus (first | assumption | omega))) | ((with_reducible refine (?_ : ObU _ _)); (refine ObU.mk _ (by first | assumption | ((conv => lhs; simp only [List.set_cons_zero, List.set_cons_succ, List.take_succ_cons, List.take_zero, List.drop_succ_cons, List.drop_zero, List.nil_append, List.cons_append, List.append_nil, List.take_nil, List.drop_nil]); try rfl) | rfl) ?_)) | ((with_reducible refine (?_ : ObR _ _ _)); (first | (refine ObR.mk _ (by assumption) ?_) | (refine ObR.mk _ (by with_reducible rfl) ?_) | (refine ObR.map (by (first | omega | assumption | (simp only [List.length_map, List.length_append, List.length_cons, List.length_nil, List.length_take, List.length_drop, List.length_set, List.length_replicate]; omega))) (fun x hx => ?_)) | (refine ObR.mk _ rfl ?_))) | ((with_reducible refine ObC.f 25 ?_); (first | (with_reducible refine ObC.mk _ (hf) ?_) | (refine ObC.mk _ (hf) ?_))) | ((with_reducible refine ObC.f 36 ?_); (first | (with_reducible refine ObC.mk _ (c36) ?_) | (refine ObC.mk _ (c36) ?_))) | ((with_reducible refine ObC.f 37 ?_); (first | (with_reducible refine ObC.mk _ (c37) ?_) | (refine ObC.mk _ (c37) ?_))) | ((with_reducible refine ObC.f 40 ?_); (first | (with_reducible refine ObC.mk _ ((c40 rfl)) ?_) | (refine ObC.mk _ ((c40 rfl)) ?_))) | ((with_reducible refine ObEq.mk ?_); (focus (first | rfl | assumption))))
        · refine pc_ofV cop12 ?_
          repeat' ((conv => whnf); first | (with_reducible refine SeqP.go ?_) | ((with_reducible refine ObD.mk ?_ ?_); (focus (first | rfl | (simp; done)))) | ((with_reducible refine ObN.mk ?_ ?_); (focus (first | rfl | assumption | omega | (simp only [List.length_map, List.length_append, List.length_cons, List.length_nil]; omega) | (simp; done) | (simp; omega)))) | (with_reducible refine ObT.tt ?_) | (with_reducible refine ObT.ff ?_) | ((with_reducible refine ObB.no ?_ ?_); (focus (first | assumption | omega))) | ((with_reducible refine (?_ : ObU _ _)); (refine ObU.mk _ (by first | assumption | ((conv => lhs; simp only [List.set_cons_zero, List.set_cons_succ, List.take_succ_cons, List.take_zero, List.drop_succ_cons, List.drop_zero, List.nil_append, List.cons_append, List.append_nil, List.take_nil, List.drop_nil]); try rfl) | rfl) ?_)) | ((with_reducible refine (?_ : ObR _ _ _)); (first | (refine ObR.mk _ (by assumption) ?_) | (refine ObR.mk _ (by with_reducible rfl) ?_) | (refine ObR.map (by (first | omega | assumption | (simp only [List.length_map, List.length_append, List.length_cons, List.length_nil, List.length_take, List.length_drop, List.length_set, List.length_replicate]; omega))) (fun x hx => ?_)) | (refine ObR.mk _ rfl ?_))) | ((with_reducible refine ObC.f 25 ?_); (first | (with_reducible refine ObC.mk _ (hf) ?_) | (refine ObC.mk _ (hf) ?_))) | ((with_reducible refine ObC.f 36 ?_); (first | (with_reducible refine ObC.mk _ (c36) ?_) | (refine ObC.mk _ (c36) ?_))) | ((with_reducible refine ObC.f 37 ?_); (first | (with_reducible refine ObC.mk _ (c37) ?_) | (refine ObC.mk _ (c37) ?_))) | ((with_reducible refine ObEq.mk ?_); (focus (first | rfl | assumption))))
end
end Go.Proofs.YtgpldekhcojimaaDoor.Sim

namespace Go.Proofs.YtgpldekhcojimaaDoor.Sim
set_option maxRecDepth 100000
/-- boscage/model.After -/
def C12 : AF := (AF.mk 112 [(6, (some (true, 2))), (7, none)] (AC.seq (AC.region [(AI.mk (some 3) (AOp.new 23 5 (AX.t 0)) none), (AI.mk (some 4) (AOp.new 39 2 (AX.t 1)) none), (AI.mk (some 5) (AOp.new 29 5 (AX.t 2)) none), (AI.mk (some 6) (AOp.new 39 2 (AX.c (AV.agg [(AV.nl 2), (AV.nl 2)]))) none), (AI.mk (some 7) (AOp.mv (AX.c (AV.v (Value.bool false)))) none)]) (AC.seq (AC.region [(AI.mk (some 12) (AOp.load true 2 (AX.t 4)) none), (AI.mk (some 13) (AOp.callh 36 [(AX.t 12)]) none), (AI.mk (some 8) (AOp.new 39 2 (AX.c (AV.agg [(AV.nl 2), (AV.nl 2)]))) none), (AI.mk none (AOp.store 2 (AX.t 8) (AX.t 13)) none)]) (AC.seq (AC.seq (AC.region [(AI.mk (some 14) (AOp.load true 5 (AX.t 3)) none), (AI.mk (some 15) (AOp.load true 5 (AX.t 5)) none), (AI.mk (some 16) (AOp.call 25 [(AX.t 14), (AX.t 15)]) none), (AI.mk (some 17) (AOp.un UnOp.not (AX.t 16)) none)]) (AC.cond (AX.t 17) (AC.seq (AC.region [(AI.mk (some 18) (AOp.load true 2 (AX.t 8)) none), (AI.mk none (AOp.store 2 (AX.t 6) (AX.t 18)) none), (AI.mk (some 7) (AOp.mv (AX.c (AV.v (Value.bool false)))) none)]) AC.ret) AC.skip)) (AC.seq (AC.region [(AI.mk (some 20) (AOp.fad 0 (AX.t 4)) none), (AI.mk (some 21) (AOp.load false 1 (AX.t 20)) none), (AI.mk (some 22) (AOp.fad 1 (AX.t 5)) none), (AI.mk (some 23) (AOp.load false 1 (AX.t 22)) none), (AI.mk (some 24) (AOp.call 37 [(AX.t 21), (AX.t 23)]) none), (AI.mk (some 19) (AOp.mv (AX.t 24)) none), (AI.mk (some 25) (AOp.ext (AX.t 19) 0) none), (AI.mk (some 26) (AOp.ext (AX.t 19) 1) none), (AI.mk (some 9) (AOp.mv (AX.t 25)) none), (AI.mk (some 10) (AOp.mv (AX.t 26)) none)]) (AC.seq (AC.region [(AI.mk (some 27) (AOp.fad 0 (AX.t 5)) none), (AI.mk (some 28) (AOp.load false 1 (AX.t 27)) none), (AI.mk (some 29) (AOp.bin BinOp.eql 3 false (Operand.tmp 28) (Operand.const (Value.int IntKind.i64 2)) (AX.t 28) (AX.c (AV.v (Value.int IntKind.i64 2)))) none), (AI.mk (some 30) (AOp.mv (AX.t 29)) none), (AI.mk (some 31) (AOp.fad 0 (AX.t 5)) (some (30, false))), (AI.mk (some 32) (AOp.load false 1 (AX.t 31)) (some (30, false))), (AI.mk (some 33) (AOp.bin BinOp.eql 3 false (Operand.tmp 32) (Operand.const (Value.int IntKind.i64 3)) (AX.t 32) (AX.c (AV.v (Value.int IntKind.i64 3)))) (some (30, false))), (AI.mk (some 34) (AOp.mv (AX.t 33)) (some (30, false))), (AI.mk (some 35) (AOp.mv (AX.t 10)) (some (34, true))), (AI.mk (some 36) (AOp.un UnOp.not (AX.t 35)) (some (34, true))), (AI.mk (some 37) (AOp.pick (AX.t 34) (AX.t 36) (AX.c (AV.v (Value.bool false)))) (some (30, false))), (AI.mk (some 38) (AOp.pick (AX.t 30) (AX.c (AV.v (Value.bool true))) (AX.t 37)) none), (AI.mk (some 39) (AOp.mv (AX.t 38)) none), (AI.mk (some 40) (AOp.fad 0 (AX.t 5)) (some (39, false))), (AI.mk (some 41) (AOp.load false 1 (AX.t 40)) (some (39, false))), (AI.mk (some 42) (AOp.bin BinOp.eql 3 false (Operand.tmp 41) (Operand.const (Value.int IntKind.i64 4)) (AX.t 41) (AX.c (AV.v (Value.int IntKind.i64 4)))) (some (39, false))), (AI.mk (some 43) (AOp.mv (AX.t 42)) (some (39, false))), (AI.mk (some 44) (AOp.mv (AX.t 10)) (some (43, true))), (AI.mk (some 45) (AOp.pick (AX.t 43) (AX.t 44) (AX.c (AV.v (Value.bool false)))) (some (39, false))), (AI.mk (some 46) (AOp.mv (AX.t 45)) (some (39, false))), (AI.mk (some 47) (AOp.mv (AX.t 9)) (some (46, true))), (AI.mk (some 48) (AOp.fad 3 (AX.t 5)) (some (46, true))), (AI.mk (some 49) (AOp.load false 1 (AX.t 48)) (some (46, true))), (AI.mk (some 50) (AOp.bin BinOp.eql 9 false (Operand.tmp 47) (Operand.tmp 49) (AX.t 47) (AX.t 49)) (some (46, true))), (AI.mk (some 51) (AOp.pick (AX.t 46) (AX.t 50) (AX.c (AV.v (Value.bool false)))) (some (39, false))), (AI.mk (some 52) (AOp.pick (AX.t 39) (AX.c (AV.v (Value.bool true))) (AX.t 51)) none), (AI.mk (some 11) (AOp.mv (AX.t 52)) none)]) (AC.seq (AC.block 0 (AC.seq (AC.region [(AI.mk (some 55) (AOp.mv (AX.t 11)) none), (AI.mk (some 56) (AOp.mv (AX.t 55)) none), (AI.mk (some 57) (AOp.mv (AX.t 10)) (some (56, true))), (AI.mk (some 58) (AOp.mv (AX.t 57)) (some (56, true))), (AI.mk (some 59) (AOp.mv (AX.t 9)) (some (58, true))), (AI.mk (some 60) (AOp.fad 2 (AX.t 5)) (some (58, true))), (AI.mk (some 61) (AOp.load false 1 (AX.t 60)) (some (58, true))), (AI.mk (some 62) (AOp.bin BinOp.eql 9 false (Operand.tmp 59) (Operand.tmp 61) (AX.t 59) (AX.t 61)) (some (58, true))), (AI.mk (some 63) (AOp.pick (AX.t 58) (AX.t 62) (AX.c (AV.v (Value.bool false)))) (some (56, true))), (AI.mk (some 64) (AOp.un UnOp.not (AX.t 63)) (some (56, true))), (AI.mk (some 65) (AOp.pick (AX.t 56) (AX.t 64) (AX.c (AV.v (Value.bool false)))) none), (AI.mk (some 54) (AOp.mv (AX.t 65)) none)]) (AC.cond (AX.t 54) (AC.region [(AI.mk (some 66) (AOp.fad 0 (AX.t 4)) none), (AI.mk (some 67) (AOp.load false 1 (AX.t 66)) none), (AI.mk (some 68) (AOp.fad 1 (AX.t 5)) none), (AI.mk (some 69) (AOp.load false 1 (AX.t 68)) none), (AI.mk (some 70) (AOp.fad 2 (AX.t 5)) none), (AI.mk (some 71) (AOp.load false 1 (AX.t 70)) none), (AI.mk (some 72) (AOp.call 38 [(AX.t 67), (AX.t 69), (AX.t 71)]) none), (AI.mk (some 73) (AOp.fad 0 (AX.t 8)) none), (AI.mk none (AOp.store 1 (AX.t 73) (AX.t 72)) none)]) (AC.seq (AC.region [(AI.mk (some 75) (AOp.fad 0 (AX.t 5)) none), (AI.mk (some 76) (AOp.load false 1 (AX.t 75)) none), (AI.mk (some 77) (AOp.bin BinOp.eql 3 false (Operand.tmp 76) (Operand.const (Value.int IntKind.i64 5)) (AX.t 76) (AX.c (AV.v (Value.int IntKind.i64 5)))) none), (AI.mk (some 78) (AOp.mv (AX.t 77)) none), (AI.mk (some 79) (AOp.mv (AX.t 10)) (some (78, true))), (AI.mk (some 80) (AOp.pick (AX.t 78) (AX.t 79) (AX.c (AV.v (Value.bool false)))) none), (AI.mk (some 74) (AOp.mv (AX.t 80)) none)]) (AC.cond (AX.t 74) (AC.region [(AI.mk (some 81) (AOp.fad 0 (AX.t 4)) none), (AI.mk (some 82) (AOp.load false 1 (AX.t 81)) none), (AI.mk (some 83) (AOp.fad 1 (AX.t 5)) none), (AI.mk (some 84) (AOp.load false 1 (AX.t 83)) none), (AI.mk (some 85) (AOp.call 39 [(AX.t 82), (AX.t 84)]) none), (AI.mk (some 86) (AOp.fad 0 (AX.t 8)) none), (AI.mk none (AOp.store 1 (AX.t 86) (AX.t 85)) none)]) (AC.seq (AC.region [(AI.mk (some 88) (AOp.fad 0 (AX.t 5)) none), (AI.mk (some 89) (AOp.load false 1 (AX.t 88)) none), (AI.mk (some 90) (AOp.bin BinOp.eql 3 false (Operand.tmp 89) (Operand.const (Value.int IntKind.i64 8)) (AX.t 89) (AX.c (AV.v (Value.int IntKind.i64 8)))) none), (AI.mk (some 91) (AOp.mv (AX.t 90)) none), (AI.mk (some 92) (AOp.load true 2 (AX.t 4)) (some (91, true))), (AI.mk (some 93) (AOp.fad 4 (AX.t 5)) (some (91, true))), (AI.mk (some 94) (AOp.load false 1 (AX.t 93)) (some (91, true))), (AI.mk (some 95) (AOp.call 40 [(AX.t 92), (AX.t 94)]) (some (91, true))), (AI.mk (some 96) (AOp.bin BinOp.geq 3 false (Operand.tmp 95) (Operand.const (Value.int IntKind.i64 0)) (AX.t 95) (AX.c (AV.v (Value.int IntKind.i64 0)))) (some (91, true))), (AI.mk (some 97) (AOp.pick (AX.t 91) (AX.t 96) (AX.c (AV.v (Value.bool false)))) none), (AI.mk (some 87) (AOp.mv (AX.t 97)) none)]) (AC.cond (AX.t 87) (AC.draw [(AI.mk (some 98) (AOp.fad 1 (AX.t 8)) none), (AI.mk (some 99) (AOp.load false 1 (AX.t 98)) none), (AI.mk (some 100) (AOp.load true 2 (AX.t 4)) none), (AI.mk (some 101) (AOp.fad 4 (AX.t 5)) none), (AI.mk (some 102) (AOp.load false 1 (AX.t 101)) none), (AI.mk (some 103) (AOp.call 40 [(AX.t 100), (AX.t 102)]) none), (AI.mk (some 104) (AOp.load true 2 (AX.t 4)) none), (AI.mk (some 105) (AOp.fad 4 (AX.t 5)) none), (AI.mk (some 106) (AOp.load false 1 (AX.t 105)) none), (AI.mk (some 107) (AOp.call 40 [(AX.t 104), (AX.t 106)]) none), (AI.mk (some 108) (AOp.bin BinOp.add 3 false (Operand.tmp 107) (Operand.const (Value.int IntKind.i64 1)) (AX.t 107) (AX.c (AV.v (Value.int IntKind.i64 1)))) none), (AI.mk (some 109) (AOp.callh 41 [(AX.t 99), (AX.t 103), (AX.t 108)]) none), (AI.mk (some 110) (AOp.fad 1 (AX.t 8)) none), (AI.mk none (AOp.store 1 (AX.t 110) (AX.t 109)) none)]) (AC.seq (AC.region [(AI.mk (some 53) (AOp.load true 2 (AX.t 8)) none), (AI.mk none (AOp.store 2 (AX.t 6) (AX.t 53)) none), (AI.mk (some 7) (AOp.mv (AX.c (AV.v (Value.bool false)))) none)]) AC.ret)))))))) (AC.seq (AC.region [(AI.mk (some 111) (AOp.load true 2 (AX.t 8)) none), (AI.mk none (AOp.store 2 (AX.t 6) (AX.t 111)) none), (AI.mk (some 7) (AOp.mv (AX.c (AV.v (Value.bool true)))) none)]) AC.ret))))))))
theorem kop12 : copF Tryd.prog [36,41,60,65,66,68,79,87,90,97,101,102,103,104] 12 = some C12 := by kernel_rfl
end Go.Proofs.YtgpldekhcojimaaDoor.Sim

namespace Go.Proofs.YtgpldekhcojimaaDoor.Sim
open Go.RowKit
set_option maxRecDepth 100000
set_option linter.unusedSimpArgs false
set_option linter.unusedVariables false
open Pr7
theorem er_map (H : List Hd) (j : Nat) (hj : j < H.length) : ((H.map hA).take j ++ ((H.map hA).take H.length).drop (j + 1)).take (H.length - 1) = (H.eraseIdx j).map hA := by
  have e1 : (H.map hA).take H.length = H.map hA := List.take_of_length_le (by simp)
  have e2 : ((H.map hA).take j ++ (H.map hA).drop (j + 1)).length = H.length - 1 := by simp; omega
  rw [e1, List.take_of_length_le (Nat.le_of_eq e2), List.eraseIdx_eq_take_drop_succ, List.map_append, List.map_take, List.map_drop]
section
variable (k s t h b : Int) (l : List Pr) (H : List Hd) (x y z : ByteArray) (i : Int)
set_option maxHeartbeats 4000000 in
theorem aft_8 (ok : Cu l H) (hf : PC Tryd.prog tabG 25 [cA k s t h b, xA 8 x y z i] (Bo true)) (v : Option ByteArray)
    (c37 : PC Tryd.prog tabG 37 [.sl 2 (l.map pA), S x] (.tup [S (v.getD ⟨#[]⟩), Bo v.isSome])) (j : Nat) (hj : j < H.length) (c40 : PC Tryd.prog tabG 40 [sA l H, I i] (I j)) :
    PC Tryd.prog tabG 12 [cA k s t h b, sA l H, xA 8 x y z i] (.tup [sA l (H.eraseIdx j), Bo true]) := by
  have h6 := ok.h0
  have hH0 : H ≠ [] := fun e => by rw [e] at hj; simp at hj
  have c36 := cl36r tabG l H ok hH0
  have ue := er_map H j hj
  have up : (((H.map hA).take j ++ ((H.map hA).take H.length).drop (j + 1)).take (H.length - 1)).all AV.isP = true := by rw [ue]; exact p_h _
  have up2 := p_h (H.eraseIdx j)
  have ul : ((H.map hA).take j ++ ((H.map hA).take H.length).drop (j + 1)).length = H.length - 1 := by simp; omega
  have nh := nr_h H
  have hl1 : (H.map hA).length = H.length := List.length_map _
  have hjm : (0 : Int) ≤ (j : Int) := by omega
  cases v with
  | none =>
    change PC Tryd.prog tabG 37 [.sl 2 (l.map pA), S x] (.tup [S ⟨#[]⟩, Bo false]) at c37
    refine pc_ofV kop12 ?_
    repeat' ((conv => whnf); first | (with_reducible refine SeqP.go ?_) | ((with_reducible refine ObD.mk ?_ ?_); (focus (first | rfl | (simp; done)))) | ((with_reducible refine ObN.mk ?_ ?_); (focus (first | rfl | assumption | omega | (simp only [List.length_map, List.length_append, List.length_cons, List.length_nil]; omega) | (simp; done) | (simp; omega)))) | (with_reducible refine ObT.tt ?_) | (with_reducible refine ObT.ff ?_) | ((with_reducible refine ObB.yes ?_ ?_); (focus (first | assumption | (with_reducible rfl) | omega))) | ((with_reducible refine ObB.no ?_ ?_); (focus (first | assumption | omega))) | ((with_reducible refine ObI.nl ?_ ?_); (focus omega)) | ((with_reducible refine (?_ : ObU _ _)); (refine ObU.mk _ (by first | exact ue | assumption | ((conv => lhs; simp only [List.set_cons_zero, List.set_cons_succ, List.take_succ_cons, List.take_zero, List.drop_succ_cons, List.drop_zero, List.nil_append, List.cons_append, List.append_nil, List.take_nil, List.drop_nil]); try rfl) | rfl) ?_)) | ((with_reducible refine (?_ : ObR _ _ _)); (first | (refine ObR.mk _ (by assumption) ?_) | (refine ObR.mk _ (by with_reducible rfl) ?_) | (refine ObR.map (by (first | omega | assumption | (simp only [List.length_map, List.length_append, List.length_cons, List.length_nil, List.length_take, List.length_drop, List.length_set, List.length_replicate]; omega))) (fun x hx => ?_)) | (refine ObR.mk _ rfl ?_))) | ((with_reducible refine ObC.f 25 ?_); (first | (with_reducible refine ObC.mk _ (hf) ?_) | (refine ObC.mk _ (hf) ?_))) | ((with_reducible refine ObH.f 36 ?_); refine ObH.frn _ (by simp only [List.length_cons, List.length_nil, Nat.reduceAdd]; rfl) [] (c36) (by simp) rfl (by simp) ?_) | ((with_reducible refine ObC.f 37 ?_); (first | (with_reducible refine ObC.mk _ (c37) ?_) | (refine ObC.mk _ (c37) ?_))) | ((with_reducible refine ObC.f 40 ?_); (first | (with_reducible refine ObC.mk _ (c40) ?_) | (refine ObC.mk _ (c40) ?_))) | ((with_reducible refine ObH.f 41 ?_); (first | (with_reducible refine ObH.mk _ _ ((del41 tabG _ _ _ _ j _ rfl hj (by simp) (by simp; omega))) ?_) | (refine ObH.mk _ _ ((del41 tabG _ _ _ _ j _ rfl hj (by simp) (by simp; omega))) ?_))) | ((with_reducible refine ObEq.mk ?_); (focus (first | rfl | assumption))) | ((with_reducible refine ObAs.mk ?_ ?_); (focus (first | rfl | (simp [rnB, rnC, rnL]; done)))) | ((with_reducible refine (?_ : ObRs _ _ _)); (refine ObRs.mk _ rfl ?_)) | ((with_reducible refine ObBk.same ?_ ?_); (focus (first | rfl | assumption | (simp; done)))))
  | some w =>
    change PC Tryd.prog tabG 37 [.sl 2 (l.map pA), S x] (.tup [S w, Bo true]) at c37
    refine pc_ofV kop12 ?_
    repeat' ((conv => whnf); first | (with_reducible refine SeqP.go ?_) | ((with_reducible refine ObD.mk ?_ ?_); (focus (first | rfl | (simp; done)))) | ((with_reducible refine ObN.mk ?_ ?_); (focus (first | rfl | assumption | omega | (simp only [List.length_map, List.length_append, List.length_cons, List.length_nil]; omega) | (simp; done) | (simp; omega)))) | (with_reducible refine ObT.tt ?_) | (with_reducible refine ObT.ff ?_) | ((with_reducible refine ObB.yes ?_ ?_); (focus (first | assumption | (with_reducible rfl) | omega))) | ((with_reducible refine ObB.no ?_ ?_); (focus (first | assumption | omega))) | ((with_reducible refine ObI.nl ?_ ?_); (focus omega)) | ((with_reducible refine (?_ : ObU _ _)); (refine ObU.mk _ (by first | exact ue | assumption | ((conv => lhs; simp only [List.set_cons_zero, List.set_cons_succ, List.take_succ_cons, List.take_zero, List.drop_succ_cons, List.drop_zero, List.nil_append, List.cons_append, List.append_nil, List.take_nil, List.drop_nil]); try rfl) | rfl) ?_)) | ((with_reducible refine (?_ : ObR _ _ _)); (first | (refine ObR.mk _ (by assumption) ?_) | (refine ObR.mk _ (by with_reducible rfl) ?_) | (refine ObR.map (by (first | omega | assumption | (simp only [List.length_map, List.length_append, List.length_cons, List.length_nil, List.length_take, List.length_drop, List.length_set, List.length_replicate]; omega))) (fun x hx => ?_)) | (refine ObR.mk _ rfl ?_))) | ((with_reducible refine ObC.f 25 ?_); (first | (with_reducible refine ObC.mk _ (hf) ?_) | (refine ObC.mk _ (hf) ?_))) | ((with_reducible refine ObH.f 36 ?_); refine ObH.frn _ (by simp only [List.length_cons, List.length_nil, Nat.reduceAdd]; rfl) [] (c36) (by simp) rfl (by simp) ?_) | ((with_reducible refine ObC.f 37 ?_); (first | (with_reducible refine ObC.mk _ (c37) ?_) | (refine ObC.mk _ (c37) ?_))) | ((with_reducible refine ObC.f 40 ?_); (first | (with_reducible refine ObC.mk _ (c40) ?_) | (refine ObC.mk _ (c40) ?_))) | ((with_reducible refine ObH.f 41 ?_); (first | (with_reducible refine ObH.mk _ _ ((del41 tabG _ _ _ _ j _ rfl hj (by simp) (by simp; omega))) ?_) | (refine ObH.mk _ _ ((del41 tabG _ _ _ _ j _ rfl hj (by simp) (by simp; omega))) ?_))) | ((with_reducible refine ObEq.mk ?_); (focus (first | rfl | assumption))) | ((with_reducible refine ObAs.mk ?_ ?_); (focus (first | rfl | (simp [rnB, rnC, rnL]; done)))) | ((with_reducible refine (?_ : ObRs _ _ _)); (refine ObRs.mk _ rfl ?_)) | ((with_reducible refine ObBk.same ?_ ?_); (focus (first | rfl | assumption | (simp; done)))))
end
end Go.Proofs.YtgpldekhcojimaaDoor.Sim

namespace Go.Proofs.YtgpldekhcojimaaDoor.Sim
open Go.RowKit
set_option maxRecDepth 100000
set_option linter.unusedSimpArgs false
set_option linter.unusedVariables false
open Pr7
theorem fx_lt {H : List Hd} {id : Int} {j : Nat} (h : fx H id = some j) : ∃ hj : j < H.length, H[j].1 = id := by
  unfold fx at h
  rw [List.findIdx?_eq_some_iff_getElem] at h
  obtain ⟨h1, h2, _⟩ := h
  exact ⟨h1, by simpa using h2⟩
theorem fx_cons (a : Hd) (t : List Hd) (id : Int) : fx (a :: t) id = if a.1 = id then some 0 else (fx t id).map (· + 1) := by
  unfold fx
  rw [List.findIdx?_cons]
  by_cases h : a.1 = id <;> simp [h]
theorem at_cons (a : Hd) (t : List Hd) (id : Int) : atV (a :: t) id = if a.1 = id then (a.2, true) else atV t id := by
  unfold atV
  rw [fx_cons]
  by_cases h : a.1 = id
  · rw [if_pos h, if_pos h]; rfl
  · rw [if_neg h, if_neg h]
    cases fx t id <;> rfl
/-- What is held with another number stays. -/
theorem at_erase {id i : Int} (hne : ¬ i = id) : ∀ {H : List Hd} {j : Nat} (hj : j < H.length), H[j].1 = i → atV (H.eraseIdx j) id = atV H id := by
  intro H
  induction H with
  | nil => intro j hj; simp at hj
  | cons a t ih =>
    intro j hj e
    cases j with
    | zero =>
      have e' : a.1 = i := e
      rw [List.eraseIdx_cons_zero, at_cons, if_neg (by rw [e']; exact hne)]
    | succ j =>
      rw [List.eraseIdx_cons_succ, at_cons, at_cons, ih (by simpa using hj) (by simpa using e)]
theorem at_mem {H : List Hd} {id : Int} {P : List Pr → Prop} (h0 : P []) (h : ∀ x ∈ H, P x.2) : P (atV H id).1 := by
  unfold atV
  cases hf : fx H id with
  | none => exact h0
  | some j =>
    obtain ⟨hj, _⟩ := fx_lt hf
    dsimp only
    rw [List.getD_eq_getElem?_getD, List.getElem?_eq_getElem hj]
    exact h _ (List.getElem_mem hj)
theorem cl36 (l : List Pr) (H : List Hd) (ok : Cu l H) : PC Tryd.prog tabG 36 [sA l H] (sA l H) := by
  by_cases e : H = []
  · subst e; exact cl36b tabG l ok
  · exact cl36a tabG l H ok e
section
variable (k s t h b : Int) (hk : i64 k) (hs : i64 s) (ht : i64 t) (hh : i64 h) (hb : i64 b) (l : List Pr) (H : List Hd) (ok : Cu l H) (o : Int) (x y z : ByteArray) (i : Int) (ho : i64 o) (hi : i64 i) (hx : x.size ≤ 40) (hy : y.size ≤ 40) (hz : z.size ≤ 40)
include hk hs ht hh hb ok ho hi hx hy hz
/-- The state behind a call, as_ the program has it. -/
theorem after_all : ∃ (L' : List Pr) (H' : List Hd) (ch : Bool), PC Tryd.prog tabG 12 [cA k s t h b, sA l H, xA o x y z i] (.tup [sA L' H', Bo ch]) ∧ (ch = false → L' = l ∧ H' = H) ∧ (H' = H ∨ o = 8 ∧ ∃ j, fx H i = some j ∧ H' = H.eraseIdx j) := by
  have c36 := cl36 l H ok
  have hf := fits25 k s t h b o x y z i hk hs ht hh hb ho hi (by omega) (by omega) (by omega) _ rfl
  generalize fOk k s t h b o x y z i = f at hf
  cases f
  · exact ⟨l, H, false, aft_no k s t h b l H o x y z i hf c36, fun _ => ⟨rfl, rfl⟩, .inl rfl⟩
  · have hM := Pr7.hM tabG
    have c37 := get9 tabG hM l ok.l1 ok.l0 x (by omega)
    have c38 := put17 tabG hM l ok.l1 ok.l0 x y (by omega)
    have c39 := drop19 tabG hM l ok.l1 ok.l0 x (by omega)
    have c40 := holds40 tabG l H (by have := ok.h0; omega) i
    generalize val l x = v at *
    by_cases h8 : o = 8 ∧ ∃ j, fx H i = some j
    · obtain ⟨rfl, j, hj⟩ := h8
      obtain ⟨hjl, _⟩ := fx_lt hj
      have e : hix H i = (j : Int) := by unfold hix; rw [hj]
      rw [e] at c40
      exact ⟨l, H.eraseIdx j, true, aft_8 k s t h b l H x y z i ok hf v c37 j hjl c40, fun h => by simp at h, .inr ⟨rfl, j, hj, rfl⟩⟩
    · by_cases o8 : o = 8
      · have hn : fx H i = none := by
          cases hq : fx H i with
          | none => rfl
          | some j => exact absurd ⟨o8, j, hq⟩ h8
        have e : hix H i = -1 := by unfold hix; rw [hn]
        rw [e] at c40
        obtain ⟨_, _, a3⟩ := aft_12 k s t h b l H o x y z i hf c36 v c37 _ _ c38 c39 (fun _ => c40)
        exact ⟨l, H, false, a3 (fun h => by subst o8; simp [putsB] at h) (fun h => by omega), fun _ => ⟨rfl, rfl⟩, .inl rfl⟩
      · obtain ⟨a1, a2, a3⟩ := aft_12 k s t h b l H o x y z i hf c36 v c37 _ _ c38 c39 (fun e => absurd e o8)
        by_cases hp : putsB o v z = true ∧ v ≠ some y
        · exact ⟨_, H, true, a1 hp.1 hp.2, fun h => by simp at h, .inl rfl⟩
        · by_cases h5 : o = 5 ∧ v.isSome = true
          · exact ⟨_, H, true, a2 h5.1 h5.2, fun h => by simp at h, .inl rfl⟩
          · exact ⟨l, H, false, a3 hp h5, fun _ => ⟨rfl, rfl⟩, .inl rfl⟩
end
set_option maxHeartbeats 4000000 in
theorem lawKeeps (k s t h b : Int) (hk : i64 k) (hs : i64 s) (ht : i64 t) (hh : i64 h) (hb : i64 b) (l : List Pr) (H : List Hd) (ok : SOk l H) (o : Int) (x y z : ByteArray) (i : Int) (ho : i64 o) (hi : i64 i) (hx : x.size ≤ 9223372036854775807) (hy : y.size ≤ 9223372036854775807) (hz : z.size ≤ 9223372036854775807) (id : Int) : PC Tryd.prog tabG 6 [cA k s t h b, sA l H, xA o x y z i, I id] (Bo true) := by
  have w := works18
  have c7 := few7S tabG l H ok
  have c8 := short8 tabG o x y z i hx hy hz
  have cu := cu_few l H
  have zx := cutB_size x
  have zy := cutB_size y
  have zz := cutB_size z
  generalize few l = l' at *
  generalize fH (H.take 6) = H' at *
  generalize cutB x 40 = x' at *
  generalize cutB y 40 = y' at *
  generalize cutB z 40 = z' at *
  have c10 := give10' tabG cu
  obtain ⟨L, K, ch, c12, f1, f2⟩ := after_all k s t h b hk hs ht hh hb l' H' cu o x' y' z' i ho hi zx zy zz
  have h6 := cu.h0
  have hK : K.length ≤ 1000000 := by
    rcases f2 with rfl | ⟨_, j, _, rfl⟩
    · omega
    · have := List.length_eraseIdx_le H' j; omega
  have c15 := back15 tabG L K hK
  have a1 := at23 tabG l' H' (by omega) id
  have a2 := at23 tabG L K hK id
  have hm : (atV H' id).1.length ≤ 1000 ∧ Okl (atV H' id).1 := at_mem (P := fun l => l.length ≤ 1000 ∧ Okl l) ⟨by simp, ⟨by simp, fun p hp => by simp at hp⟩⟩ (fun x hx => ⟨by have := (cu.h1 x hx).1; omega, (cu.h1 x hx).2⟩)
  have rs := rsame tabG (l := (atV H' id).1) (m := (atV H' id).1) (H := []) (K := []) hm hm ⟨by simp, fun x hx => by simp at hx⟩ ⟨by simp, fun x hx => by simp at hx⟩ true (by simp [sH])
  have ms := msame tabG cu cu true (by simp [sH])
  by_cases he : o = 8 ∧ i = id
  · obtain ⟨rfl, rfl⟩ := he
    generalize atV H' i = A at *
    generalize atV K i = A' at *
    obtain ⟨A1, A2⟩ := A
    obtain ⟨B1, B2⟩ := A'
    dsimp only at a1 a2
    cases ch
    · obtain ⟨rfl, rfl⟩ := f1 rfl
      clear f1 f2 cu ok rs hm
      refine pc_ofV cop6 ?_
      repeat' ((conv => whnf); first | (with_reducible refine SeqP.go ?_) | ((with_reducible refine ObD.mk ?_ ?_); (focus (first | rfl | (simp; done)))) | ((with_reducible refine ObN.mk ?_ ?_); (focus (first | rfl | assumption | omega | (simp only [List.length_map, List.length_append, List.length_cons, List.length_nil]; omega) | (simp; done) | (simp; omega)))) | (with_reducible refine ObT.tt ?_) | (with_reducible refine ObT.ff ?_) | ((with_reducible refine ObB.yes ?_ ?_); (focus (first | assumption | (with_reducible rfl) | omega))) | ((with_reducible refine (?_ : ObU _ _)); (refine ObU.mk _ (by first | assumption | ((conv => lhs; simp only [List.set_cons_zero, List.set_cons_succ, List.take_succ_cons, List.take_zero, List.drop_succ_cons, List.drop_zero, List.nil_append, List.cons_append, List.append_nil, List.take_nil, List.drop_nil]); try rfl) | rfl) ?_)) | ((with_reducible refine (?_ : ObR _ _ _)); (first | (refine ObR.mk _ (by assumption) ?_) | (refine ObR.mk _ (by with_reducible rfl) ?_) | (refine ObR.map (by (first | omega | assumption | (simp only [List.length_map, List.length_append, List.length_cons, List.length_nil, List.length_take, List.length_drop, List.length_set, List.length_replicate]; omega))) (fun x hx => ?_)) | (refine ObR.mk _ rfl ?_))) | ((with_reducible refine ObC.f 18 ?_); (first | (with_reducible refine ObC.mk _ (w) ?_) | (refine ObC.mk _ (w) ?_))) | ((with_reducible refine ObC.f 7 ?_); (first | (with_reducible refine ObC.mk _ (c7) ?_) | (refine ObC.mk _ (c7) ?_))) | ((with_reducible refine ObC.f 8 ?_); (first | (with_reducible refine ObC.mk _ (c8) ?_) | (refine ObC.mk _ (c8) ?_))) | ((with_reducible refine ObC.f 10 ?_); (first | (with_reducible refine ObC.mk _ (c10) ?_) | (refine ObC.mk _ (c10) ?_))) | ((with_reducible refine ObC.f 12 ?_); (first | (with_reducible refine ObC.mk _ (c12) ?_) | (refine ObC.mk _ (c12) ?_))) | ((with_reducible refine ObC.f 22 ?_); (first | (with_reducible refine ObC.mk _ (ms) ?_) | (refine ObC.mk _ (ms) ?_))) | ((with_reducible refine ObC.f 15 ?_); (first | (with_reducible refine ObC.mk _ (c15) ?_) | (refine ObC.mk _ (c15) ?_))) | ((with_reducible refine ObC.f 23 ?_); (first | (with_reducible refine ObC.mk _ (a1) ?_) | (refine ObC.mk _ (a1) ?_))) | ((with_reducible refine ObEq.mk ?_); (focus (first | rfl | assumption))))
    · clear f1 f2 cu ok rs hm
      refine pc_ofV cop6 ?_
      repeat' ((conv => whnf); first | (with_reducible refine SeqP.go ?_) | ((with_reducible refine ObD.mk ?_ ?_); (focus (first | rfl | (simp; done)))) | ((with_reducible refine ObN.mk ?_ ?_); (focus (first | rfl | assumption | omega | (simp only [List.length_map, List.length_append, List.length_cons, List.length_nil]; omega) | (simp; done) | (simp; omega)))) | (with_reducible refine ObT.tt ?_) | (with_reducible refine ObT.ff ?_) | ((with_reducible refine ObB.yes ?_ ?_); (focus (first | assumption | (with_reducible rfl) | omega))) | ((with_reducible refine (?_ : ObU _ _)); (refine ObU.mk _ (by first | assumption | ((conv => lhs; simp only [List.set_cons_zero, List.set_cons_succ, List.take_succ_cons, List.take_zero, List.drop_succ_cons, List.drop_zero, List.nil_append, List.cons_append, List.append_nil, List.take_nil, List.drop_nil]); try rfl) | rfl) ?_)) | ((with_reducible refine (?_ : ObR _ _ _)); (first | (refine ObR.mk _ (by assumption) ?_) | (refine ObR.mk _ (by with_reducible rfl) ?_) | (refine ObR.map (by (first | omega | assumption | (simp only [List.length_map, List.length_append, List.length_cons, List.length_nil, List.length_take, List.length_drop, List.length_set, List.length_replicate]; omega))) (fun x hx => ?_)) | (refine ObR.mk _ rfl ?_))) | ((with_reducible refine ObC.f 18 ?_); (first | (with_reducible refine ObC.mk _ (w) ?_) | (refine ObC.mk _ (w) ?_))) | ((with_reducible refine ObC.f 7 ?_); (first | (with_reducible refine ObC.mk _ (c7) ?_) | (refine ObC.mk _ (c7) ?_))) | ((with_reducible refine ObC.f 8 ?_); (first | (with_reducible refine ObC.mk _ (c8) ?_) | (refine ObC.mk _ (c8) ?_))) | ((with_reducible refine ObC.f 10 ?_); (first | (with_reducible refine ObC.mk _ (c10) ?_) | (refine ObC.mk _ (c10) ?_))) | ((with_reducible refine ObC.f 12 ?_); (first | (with_reducible refine ObC.mk _ (c12) ?_) | (refine ObC.mk _ (c12) ?_))) | ((with_reducible refine ObC.f 15 ?_); (first | (with_reducible refine ObC.mk _ (c15) ?_) | (refine ObC.mk _ (c15) ?_))) | ((with_reducible refine ObC.f 23 ?_); (first | (with_reducible refine ObC.mk _ (a1) ?_) | (refine ObC.mk _ (a1) ?_))) | ((with_reducible refine ObC.f 23 ?_); (first | (with_reducible refine ObC.mk _ (a2) ?_) | (refine ObC.mk _ (a2) ?_))) | ((with_reducible refine ObEq.mk ?_); (focus (first | rfl | assumption))))
  · have e : atV K id = atV H' id := by
      rcases f2 with rfl | ⟨rfl, j, hj, rfl⟩
      · rfl
      · obtain ⟨hjl, hje⟩ := fx_lt hj
        exact at_erase (fun e => he ⟨rfl, e⟩) hjl hje
    rw [e] at a2
    generalize atV H' id = A at *
    obtain ⟨A1, A2⟩ := A
    dsimp only at a1 a2 rs
    by_cases o8 : o = 8
    · subst o8
      have hid : ¬ i = id := fun e => he ⟨rfl, e⟩
      cases ch
      · obtain ⟨rfl, rfl⟩ := f1 rfl
        clear f1 f2 cu ok hm e
        cases A2
        all_goals
          refine pc_ofV cop6 ?_
          repeat' ((conv => whnf); first | (with_reducible refine SeqP.go ?_) | ((with_reducible refine ObD.mk ?_ ?_); (focus (first | rfl | (simp; done)))) | ((with_reducible refine ObN.mk ?_ ?_); (focus (first | rfl | assumption | omega | (simp only [List.length_map, List.length_append, List.length_cons, List.length_nil]; omega) | (simp; done) | (simp; omega)))) | (with_reducible refine ObT.tt ?_) | (with_reducible refine ObT.ff ?_) | ((with_reducible refine ObB.yes ?_ ?_); (focus (first | assumption | (with_reducible rfl) | omega))) | ((with_reducible refine ObB.no ?_ ?_); (focus (first | assumption | omega))) | ((with_reducible refine (?_ : ObU _ _)); (refine ObU.mk _ (by first | assumption | ((conv => lhs; simp only [List.set_cons_zero, List.set_cons_succ, List.take_succ_cons, List.take_zero, List.drop_succ_cons, List.drop_zero, List.nil_append, List.cons_append, List.append_nil, List.take_nil, List.drop_nil]); try rfl) | rfl) ?_)) | ((with_reducible refine (?_ : ObR _ _ _)); (first | (refine ObR.mk _ (by assumption) ?_) | (refine ObR.mk _ (by with_reducible rfl) ?_) | (refine ObR.map (by (first | omega | assumption | (simp only [List.length_map, List.length_append, List.length_cons, List.length_nil, List.length_take, List.length_drop, List.length_set, List.length_replicate]; omega))) (fun x hx => ?_)) | (refine ObR.mk _ rfl ?_))) | ((with_reducible refine ObC.f 18 ?_); (first | (with_reducible refine ObC.mk _ (w) ?_) | (refine ObC.mk _ (w) ?_))) | ((with_reducible refine ObC.f 7 ?_); (first | (with_reducible refine ObC.mk _ (c7) ?_) | (refine ObC.mk _ (c7) ?_))) | ((with_reducible refine ObC.f 8 ?_); (first | (with_reducible refine ObC.mk _ (c8) ?_) | (refine ObC.mk _ (c8) ?_))) | ((with_reducible refine ObC.f 10 ?_); (first | (with_reducible refine ObC.mk _ (c10) ?_) | (refine ObC.mk _ (c10) ?_))) | ((with_reducible refine ObC.f 12 ?_); (first | (with_reducible refine ObC.mk _ (c12) ?_) | (refine ObC.mk _ (c12) ?_))) | ((with_reducible refine ObC.f 22 ?_); (first | (with_reducible refine ObC.mk _ (ms) ?_) | (refine ObC.mk _ (ms) ?_))) | ((with_reducible refine ObC.f 15 ?_); (first | (with_reducible refine ObC.mk _ (c15) ?_) | (refine ObC.mk _ (c15) ?_))) | ((with_reducible refine ObC.f 23 ?_); (first | (with_reducible refine ObC.mk _ (a1) ?_) | (refine ObC.mk _ (a1) ?_))) | ((with_reducible refine ObC.f 14 ?_); (first | (with_reducible refine ObC.mk _ (rs) ?_) | (refine ObC.mk _ (rs) ?_))) | ((with_reducible refine ObEq.mk ?_); (focus (first | rfl | assumption))))
      · clear f1 f2 cu ok hm e
        cases A2
        all_goals
          refine pc_ofV cop6 ?_
          repeat' ((conv => whnf); first | (with_reducible refine SeqP.go ?_) | ((with_reducible refine ObD.mk ?_ ?_); (focus (first | rfl | (simp; done)))) | ((with_reducible refine ObN.mk ?_ ?_); (focus (first | rfl | assumption | omega | (simp only [List.length_map, List.length_append, List.length_cons, List.length_nil]; omega) | (simp; done) | (simp; omega)))) | (with_reducible refine ObT.tt ?_) | (with_reducible refine ObT.ff ?_) | ((with_reducible refine ObB.yes ?_ ?_); (focus (first | assumption | (with_reducible rfl) | omega))) | ((with_reducible refine ObB.no ?_ ?_); (focus (first | assumption | omega))) | ((with_reducible refine (?_ : ObU _ _)); (refine ObU.mk _ (by first | assumption | ((conv => lhs; simp only [List.set_cons_zero, List.set_cons_succ, List.take_succ_cons, List.take_zero, List.drop_succ_cons, List.drop_zero, List.nil_append, List.cons_append, List.append_nil, List.take_nil, List.drop_nil]); try rfl) | rfl) ?_)) | ((with_reducible refine (?_ : ObR _ _ _)); (first | (refine ObR.mk _ (by assumption) ?_) | (refine ObR.mk _ (by with_reducible rfl) ?_) | (refine ObR.map (by (first | omega | assumption | (simp only [List.length_map, List.length_append, List.length_cons, List.length_nil, List.length_take, List.length_drop, List.length_set, List.length_replicate]; omega))) (fun x hx => ?_)) | (refine ObR.mk _ rfl ?_))) | ((with_reducible refine ObC.f 18 ?_); (first | (with_reducible refine ObC.mk _ (w) ?_) | (refine ObC.mk _ (w) ?_))) | ((with_reducible refine ObC.f 7 ?_); (first | (with_reducible refine ObC.mk _ (c7) ?_) | (refine ObC.mk _ (c7) ?_))) | ((with_reducible refine ObC.f 8 ?_); (first | (with_reducible refine ObC.mk _ (c8) ?_) | (refine ObC.mk _ (c8) ?_))) | ((with_reducible refine ObC.f 10 ?_); (first | (with_reducible refine ObC.mk _ (c10) ?_) | (refine ObC.mk _ (c10) ?_))) | ((with_reducible refine ObC.f 12 ?_); (first | (with_reducible refine ObC.mk _ (c12) ?_) | (refine ObC.mk _ (c12) ?_))) | ((with_reducible refine ObC.f 15 ?_); (first | (with_reducible refine ObC.mk _ (c15) ?_) | (refine ObC.mk _ (c15) ?_))) | ((with_reducible refine ObC.f 23 ?_); (first | (with_reducible refine ObC.mk _ (a1) ?_) | (refine ObC.mk _ (a1) ?_))) | ((with_reducible refine ObC.f 23 ?_); (first | (with_reducible refine ObC.mk _ (a2) ?_) | (refine ObC.mk _ (a2) ?_))) | ((with_reducible refine ObC.f 14 ?_); (first | (with_reducible refine ObC.mk _ (rs) ?_) | (refine ObC.mk _ (rs) ?_))) | ((with_reducible refine ObEq.mk ?_); (focus (first | rfl | assumption))))
    · cases ch
      · obtain ⟨rfl, rfl⟩ := f1 rfl
        clear f1 f2 cu ok hm e he
        cases A2
        all_goals
          refine pc_ofV cop6 ?_
          repeat' ((conv => whnf); first | (with_reducible refine SeqP.go ?_) | ((with_reducible refine ObD.mk ?_ ?_); (focus (first | rfl | (simp; done)))) | ((with_reducible refine ObN.mk ?_ ?_); (focus (first | rfl | assumption | omega | (simp only [List.length_map, List.length_append, List.length_cons, List.length_nil]; omega) | (simp; done) | (simp; omega)))) | (with_reducible refine ObT.tt ?_) | (with_reducible refine ObT.ff ?_) | ((with_reducible refine ObB.no ?_ ?_); (focus (first | assumption | omega))) | ((with_reducible refine (?_ : ObU _ _)); (refine ObU.mk _ (by first | assumption | ((conv => lhs; simp only [List.set_cons_zero, List.set_cons_succ, List.take_succ_cons, List.take_zero, List.drop_succ_cons, List.drop_zero, List.nil_append, List.cons_append, List.append_nil, List.take_nil, List.drop_nil]); try rfl) | rfl) ?_)) | ((with_reducible refine (?_ : ObR _ _ _)); (first | (refine ObR.mk _ (by assumption) ?_) | (refine ObR.mk _ (by with_reducible rfl) ?_) | (refine ObR.map (by (first | omega | assumption | (simp only [List.length_map, List.length_append, List.length_cons, List.length_nil, List.length_take, List.length_drop, List.length_set, List.length_replicate]; omega))) (fun x hx => ?_)) | (refine ObR.mk _ rfl ?_))) | ((with_reducible refine ObC.f 18 ?_); (first | (with_reducible refine ObC.mk _ (w) ?_) | (refine ObC.mk _ (w) ?_))) | ((with_reducible refine ObC.f 7 ?_); (first | (with_reducible refine ObC.mk _ (c7) ?_) | (refine ObC.mk _ (c7) ?_))) | ((with_reducible refine ObC.f 8 ?_); (first | (with_reducible refine ObC.mk _ (c8) ?_) | (refine ObC.mk _ (c8) ?_))) | ((with_reducible refine ObC.f 10 ?_); (first | (with_reducible refine ObC.mk _ (c10) ?_) | (refine ObC.mk _ (c10) ?_))) | ((with_reducible refine ObC.f 12 ?_); (first | (with_reducible refine ObC.mk _ (c12) ?_) | (refine ObC.mk _ (c12) ?_))) | ((with_reducible refine ObC.f 22 ?_); (first | (with_reducible refine ObC.mk _ (ms) ?_) | (refine ObC.mk _ (ms) ?_))) | ((with_reducible refine ObC.f 15 ?_); (first | (with_reducible refine ObC.mk _ (c15) ?_) | (refine ObC.mk _ (c15) ?_))) | ((with_reducible refine ObC.f 23 ?_); (first | (with_reducible refine ObC.mk _ (a1) ?_) | (refine ObC.mk _ (a1) ?_))) | ((with_reducible refine ObC.f 14 ?_); (first | (with_reducible refine ObC.mk _ (rs) ?_) | (refine ObC.mk _ (rs) ?_))) | ((with_reducible refine ObEq.mk ?_); (focus (first | rfl | assumption))))
      · clear f1 f2 cu ok hm e he
        cases A2
        all_goals
          refine pc_ofV cop6 ?_
          repeat' ((conv => whnf); first | (with_reducible refine SeqP.go ?_) | ((with_reducible refine ObD.mk ?_ ?_); (focus (first | rfl | (simp; done)))) | ((with_reducible refine ObN.mk ?_ ?_); (focus (first | rfl | assumption | omega | (simp only [List.length_map, List.length_append, List.length_cons, List.length_nil]; omega) | (simp; done) | (simp; omega)))) | (with_reducible refine ObT.tt ?_) | (with_reducible refine ObT.ff ?_) | ((with_reducible refine ObB.no ?_ ?_); (focus (first | assumption | omega))) | ((with_reducible refine (?_ : ObU _ _)); (refine ObU.mk _ (by first | assumption | ((conv => lhs; simp only [List.set_cons_zero, List.set_cons_succ, List.take_succ_cons, List.take_zero, List.drop_succ_cons, List.drop_zero, List.nil_append, List.cons_append, List.append_nil, List.take_nil, List.drop_nil]); try rfl) | rfl) ?_)) | ((with_reducible refine (?_ : ObR _ _ _)); (first | (refine ObR.mk _ (by assumption) ?_) | (refine ObR.mk _ (by with_reducible rfl) ?_) | (refine ObR.map (by (first | omega | assumption | (simp only [List.length_map, List.length_append, List.length_cons, List.length_nil, List.length_take, List.length_drop, List.length_set, List.length_replicate]; omega))) (fun x hx => ?_)) | (refine ObR.mk _ rfl ?_))) | ((with_reducible refine ObC.f 18 ?_); (first | (with_reducible refine ObC.mk _ (w) ?_) | (refine ObC.mk _ (w) ?_))) | ((with_reducible refine ObC.f 7 ?_); (first | (with_reducible refine ObC.mk _ (c7) ?_) | (refine ObC.mk _ (c7) ?_))) | ((with_reducible refine ObC.f 8 ?_); (first | (with_reducible refine ObC.mk _ (c8) ?_) | (refine ObC.mk _ (c8) ?_))) | ((with_reducible refine ObC.f 10 ?_); (first | (with_reducible refine ObC.mk _ (c10) ?_) | (refine ObC.mk _ (c10) ?_))) | ((with_reducible refine ObC.f 12 ?_); (first | (with_reducible refine ObC.mk _ (c12) ?_) | (refine ObC.mk _ (c12) ?_))) | ((with_reducible refine ObC.f 15 ?_); (first | (with_reducible refine ObC.mk _ (c15) ?_) | (refine ObC.mk _ (c15) ?_))) | ((with_reducible refine ObC.f 23 ?_); (first | (with_reducible refine ObC.mk _ (a1) ?_) | (refine ObC.mk _ (a1) ?_))) | ((with_reducible refine ObC.f 23 ?_); (first | (with_reducible refine ObC.mk _ (a2) ?_) | (refine ObC.mk _ (a2) ?_))) | ((with_reducible refine ObC.f 14 ?_); (first | (with_reducible refine ObC.mk _ (rs) ?_) | (refine ObC.mk _ (rs) ?_))) | ((with_reducible refine ObEq.mk ?_); (focus (first | rfl | assumption))))
theorem int_inv {cs : List AV} (h : ShC Tryd.prog 3 cs) : ∃ n : Int, cs = [I n] ∧ i64 n := by
  obtain ⟨n, e, h1, h2⟩ := h.i64_inv (by kernel_rfl)
  exact ⟨n, e, h1, h2⟩
theorem txt_inv {cs : List AV} (h : ShC Tryd.prog 9 cs) : ∃ s : ByteArray, cs = [S s] ∧ s.size ≤ 9223372036854775807 := h.str_inv (by kernel_rfl)
theorem conf_inv {cs : List AV} (h : ShC Tryd.prog 23 cs) : ∃ k s t h b : Int, mkE true cs = cA k s t h b ∧ i64 k ∧ i64 s ∧ i64 t ∧ i64 h ∧ i64 b := by
  obtain ⟨p0, q, rfl, hp0, h⟩ := (h.flds (ts := [3, 3, 3, 3, 3]) (by kernel_rfl)).cons
  obtain ⟨p1, q, rfl, hp1, h⟩ := h.cons
  obtain ⟨p2, q, rfl, hp2, h⟩ := h.cons
  obtain ⟨p3, q, rfl, hp3, h⟩ := h.cons
  obtain ⟨p4, q, rfl, hp4, h⟩ := h.cons
  obtain rfl := h.nil
  obtain ⟨n0, rfl, h0⟩ := int_inv hp0
  obtain ⟨n1, rfl, h1⟩ := int_inv hp1
  obtain ⟨n2, rfl, h2⟩ := int_inv hp2
  obtain ⟨n3, rfl, h3⟩ := int_inv hp3
  obtain ⟨n4, rfl, h4⟩ := int_inv hp4
  exact ⟨n0, n1, n2, n3, n4, rfl, h0, h1, h2, h3, h4⟩
theorem call_inv {cs : List AV} (h : ShC Tryd.prog 29 cs) : ∃ (o : Int) (x y z : ByteArray) (i : Int), mkE true cs = xA o x y z i ∧ i64 o ∧ i64 i ∧ x.size ≤ 9223372036854775807 ∧ y.size ≤ 9223372036854775807 ∧ z.size ≤ 9223372036854775807 := by
  obtain ⟨p0, q, rfl, hp0, h⟩ := (h.flds (ts := [3, 9, 9, 9, 3]) (by kernel_rfl)).cons
  obtain ⟨p1, q, rfl, hp1, h⟩ := h.cons
  obtain ⟨p2, q, rfl, hp2, h⟩ := h.cons
  obtain ⟨p3, q, rfl, hp3, h⟩ := h.cons
  obtain ⟨p4, q, rfl, hp4, h⟩ := h.cons
  obtain rfl := h.nil
  obtain ⟨o, rfl, h0⟩ := int_inv hp0
  obtain ⟨x, rfl, h1⟩ := txt_inv hp1
  obtain ⟨y, rfl, h2⟩ := txt_inv hp2
  obtain ⟨z, rfl, h3⟩ := txt_inv hp3
  obtain ⟨i, rfl, h4⟩ := int_inv hp4
  exact ⟨o, x, y, z, i, rfl, h0, h4, h1, h2, h3⟩
theorem ModelKeeps_calls (as0 as1 as2 as3 : List AV) (s0 : ShC Tryd.prog 23 as0) (s1 : ShC Tryd.prog 27 as1) (s2 : ShC Tryd.prog 29 as2) (s3 : ShC Tryd.prog 3 as3) : PC Tryd.prog tabG 6 [mkE (isAggT Tryd.prog 23) as0, mkE (isAggT Tryd.prog 27) as1, mkE (isAggT Tryd.prog 29) as2, mkE (isAggT Tryd.prog 3) as3] (Bo true) := by
  have e0 : isAggT Tryd.prog 23 = true := by kernel_rfl
  have e1 : isAggT Tryd.prog 27 = true := by kernel_rfl
  have e2 : isAggT Tryd.prog 29 = true := by kernel_rfl
  have e3 : isAggT Tryd.prog 3 = false := by kernel_rfl
  obtain ⟨k, s, t, h, b, q0, a0, a1, a2, a3, a4⟩ := conf_inv s0
  obtain ⟨l, H, q1, ok⟩ := state_inv s1
  obtain ⟨o, x, y, z, i, q2, b0, b1, b2, b3, b4⟩ := call_inv s2
  obtain ⟨id, rfl, _⟩ := int_inv s3
  rw [e0, e1, e2, e3, q0, q1, q2]
  exact lawKeeps k s t h b a0 a1 a2 a3 a4 l H ok o x y z i b0 b1 b2 b3 b4 id
end Go.Proofs.YtgpldekhcojimaaDoor.Sim

