/- Texts of this claim, part 9. -/
import Derived.Test.YtnammfeiehikfaaMPlanDoes8
set_option linter.unusedVariables false
set_option linter.unusedSimpArgs false
namespace Go.Proofs.Ytnammfeiehikfaa.Sim
set_option maxRecDepth 100000
/-- boscage/boscagelaw18.PlanDoes -/
def A5:AF:=(AF.mk 56 [(4,none)] (AC.seq (AC.region [(AI.mk (some 3) (AOp.new 26 3 (AX.t 1)) none),(AI.mk (some 4) (AOp.mv (AX.c (AV.v (Value.bool false)))) none)]) (AC.seq (AC.draw [(AI.mk (some 11) (AOp.mv (AX.t 0)) none),(AI.mk (some 12) (AOp.call 21 [(AX.t 11)]) none),(AI.mk (some 13) (AOp.load true 3 (AX.t 3)) none),(AI.mk (some 14) (AOp.call 8 [(AX.t 13)]) none),(AI.mk (some 15) (AOp.call 7 [(AX.t 14)]) none),(AI.mk (some 0) (AOp.mv (AX.t 12)) none),(AI.mk none (AOp.store 3 (AX.t 3) (AX.t 15)) none)]) (AC.seq (AC.draw [(AI.mk (some 17) (AOp.mv (AX.t 0)) none),(AI.mk (some 18) (AOp.call 21 [(AX.t 17)]) none),(AI.mk (some 19) (AOp.load true 3 (AX.t 3)) none),(AI.mk (some 20) (AOp.call 8 [(AX.t 19)]) none),(AI.mk (some 21) (AOp.call 22 [(AX.t 18),(AX.t 20)]) none),(AI.mk (some 16) (AOp.mv (AX.t 21)) none),(AI.mk (some 22) (AOp.ext (AX.t 16) 0) none),(AI.mk (some 23) (AOp.ext (AX.t 16) 1) none),(AI.mk (some 24) (AOp.ext (AX.t 16) 2) none),(AI.mk (some 5) (AOp.mv (AX.t 22)) none),(AI.mk (some 6) (AOp.mv (AX.t 23)) none),(AI.mk (some 7) (AOp.mv (AX.t 24)) none)]) (AC.seq (AC.region [(AI.mk (some 26) (AOp.mv (AX.t 0)) none),(AI.mk (some 27) (AOp.load true 3 (AX.t 3)) none),(AI.mk (some 28) (AOp.call 23 [(AX.t 26),(AX.t 27)]) none),(AI.mk (some 25) (AOp.mv (AX.t 28)) none),(AI.mk (some 29) (AOp.ext (AX.t 25) 0) none),(AI.mk (some 30) (AOp.ext (AX.t 25) 1) none),(AI.mk (some 31) (AOp.ext (AX.t 25) 2) none),(AI.mk (some 8) (AOp.mv (AX.t 29)) none),(AI.mk (some 9) (AOp.mv (AX.t 30)) none),(AI.mk (some 10) (AOp.mv (AX.t 31)) none)]) (AC.seq (AC.region [(AI.mk (some 32) (AOp.mv (AX.t 5)) none),(AI.mk (some 33) (AOp.mv (AX.t 8)) none),(AI.mk (some 34) (AOp.call 13 [(AX.t 32),(AX.t 33)]) none),(AI.mk (some 35) (AOp.mv (AX.t 34)) none),(AI.mk (some 36) (AOp.mv (AX.t 6)) (some (35,true))),(AI.mk (some 37) (AOp.mv (AX.t 9)) (some (35,true))),(AI.mk (some 38) (AOp.bin BinOp.eql 23 false (Operand.tmp 36) (Operand.tmp 37) (AX.t 36) (AX.t 37)) (some (35,true))),(AI.mk (some 39) (AOp.pick (AX.t 35) (AX.t 38) (AX.c (AV.v (Value.bool false)))) none),(AI.mk (some 40) (AOp.mv (AX.t 39)) none),(AI.mk (some 41) (AOp.mv (AX.t 7)) (some (40,true))),(AI.mk (some 42) (AOp.bin BinOp.eql 37 false (Operand.tmp 41) (Operand.const (Value.int IntKind.i64 0)) (AX.t 41) (AX.c (AV.v (Value.int IntKind.i64 0)))) (some (40,true))),(AI.mk (some 43) (AOp.mv (AX.t 10)) (some (40,true))),(AI.mk (some 44) (AOp.bin BinOp.eql 4 false (Operand.tmp 42) (Operand.tmp 43) (AX.t 42) (AX.t 43)) (some (40,true))),(AI.mk (some 45) (AOp.pick (AX.t 40) (AX.t 44) (AX.c (AV.v (Value.bool false)))) none),(AI.mk (some 46) (AOp.mv (AX.t 45)) none),(AI.mk (some 47) (AOp.mv (AX.t 10)) (some (46,true))),(AI.mk (some 48) (AOp.mv (AX.t 47)) (some (46,true))),(AI.mk (some 49) (AOp.mv (AX.t 7)) (some (48,false))),(AI.mk (some 50) (AOp.bin BinOp.eql 37 false (Operand.tmp 49) (Operand.const (Value.int IntKind.i64 4)) (AX.t 49) (AX.c (AV.v (Value.int IntKind.i64 4)))) (some (48,false))),(AI.mk (some 51) (AOp.pick (AX.t 48) (AX.c (AV.v (Value.bool true))) (AX.t 50)) (some (46,true))),(AI.mk (some 52) (AOp.pick (AX.t 46) (AX.t 51) (AX.c (AV.v (Value.bool false)))) none),(AI.mk (some 53) (AOp.mv (AX.t 52)) none),(AI.mk (some 54) (AOp.call 15 []) (some (53,true))),(AI.mk (some 55) (AOp.pick (AX.t 53) (AX.t 54) (AX.c (AV.v (Value.bool false)))) none),(AI.mk (some 4) (AOp.mv (AX.t 55)) none)]) AC.ret))))))
theorem cop5:copF Try.prog [42,46,66,67,70,71,72,73,74] 5=some A5:=by kernel_rfl
/-- boscage/boscagelaw18.Back -/
def A7:AF:=(AF.mk 10 [(2,(some (true,3)))] (AC.seq (AC.region [(AI.mk (some 1) (AOp.new 32 3 (AX.t 0)) none),(AI.mk (some 2) (AOp.new 26 3 (AX.c (AV.agg [(AV.nl 9),(AV.v (Value.int IntKind.i64 0)),(AV.nl 1)]))) none)]) (AC.seq (AC.region [(AI.mk (some 3) (AOp.fad 0 (AX.t 1)) none),(AI.mk (some 4) (AOp.load false 1 (AX.t 3)) none),(AI.mk (some 5) (AOp.fad 1 (AX.t 1)) none),(AI.mk (some 6) (AOp.load false 1 (AX.t 5)) none),(AI.mk (some 7) (AOp.fad 2 (AX.t 1)) none),(AI.mk (some 8) (AOp.load false 1 (AX.t 7)) none),(AI.mk (some 9) (AOp.bld [(AV.nl 9),(AV.v (Value.int IntKind.i64 0)),(AV.nl 1)] [(0,(1,(AX.t 4))),(1,(1,(AX.t 6))),(2,(1,(AX.t 8)))]) none),(AI.mk none (AOp.store 3 (AX.t 2) (AX.t 9)) none)]) AC.ret)))
theorem cop7:copF Try.prog [42,46,66,67,70,71,72,73,74] 7=some A7:=by kernel_rfl
/-- boscage/boscageref18.May -/
def A12:AF:=(AF.mk 60 [(2,none)] (AC.seq (AC.region [(AI.mk (some 1) (AOp.new 26 3 (AX.t 0)) none),(AI.mk (some 2) (AOp.mv (AX.c (AV.v (Value.bool false)))) none)]) (AC.seq (AC.seq (AC.region [(AI.mk (some 3) (AOp.mv (AX.c (AV.v (Value.int IntKind.i64 0)))) none)]) (AC.block 0 (AC.loop (AC.seq (AC.seq (AC.region [(AI.mk (some 7) (AOp.mv (AX.t 3)) none),(AI.mk (some 8) (AOp.fad 0 (AX.t 1)) none),(AI.mk (some 9) (AOp.load false 1 (AX.t 8)) none),(AI.mk (some 10) (AOp.len (AX.t 9)) none),(AI.mk (some 11) (AOp.bin BinOp.lss 3 false (Operand.tmp 7) (Operand.tmp 10) (AX.t 7) (AX.t 10)) none)]) (AC.cond (AX.t 11) AC.skip (AC.exit 0))) (AC.seq (AC.block 1 (AC.seq (AC.region [(AI.mk (some 14) (AOp.fad 0 (AX.t 1)) none),(AI.mk (some 15) (AOp.load false 1 (AX.t 14)) none),(AI.mk (some 16) (AOp.mv (AX.t 3)) none),(AI.mk (some 17) (AOp.iad 9 (AX.t 15) (AX.t 16)) none),(AI.mk (some 18) (AOp.load true 9 (AX.t 17)) none),(AI.mk (some 19) (AOp.call 32 [(AX.t 18)]) none),(AI.mk (some 4) (AOp.mv (AX.t 19)) none)]) (AC.seq (AC.seq (AC.region [(AI.mk (some 5) (AOp.mv (AX.c (AV.v (Value.int IntKind.i64 0)))) none)]) (AC.block 2 (AC.loop (AC.seq (AC.seq (AC.region [(AI.mk (some 20) (AOp.mv (AX.t 5)) none),(AI.mk (some 21) (AOp.mv (AX.t 4)) none),(AI.mk (some 22) (AOp.len (AX.t 21)) none),(AI.mk (some 23) (AOp.bin BinOp.lss 3 false (Operand.tmp 20) (Operand.tmp 22) (AX.t 20) (AX.t 22)) none)]) (AC.cond (AX.t 23) AC.skip (AC.exit 2))) (AC.seq (AC.block 3 (AC.seq (AC.region [(AI.mk (some 26) (AOp.mv (AX.t 4)) none),(AI.mk (some 27) (AOp.mv (AX.t 5)) none),(AI.mk (some 28) (AOp.iad 1 (AX.t 26) (AX.t 27)) none),(AI.mk (some 29) (AOp.load false 1 (AX.t 28)) none),(AI.mk (some 30) (AOp.mv (AX.t 3)) none),(AI.mk (some 31) (AOp.un UnOp.neg (AX.t 30)) none),(AI.mk (some 32) (AOp.bin BinOp.lss 3 false (Operand.tmp 29) (Operand.tmp 31) (AX.t 29) (AX.t 31)) none)]) (AC.cond (AX.t 32) (AC.seq (AC.region [(AI.mk (some 2) (AOp.mv (AX.c (AV.v (Value.bool false)))) none)]) AC.ret) AC.skip))) (AC.region [(AI.mk (some 24) (AOp.mv (AX.t 5)) none),(AI.mk (some 25) (AOp.bin BinOp.add 3 false (Operand.tmp 24) (Operand.const (Value.int IntKind.i64 1)) (AX.t 24) (AX.c (AV.v (Value.int IntKind.i64 1)))) none),(AI.mk (some 5) (AOp.mv (AX.t 25)) none)])))))) (AC.seq (AC.region [(AI.mk (some 33) (AOp.fad 0 (AX.t 1)) none),(AI.mk (some 34) (AOp.load false 1 (AX.t 33)) none),(AI.mk (some 35) (AOp.mv (AX.t 3)) none),(AI.mk (some 36) (AOp.iad 9 (AX.t 34) (AX.t 35)) none),(AI.mk (some 37) (AOp.load true 9 (AX.t 36)) none),(AI.mk (some 38) (AOp.call 33 [(AX.t 37)]) none),(AI.mk (some 39) (AOp.bin BinOp.neq 37 false (Operand.tmp 38) (Operand.const (Value.int IntKind.i64 0)) (AX.t 38) (AX.c (AV.v (Value.int IntKind.i64 0)))) none)]) (AC.cond (AX.t 39) (AC.seq (AC.region [(AI.mk (some 2) (AOp.mv (AX.c (AV.v (Value.bool false)))) none)]) AC.ret) AC.skip))))) (AC.region [(AI.mk (some 12) (AOp.mv (AX.t 3)) none),(AI.mk (some 13) (AOp.bin BinOp.add 3 false (Operand.tmp 12) (Operand.const (Value.int IntKind.i64 1)) (AX.t 12) (AX.c (AV.v (Value.int IntKind.i64 1)))) none),(AI.mk (some 3) (AOp.mv (AX.t 13)) none)])))))) (AC.seq (AC.seq (AC.region [(AI.mk (some 6) (AOp.mv (AX.c (AV.v (Value.int IntKind.i64 0)))) none)]) (AC.block 4 (AC.loop (AC.seq (AC.seq (AC.region [(AI.mk (some 40) (AOp.mv (AX.t 6)) none),(AI.mk (some 41) (AOp.fad 2 (AX.t 1)) none),(AI.mk (some 42) (AOp.load false 1 (AX.t 41)) none),(AI.mk (some 43) (AOp.len (AX.t 42)) none),(AI.mk (some 44) (AOp.bin BinOp.lss 3 false (Operand.tmp 40) (Operand.tmp 43) (AX.t 40) (AX.t 43)) none)]) (AC.cond (AX.t 44) AC.skip (AC.exit 4))) (AC.seq (AC.block 5 (AC.seq (AC.region [(AI.mk (some 47) (AOp.fad 2 (AX.t 1)) none),(AI.mk (some 48) (AOp.load false 1 (AX.t 47)) none),(AI.mk (some 49) (AOp.mv (AX.t 6)) none),(AI.mk (some 50) (AOp.iad 1 (AX.t 48) (AX.t 49)) none),(AI.mk (some 51) (AOp.load false 1 (AX.t 50)) none),(AI.mk (some 52) (AOp.bin BinOp.lss 23 false (Operand.tmp 51) (Operand.const (Value.int IntKind.i64 1)) (AX.t 51) (AX.c (AV.v (Value.int IntKind.i64 1)))) none)]) (AC.cond (AX.t 52) (AC.seq (AC.region [(AI.mk (some 2) (AOp.mv (AX.c (AV.v (Value.bool false)))) none)]) AC.ret) AC.skip))) (AC.region [(AI.mk (some 45) (AOp.mv (AX.t 6)) none),(AI.mk (some 46) (AOp.bin BinOp.add 3 false (Operand.tmp 45) (Operand.const (Value.int IntKind.i64 1)) (AX.t 45) (AX.c (AV.v (Value.int IntKind.i64 1)))) none),(AI.mk (some 6) (AOp.mv (AX.t 46)) none)])))))) (AC.seq (AC.region [(AI.mk (some 53) (AOp.fad 1 (AX.t 1)) none),(AI.mk (some 54) (AOp.load false 1 (AX.t 53)) none),(AI.mk (some 55) (AOp.fad 0 (AX.t 1)) none),(AI.mk (some 56) (AOp.load false 1 (AX.t 55)) none),(AI.mk (some 57) (AOp.len (AX.t 56)) none),(AI.mk (some 58) (AOp.un UnOp.neg (AX.t 57)) none),(AI.mk (some 59) (AOp.bin BinOp.geq 3 false (Operand.tmp 54) (Operand.tmp 58) (AX.t 54) (AX.t 58)) none),(AI.mk (some 2) (AOp.mv (AX.t 59)) none)]) AC.ret)))))
theorem cop12:copF Try.prog [42,46,66,67,70,71,72,73,74] 12=some A12:=by kernel_rfl
/-- boscage/boscageref18.Fill -/
def A17:AF:=(AF.mk 60 [(4,(some (true,9))),(5,none)] (AC.seq (AC.region [(AI.mk (some 2) (AOp.new 30 9 (AX.t 0)) none),(AI.mk (some 4) (AOp.new 30 9 (AX.c (AV.agg [(AV.v (Value.int IntKind.i64 0)),(AV.v (Value.string (ByteArray.mk #[]))),(AV.v (Value.string (ByteArray.mk #[]))),(AV.v (Value.int IntKind.u32 0)),(AV.nl 1),(AV.v (Value.int IntKind.i64 0)),(AV.nl 2),(AV.v (Value.int IntKind.i64 0)),(AV.v (Value.int IntKind.i64 0))]))) none),(AI.mk (some 5) (AOp.mv (AX.c (AV.v (Value.bool false)))) none)]) (AC.seq (AC.region [(AI.mk (some 13) (AOp.load true 9 (AX.t 2)) none),(AI.mk (some 6) (AOp.new 30 9 (AX.c (AV.agg [(AV.v (Value.int IntKind.i64 0)),(AV.v (Value.string (ByteArray.mk #[]))),(AV.v (Value.string (ByteArray.mk #[]))),(AV.v (Value.int IntKind.u32 0)),(AV.nl 1),(AV.v (Value.int IntKind.i64 0)),(AV.nl 2),(AV.v (Value.int IntKind.i64 0)),(AV.v (Value.int IntKind.i64 0))]))) none),(AI.mk none (AOp.store 9 (AX.t 6) (AX.t 13)) none),(AI.mk (some 7) (AOp.mv (AX.c (AV.v (Value.bool true)))) none)]) (AC.seq (AC.region [(AI.mk (some 14) (AOp.bsl 23 1 []) none),(AI.mk (some 15) (AOp.fad 4 (AX.t 6)) none),(AI.mk none (AOp.store 1 (AX.t 15) (AX.t 14)) none)]) (AC.seq (AC.seq (AC.region [(AI.mk (some 8) (AOp.mv (AX.c (AV.v (Value.int IntKind.i64 0)))) none)]) (AC.block 0 (AC.loop (AC.seq (AC.seq (AC.region [(AI.mk (some 16) (AOp.mv (AX.t 8)) none),(AI.mk (some 17) (AOp.fad 4 (AX.t 2)) none),(AI.mk (some 18) (AOp.load false 1 (AX.t 17)) none),(AI.mk (some 19) (AOp.len (AX.t 18)) none),(AI.mk (some 20) (AOp.bin BinOp.lss 3 false (Operand.tmp 16) (Operand.tmp 19) (AX.t 16) (AX.t 19)) none)]) (AC.cond (AX.t 20) AC.skip (AC.exit 0))) (AC.seq (AC.block 1 (AC.seq (AC.region [(AI.mk (some 24) (AOp.fad 4 (AX.t 2)) none),(AI.mk (some 25) (AOp.load false 1 (AX.t 24)) none),(AI.mk (some 26) (AOp.mv (AX.t 8)) none),(AI.mk (some 27) (AOp.iad 1 (AX.t 25) (AX.t 26)) none),(AI.mk (some 28) (AOp.load false 1 (AX.t 27)) none),(AI.mk (some 29) (AOp.mv (AX.t 1)) none),(AI.mk (some 30) (AOp.call 19 [(AX.t 28),(AX.t 29)]) none),(AI.mk (some 23) (AOp.mv (AX.t 30)) none),(AI.mk (some 31) (AOp.ext (AX.t 23) 0) none),(AI.mk (some 32) (AOp.ext (AX.t 23) 1) none),(AI.mk (some 9) (AOp.mv (AX.t 31)) none),(AI.mk (some 10) (AOp.mv (AX.t 32)) none)]) (AC.region [(AI.mk (some 33) (AOp.fad 4 (AX.t 6)) none),(AI.mk (some 34) (AOp.load false 1 (AX.t 33)) none),(AI.mk (some 35) (AOp.mv (AX.t 9)) none),(AI.mk (some 36) (AOp.bsl 23 1 [(AX.t 35)]) none),(AI.mk (some 37) (AOp.app 23 1 8 (AX.t 34) (AX.t 36)) none),(AI.mk (some 38) (AOp.mv (AX.t 7)) none),(AI.mk (some 39) (AOp.mv (AX.t 38)) none),(AI.mk (some 40) (AOp.mv (AX.t 10)) (some (39,true))),(AI.mk (some 41) (AOp.pick (AX.t 39) (AX.t 40) (AX.c (AV.v (Value.bool false)))) none),(AI.mk (some 42) (AOp.fad 4 (AX.t 6)) none),(AI.mk none (AOp.store 1 (AX.t 42) (AX.t 37)) none),(AI.mk (some 7) (AOp.mv (AX.t 41)) none)]))) (AC.region [(AI.mk (some 21) (AOp.mv (AX.t 8)) none),(AI.mk (some 22) (AOp.bin BinOp.add 3 false (Operand.tmp 21) (Operand.const (Value.int IntKind.i64 1)) (AX.t 21) (AX.c (AV.v (Value.int IntKind.i64 1)))) none),(AI.mk (some 8) (AOp.mv (AX.t 22)) none)])))))) (AC.seq (AC.region [(AI.mk (some 44) (AOp.fad 5 (AX.t 2)) none),(AI.mk (some 45) (AOp.load false 1 (AX.t 44)) none),(AI.mk (some 46) (AOp.mv (AX.t 1)) none),(AI.mk (some 47) (AOp.call 19 [(AX.t 45),(AX.t 46)]) none),(AI.mk (some 43) (AOp.mv (AX.t 47)) none),(AI.mk (some 48) (AOp.ext (AX.t 43) 0) none),(AI.mk (some 49) (AOp.ext (AX.t 43) 1) none),(AI.mk (some 11) (AOp.mv (AX.t 48)) none),(AI.mk (some 12) (AOp.mv (AX.t 49)) none)]) (AC.seq (AC.region [(AI.mk (some 50) (AOp.mv (AX.t 11)) none),(AI.mk (some 51) (AOp.fad 5 (AX.t 6)) none),(AI.mk none (AOp.store 1 (AX.t 51) (AX.t 50)) none)]) (AC.seq (AC.seq (AC.region [(AI.mk (some 52) (AOp.mv (AX.t 7)) none),(AI.mk (some 53) (AOp.un UnOp.not (AX.t 52)) none),(AI.mk (some 54) (AOp.mv (AX.t 53)) none),(AI.mk (some 55) (AOp.mv (AX.t 12)) (some (54,false))),(AI.mk (some 56) (AOp.un UnOp.not (AX.t 55)) (some (54,false))),(AI.mk (some 57) (AOp.pick (AX.t 54) (AX.c (AV.v (Value.bool true))) (AX.t 56)) none)]) (AC.cond (AX.t 57) (AC.seq (AC.region [(AI.mk (some 58) (AOp.bld [(AV.v (Value.int IntKind.i64 0)),(AV.v (Value.string (ByteArray.mk #[]))),(AV.v (Value.string (ByteArray.mk #[]))),(AV.v (Value.int IntKind.u32 0)),(AV.nl 1),(AV.v (Value.int IntKind.i64 0)),(AV.nl 2),(AV.v (Value.int IntKind.i64 0)),(AV.v (Value.int IntKind.i64 0))] []) none),(AI.mk none (AOp.store 9 (AX.t 4) (AX.t 58)) none),(AI.mk (some 5) (AOp.mv (AX.c (AV.v (Value.bool false)))) none)]) AC.ret) AC.skip)) (AC.seq (AC.region [(AI.mk (some 59) (AOp.load true 9 (AX.t 6)) none),(AI.mk none (AOp.store 9 (AX.t 4) (AX.t 59)) none),(AI.mk (some 5) (AOp.mv (AX.c (AV.v (Value.bool true)))) none)]) AC.ret)))))))))
theorem cop17:copF Try.prog [42,46,66,67,70,71,72,73,74] 17=some A17:=by kernel_rfl
/-- boscage/boscageref18.Ref -/
def A19:AF:=(AF.mk 24 [(4,none),(5,none)] (AC.seq (AC.region [(AI.mk (some 4) (AOp.mv (AX.c (AV.v (Value.int IntKind.i64 0)))) none),(AI.mk (some 5) (AOp.mv (AX.c (AV.v (Value.bool false)))) none)]) (AC.seq (AC.seq (AC.region [(AI.mk (some 7) (AOp.mv (AX.t 0)) none),(AI.mk (some 8) (AOp.bin BinOp.geq 23 false (Operand.tmp 7) (Operand.const (Value.int IntKind.i64 0)) (AX.t 7) (AX.c (AV.v (Value.int IntKind.i64 0)))) none)]) (AC.cond (AX.t 8) (AC.seq (AC.region [(AI.mk (some 9) (AOp.mv (AX.t 0)) none),(AI.mk (some 4) (AOp.mv (AX.t 9)) none),(AI.mk (some 5) (AOp.mv (AX.c (AV.v (Value.bool true)))) none)]) AC.ret) AC.skip)) (AC.seq (AC.seq (AC.region [(AI.mk (some 6) (AOp.mv (AX.c (AV.v (Value.int IntKind.i64 0)))) none)]) (AC.block 0 (AC.loop (AC.seq (AC.seq (AC.region [(AI.mk (some 10) (AOp.mv (AX.t 6)) none),(AI.mk (some 11) (AOp.mv (AX.t 1)) none),(AI.mk (some 12) (AOp.len (AX.t 11)) none),(AI.mk (some 13) (AOp.bin BinOp.lss 3 false (Operand.tmp 10) (Operand.tmp 12) (AX.t 10) (AX.t 12)) none)]) (AC.cond (AX.t 13) AC.skip (AC.exit 0))) (AC.seq (AC.block 1 (AC.seq (AC.region [(AI.mk (some 16) (AOp.mv (AX.t 0)) none),(AI.mk (some 17) (AOp.mv (AX.t 6)) none),(AI.mk (some 18) (AOp.bin BinOp.sub 3 false (Operand.const (Value.int IntKind.i64 (Int.negSucc 0))) (Operand.tmp 17) (AX.c (AV.v (Value.int IntKind.i64 (Int.negSucc 0)))) (AX.t 17)) none),(AI.mk (some 19) (AOp.bin BinOp.eql 3 false (Operand.tmp 16) (Operand.tmp 18) (AX.t 16) (AX.t 18)) none)]) (AC.cond (AX.t 19) (AC.seq (AC.region [(AI.mk (some 20) (AOp.mv (AX.t 1)) none),(AI.mk (some 21) (AOp.mv (AX.t 6)) none),(AI.mk (some 22) (AOp.iad 1 (AX.t 20) (AX.t 21)) none),(AI.mk (some 23) (AOp.load false 1 (AX.t 22)) none),(AI.mk (some 4) (AOp.mv (AX.t 23)) none),(AI.mk (some 5) (AOp.mv (AX.c (AV.v (Value.bool true)))) none)]) AC.ret) AC.skip))) (AC.region [(AI.mk (some 14) (AOp.mv (AX.t 6)) none),(AI.mk (some 15) (AOp.bin BinOp.add 3 false (Operand.tmp 14) (Operand.const (Value.int IntKind.i64 1)) (AX.t 14) (AX.c (AV.v (Value.int IntKind.i64 1)))) none),(AI.mk (some 6) (AOp.mv (AX.t 15)) none)])))))) (AC.seq (AC.region [(AI.mk (some 4) (AOp.mv (AX.c (AV.v (Value.int IntKind.i64 0)))) none),(AI.mk (some 5) (AOp.mv (AX.c (AV.v (Value.bool false)))) none)]) AC.ret)))))
theorem cop19:copF Try.prog [42,46,66,67,70,71,72,73,74] 19=some A19:=by kernel_rfl
/-- boscage/boscageref18.Do -/
def A23:AF:=(AF.mk 98 [(4,none),(5,none),(6,none)] (AC.seq (AC.region [(AI.mk (some 3) (AOp.new 26 3 (AX.t 1)) none),(AI.mk (some 4) (AOp.mv (AX.c (AV.nl 9))) none),(AI.mk (some 5) (AOp.mv (AX.c (AV.v (Value.int IntKind.i64 0)))) none),(AI.mk (some 6) (AOp.mv (AX.c (AV.v (Value.bool false)))) none)]) (AC.seq (AC.seq (AC.region [(AI.mk (some 17) (AOp.load true 3 (AX.t 3)) none),(AI.mk (some 18) (AOp.call 12 [(AX.t 17)]) none),(AI.mk (some 19) (AOp.un UnOp.not (AX.t 18)) none),(AI.mk (some 20) (AOp.mv (AX.t 19)) none),(AI.mk (some 21) (AOp.mv (AX.t 0)) (some (20,false))),(AI.mk (some 22) (AOp.call 38 [(AX.t 21)]) (some (20,false))),(AI.mk (some 23) (AOp.un UnOp.not (AX.t 22)) (some (20,false))),(AI.mk (some 24) (AOp.pick (AX.t 20) (AX.c (AV.v (Value.bool true))) (AX.t 23)) none)]) (AC.cond (AX.t 24) (AC.seq (AC.region [(AI.mk (some 4) (AOp.mv (AX.c (AV.nl 9))) none),(AI.mk (some 5) (AOp.mv (AX.c (AV.v (Value.int IntKind.i64 0)))) none),(AI.mk (some 6) (AOp.mv (AX.c (AV.v (Value.bool false)))) none)]) AC.ret) AC.skip)) (AC.seq (AC.region [(AI.mk (some 25) (AOp.fad 1 (AX.t 3)) none),(AI.mk (some 26) (AOp.load false 1 (AX.t 25)) none),(AI.mk (some 27) (AOp.bsl 23 1 [(AX.t 26)]) none),(AI.mk (some 28) (AOp.fad 2 (AX.t 3)) none),(AI.mk (some 29) (AOp.load false 1 (AX.t 28)) none),(AI.mk (some 30) (AOp.apf 23 1 8 (AX.t 27) (AX.t 29)) none),(AI.mk (some 7) (AOp.mv (AX.t 30)) none)]) (AC.seq (AC.seq (AC.region [(AI.mk (some 8) (AOp.mv (AX.c (AV.v (Value.int IntKind.i64 0)))) none)]) (AC.block 0 (AC.loop (AC.seq (AC.seq (AC.region [(AI.mk (some 31) (AOp.mv (AX.t 8)) none),(AI.mk (some 32) (AOp.fad 0 (AX.t 3)) none),(AI.mk (some 33) (AOp.load false 1 (AX.t 32)) none),(AI.mk (some 34) (AOp.len (AX.t 33)) none),(AI.mk (some 35) (AOp.bin BinOp.lss 3 false (Operand.tmp 31) (Operand.tmp 34) (AX.t 31) (AX.t 34)) none)]) (AC.cond (AX.t 35) AC.skip (AC.exit 0))) (AC.seq (AC.block 1 (AC.region [(AI.mk (some 38) (AOp.mv (AX.t 7)) none),(AI.mk (some 39) (AOp.fad 0 (AX.t 3)) none),(AI.mk (some 40) (AOp.load false 1 (AX.t 39)) none),(AI.mk (some 41) (AOp.mv (AX.t 8)) none),(AI.mk (some 42) (AOp.iad 9 (AX.t 40) (AX.t 41)) none),(AI.mk (some 43) (AOp.load true 9 (AX.t 42)) none),(AI.mk (some 44) (AOp.call 32 [(AX.t 43)]) none),(AI.mk (some 45) (AOp.app 23 1 8 (AX.t 38) (AX.t 44)) none),(AI.mk (some 7) (AOp.mv (AX.t 45)) none)])) (AC.region [(AI.mk (some 36) (AOp.mv (AX.t 8)) none),(AI.mk (some 37) (AOp.bin BinOp.add 3 false (Operand.tmp 36) (Operand.const (Value.int IntKind.i64 1)) (AX.t 36) (AX.c (AV.v (Value.int IntKind.i64 1)))) none),(AI.mk (some 8) (AOp.mv (AX.t 37)) none)])))))) (AC.seq (AC.seq (AC.region [(AI.mk (some 9) (AOp.mv (AX.c (AV.v (Value.int IntKind.i64 0)))) none)]) (AC.block 2 (AC.loop (AC.seq (AC.seq (AC.region [(AI.mk (some 46) (AOp.mv (AX.t 9)) none),(AI.mk (some 47) (AOp.mv (AX.t 7)) none),(AI.mk (some 48) (AOp.len (AX.t 47)) none),(AI.mk (some 49) (AOp.bin BinOp.lss 3 false (Operand.tmp 46) (Operand.tmp 48) (AX.t 46) (AX.t 48)) none)]) (AC.cond (AX.t 49) AC.skip (AC.exit 2))) (AC.seq (AC.block 3 (AC.seq (AC.region [(AI.mk (some 52) (AOp.mv (AX.t 7)) none),(AI.mk (some 53) (AOp.mv (AX.t 9)) none),(AI.mk (some 54) (AOp.iad 1 (AX.t 52) (AX.t 53)) none),(AI.mk (some 55) (AOp.load false 1 (AX.t 54)) none),(AI.mk (some 56) (AOp.mv (AX.t 0)) none),(AI.mk (some 57) (AOp.len (AX.t 56)) none),(AI.mk (some 58) (AOp.bin BinOp.gtr 3 false (Operand.tmp 55) (Operand.tmp 57) (AX.t 55) (AX.t 57)) none)]) (AC.cond (AX.t 58) (AC.seq (AC.region [(AI.mk (some 4) (AOp.mv (AX.c (AV.nl 9))) none),(AI.mk (some 5) (AOp.mv (AX.c (AV.v (Value.int IntKind.i64 0)))) none),(AI.mk (some 6) (AOp.mv (AX.c (AV.v (Value.bool false)))) none)]) AC.ret) AC.skip))) (AC.region [(AI.mk (some 50) (AOp.mv (AX.t 9)) none),(AI.mk (some 51) (AOp.bin BinOp.add 3 false (Operand.tmp 50) (Operand.const (Value.int IntKind.i64 1)) (AX.t 50) (AX.c (AV.v (Value.int IntKind.i64 1)))) none),(AI.mk (some 9) (AOp.mv (AX.t 51)) none)])))))) (AC.seq (AC.region [(AI.mk (some 59) (AOp.bsl 30 9 []) none),(AI.mk (some 60) (AOp.mv (AX.t 0)) none),(AI.mk (some 61) (AOp.apf 30 9 120 (AX.t 59) (AX.t 60)) none),(AI.mk (some 62) (AOp.bsl 23 1 []) none),(AI.mk (some 10) (AOp.mv (AX.t 61)) none),(AI.mk (some 11) (AOp.mv (AX.t 62)) none)]) (AC.seq (AC.seq (AC.region [(AI.mk (some 12) (AOp.mv (AX.c (AV.v (Value.int IntKind.i64 0)))) none)]) (AC.block 4 (AC.loop (AC.seq (AC.seq (AC.region [(AI.mk (some 63) (AOp.mv (AX.t 12)) none),(AI.mk (some 64) (AOp.fad 0 (AX.t 3)) none),(AI.mk (some 65) (AOp.load false 1 (AX.t 64)) none),(AI.mk (some 66) (AOp.len (AX.t 65)) none),(AI.mk (some 67) (AOp.bin BinOp.lss 3 false (Operand.tmp 63) (Operand.tmp 66) (AX.t 63) (AX.t 66)) none)]) (AC.cond (AX.t 67) AC.skip (AC.exit 4))) (AC.seq (AC.block 5 (AC.seq (AC.region [(AI.mk (some 71) (AOp.fad 0 (AX.t 3)) none),(AI.mk (some 72) (AOp.load false 1 (AX.t 71)) none),(AI.mk (some 73) (AOp.mv (AX.t 12)) none),(AI.mk (some 74) (AOp.iad 9 (AX.t 72) (AX.t 73)) none),(AI.mk (some 75) (AOp.load true 9 (AX.t 74)) none),(AI.mk (some 76) (AOp.mv (AX.t 11)) none),(AI.mk (some 77) (AOp.call 17 [(AX.t 75),(AX.t 76)]) none),(AI.mk (some 70) (AOp.mv (AX.t 77)) none),(AI.mk (some 78) (AOp.ext (AX.t 70) 0) none),(AI.mk (some 79) (AOp.ext (AX.t 70) 1) none),(AI.mk (some 13) (AOp.new 30 9 (AX.c (AV.agg [(AV.v (Value.int IntKind.i64 0)),(AV.v (Value.string (ByteArray.mk #[]))),(AV.v (Value.string (ByteArray.mk #[]))),(AV.v (Value.int IntKind.u32 0)),(AV.nl 1),(AV.v (Value.int IntKind.i64 0)),(AV.nl 2),(AV.v (Value.int IntKind.i64 0)),(AV.v (Value.int IntKind.i64 0))]))) none),(AI.mk none (AOp.store 9 (AX.t 13) (AX.t 78)) none),(AI.mk (some 14) (AOp.mv (AX.t 79)) none)]) (AC.seq (AC.region [(AI.mk (some 80) (AOp.mv (AX.t 10)) none),(AI.mk (some 81) (AOp.load true 9 (AX.t 13)) none),(AI.mk (some 82) (AOp.bsl 30 9 [(AX.t 81)]) none),(AI.mk (some 83) (AOp.app 30 9 120 (AX.t 80) (AX.t 82)) none),(AI.mk (some 10) (AOp.mv (AX.t 83)) none)]) (AC.region [(AI.mk (some 84) (AOp.mv (AX.t 11)) none),(AI.mk (some 85) (AOp.mv (AX.t 10)) none),(AI.mk (some 86) (AOp.len (AX.t 85)) none),(AI.mk (some 87) (AOp.bsl 23 1 [(AX.t 86)]) none),(AI.mk (some 88) (AOp.app 23 1 8 (AX.t 84) (AX.t 87)) none),(AI.mk (some 11) (AOp.mv (AX.t 88)) none)])))) (AC.region [(AI.mk (some 68) (AOp.mv (AX.t 12)) none),(AI.mk (some 69) (AOp.bin BinOp.add 3 false (Operand.tmp 68) (Operand.const (Value.int IntKind.i64 1)) (AX.t 68) (AX.c (AV.v (Value.int IntKind.i64 1)))) none),(AI.mk (some 12) (AOp.mv (AX.t 69)) none)])))))) (AC.seq (AC.region [(AI.mk (some 90) (AOp.fad 1 (AX.t 3)) none),(AI.mk (some 91) (AOp.load false 1 (AX.t 90)) none),(AI.mk (some 92) (AOp.mv (AX.t 11)) none),(AI.mk (some 93) (AOp.call 19 [(AX.t 91),(AX.t 92)]) none),(AI.mk (some 89) (AOp.mv (AX.t 93)) none),(AI.mk (some 94) (AOp.ext (AX.t 89) 0) none),(AI.mk (some 95) (AOp.ext (AX.t 89) 1) none),(AI.mk (some 15) (AOp.mv (AX.t 94)) none),(AI.mk (some 16) (AOp.mv (AX.t 95)) none)]) (AC.seq (AC.region [(AI.mk (some 96) (AOp.mv (AX.t 10)) none),(AI.mk (some 97) (AOp.mv (AX.t 15)) none),(AI.mk (some 4) (AOp.mv (AX.t 96)) none),(AI.mk (some 5) (AOp.mv (AX.t 97)) none),(AI.mk (some 6) (AOp.mv (AX.c (AV.v (Value.bool true)))) none)]) AC.ret))))))))))
theorem cop23:copF Try.prog [42,46,66,67,70,71,72,73,74] 23=some A23:=by kernel_rfl
/-- boscage/boscageref13.May -/
def A33:AF:=(AF.mk 16 [(2,none)] (AC.seq (AC.region [(AI.mk (some 1) (AOp.new 30 9 (AX.t 0)) none),(AI.mk (some 2) (AOp.mv (AX.c (AV.v (Value.int IntKind.i64 0)))) none)]) (AC.seq (AC.seq (AC.region [(AI.mk (some 3) (AOp.fad 0 (AX.t 1)) none),(AI.mk (some 4) (AOp.load false 1 (AX.t 3)) none),(AI.mk (some 5) (AOp.bin BinOp.lss 3 false (Operand.tmp 4) (Operand.const (Value.int IntKind.i64 1)) (AX.t 4) (AX.c (AV.v (Value.int IntKind.i64 1)))) none),(AI.mk (some 6) (AOp.mv (AX.t 5)) none),(AI.mk (some 7) (AOp.fad 0 (AX.t 1)) (some (6,false))),(AI.mk (some 8) (AOp.load false 1 (AX.t 7)) (some (6,false))),(AI.mk (some 9) (AOp.bin BinOp.gtr 3 false (Operand.tmp 8) (Operand.const (Value.int IntKind.i64 6)) (AX.t 8) (AX.c (AV.v (Value.int IntKind.i64 6)))) (some (6,false))),(AI.mk (some 10) (AOp.pick (AX.t 6) (AX.c (AV.v (Value.bool true))) (AX.t 9)) none)]) (AC.cond (AX.t 10) (AC.seq (AC.region [(AI.mk (some 2) (AOp.mv (AX.c (AV.v (Value.int IntKind.i64 11)))) none)]) AC.ret) AC.skip)) (AC.seq (AC.seq (AC.region [(AI.mk (some 11) (AOp.load true 9 (AX.t 1)) none),(AI.mk (some 12) (AOp.call 44 [(AX.t 11)]) none)]) (AC.cond (AX.t 12) (AC.seq (AC.region [(AI.mk (some 2) (AOp.mv (AX.c (AV.v (Value.int IntKind.i64 6)))) none)]) AC.ret) AC.skip)) (AC.seq (AC.seq (AC.region [(AI.mk (some 13) (AOp.load true 9 (AX.t 1)) none),(AI.mk (some 14) (AOp.call 45 [(AX.t 13)]) none),(AI.mk (some 15) (AOp.un UnOp.not (AX.t 14)) none)]) (AC.cond (AX.t 15) (AC.seq (AC.region [(AI.mk (some 2) (AOp.mv (AX.c (AV.v (Value.int IntKind.i64 4)))) none)]) AC.ret) AC.skip)) (AC.seq (AC.region [(AI.mk (some 2) (AOp.mv (AX.c (AV.v (Value.int IntKind.i64 0)))) none)]) AC.ret))))))
theorem cop33:copF Try.prog [42,46,66,67,70,71,72,73,74] 33=some A33:=by kernel_rfl
/-- boscage/boscageref17.May -/
def A38:AF:=(AF.mk 42 [(2,none)] (AC.seq (AC.region [(AI.mk (some 2) (AOp.mv (AX.c (AV.v (Value.bool false)))) none)]) (AC.seq (AC.seq (AC.region [(AI.mk (some 3) (AOp.mv (AX.c (AV.v (Value.int IntKind.i64 0)))) none)]) (AC.block 0 (AC.loop (AC.seq (AC.seq (AC.region [(AI.mk (some 6) (AOp.mv (AX.t 3)) none),(AI.mk (some 7) (AOp.mv (AX.t 0)) none),(AI.mk (some 8) (AOp.len (AX.t 7)) none),(AI.mk (some 9) (AOp.bin BinOp.lss 3 false (Operand.tmp 6) (Operand.tmp 8) (AX.t 6) (AX.t 8)) none)]) (AC.cond (AX.t 9) AC.skip (AC.exit 0))) (AC.seq (AC.block 1 (AC.seq (AC.region [(AI.mk (some 12) (AOp.mv (AX.t 0)) none),(AI.mk (some 13) (AOp.mv (AX.t 3)) none),(AI.mk (some 14) (AOp.iad 9 (AX.t 12) (AX.t 13)) none),(AI.mk (some 15) (AOp.load true 9 (AX.t 14)) none),(AI.mk (some 16) (AOp.call 32 [(AX.t 15)]) none),(AI.mk (some 4) (AOp.mv (AX.t 16)) none)]) (AC.seq (AC.seq (AC.region [(AI.mk (some 5) (AOp.mv (AX.c (AV.v (Value.int IntKind.i64 0)))) none)]) (AC.block 2 (AC.loop (AC.seq (AC.seq (AC.region [(AI.mk (some 17) (AOp.mv (AX.t 5)) none),(AI.mk (some 18) (AOp.mv (AX.t 4)) none),(AI.mk (some 19) (AOp.len (AX.t 18)) none),(AI.mk (some 20) (AOp.bin BinOp.lss 3 false (Operand.tmp 17) (Operand.tmp 19) (AX.t 17) (AX.t 19)) none)]) (AC.cond (AX.t 20) AC.skip (AC.exit 2))) (AC.seq (AC.block 3 (AC.seq (AC.region [(AI.mk (some 23) (AOp.mv (AX.t 4)) none),(AI.mk (some 24) (AOp.mv (AX.t 5)) none),(AI.mk (some 25) (AOp.iad 1 (AX.t 23) (AX.t 24)) none),(AI.mk (some 26) (AOp.load false 1 (AX.t 25)) none),(AI.mk (some 27) (AOp.bin BinOp.lss 23 false (Operand.tmp 26) (Operand.const (Value.int IntKind.i64 1)) (AX.t 26) (AX.c (AV.v (Value.int IntKind.i64 1)))) none),(AI.mk (some 28) (AOp.mv (AX.t 27)) none),(AI.mk (some 29) (AOp.mv (AX.t 4)) (some (28,false))),(AI.mk (some 30) (AOp.mv (AX.t 5)) (some (28,false))),(AI.mk (some 31) (AOp.iad 1 (AX.t 29) (AX.t 30)) (some (28,false))),(AI.mk (some 32) (AOp.load false 1 (AX.t 31)) (some (28,false))),(AI.mk (some 33) (AOp.mv (AX.t 3)) (some (28,false))),(AI.mk (some 34) (AOp.bin BinOp.gtr 3 false (Operand.tmp 32) (Operand.tmp 33) (AX.t 32) (AX.t 33)) (some (28,false))),(AI.mk (some 35) (AOp.pick (AX.t 28) (AX.c (AV.v (Value.bool true))) (AX.t 34)) none)]) (AC.cond (AX.t 35) (AC.seq (AC.region [(AI.mk (some 2) (AOp.mv (AX.c (AV.v (Value.bool false)))) none)]) AC.ret) AC.skip))) (AC.region [(AI.mk (some 21) (AOp.mv (AX.t 5)) none),(AI.mk (some 22) (AOp.bin BinOp.add 3 false (Operand.tmp 21) (Operand.const (Value.int IntKind.i64 1)) (AX.t 21) (AX.c (AV.v (Value.int IntKind.i64 1)))) none),(AI.mk (some 5) (AOp.mv (AX.t 22)) none)])))))) (AC.seq (AC.region [(AI.mk (some 36) (AOp.mv (AX.t 0)) none),(AI.mk (some 37) (AOp.mv (AX.t 3)) none),(AI.mk (some 38) (AOp.iad 9 (AX.t 36) (AX.t 37)) none),(AI.mk (some 39) (AOp.load true 9 (AX.t 38)) none),(AI.mk (some 40) (AOp.call 33 [(AX.t 39)]) none),(AI.mk (some 41) (AOp.bin BinOp.neq 37 false (Operand.tmp 40) (Operand.const (Value.int IntKind.i64 0)) (AX.t 40) (AX.c (AV.v (Value.int IntKind.i64 0)))) none)]) (AC.cond (AX.t 41) (AC.seq (AC.region [(AI.mk (some 2) (AOp.mv (AX.c (AV.v (Value.bool false)))) none)]) AC.ret) AC.skip))))) (AC.region [(AI.mk (some 10) (AOp.mv (AX.t 3)) none),(AI.mk (some 11) (AOp.bin BinOp.add 3 false (Operand.tmp 10) (Operand.const (Value.int IntKind.i64 1)) (AX.t 10) (AX.c (AV.v (Value.int IntKind.i64 1)))) none),(AI.mk (some 3) (AOp.mv (AX.t 11)) none)])))))) (AC.seq (AC.region [(AI.mk (some 2) (AOp.mv (AX.c (AV.v (Value.bool true)))) none)]) AC.ret))))
theorem cop38:copF Try.prog [42,46,66,67,70,71,72,73,74] 38=some A38:=by kernel_rfl
/-- boscage/boscageref13.long -/
def A44:AF:=(AF.mk 44 [(2,none)] (AC.seq (AC.region [(AI.mk (some 1) (AOp.new 30 9 (AX.t 0)) none),(AI.mk (some 2) (AOp.mv (AX.c (AV.v (Value.bool false)))) none)]) (AC.seq (AC.region [(AI.mk (some 5) (AOp.fad 1 (AX.t 1)) none),(AI.mk (some 6) (AOp.load false 1 (AX.t 5)) none),(AI.mk (some 7) (AOp.lns (AX.t 6)) none),(AI.mk (some 8) (AOp.bin BinOp.gtr 3 false (Operand.tmp 7) (Operand.const (Value.int IntKind.i64 16)) (AX.t 7) (AX.c (AV.v (Value.int IntKind.i64 16)))) none),(AI.mk (some 9) (AOp.mv (AX.t 8)) none),(AI.mk (some 10) (AOp.fad 2 (AX.t 1)) (some (9,false))),(AI.mk (some 11) (AOp.load false 1 (AX.t 10)) (some (9,false))),(AI.mk (some 12) (AOp.lns (AX.t 11)) (some (9,false))),(AI.mk (some 13) (AOp.bin BinOp.gtr 3 false (Operand.tmp 12) (Operand.const (Value.int IntKind.i64 16)) (AX.t 12) (AX.c (AV.v (Value.int IntKind.i64 16)))) (some (9,false))),(AI.mk (some 14) (AOp.pick (AX.t 9) (AX.c (AV.v (Value.bool true))) (AX.t 13)) none),(AI.mk (some 3) (AOp.mv (AX.t 14)) none)]) (AC.seq (AC.seq (AC.region [(AI.mk (some 4) (AOp.mv (AX.c (AV.v (Value.int IntKind.i64 0)))) none)]) (AC.block 0 (AC.loop (AC.seq (AC.seq (AC.region [(AI.mk (some 15) (AOp.mv (AX.t 4)) none),(AI.mk (some 16) (AOp.fad 6 (AX.t 1)) none),(AI.mk (some 17) (AOp.load false 1 (AX.t 16)) none),(AI.mk (some 18) (AOp.len (AX.t 17)) none),(AI.mk (some 19) (AOp.bin BinOp.lss 3 false (Operand.tmp 15) (Operand.tmp 18) (AX.t 15) (AX.t 18)) none)]) (AC.cond (AX.t 19) AC.skip (AC.exit 0))) (AC.seq (AC.block 1 (AC.region [(AI.mk (some 22) (AOp.mv (AX.t 3)) none),(AI.mk (some 23) (AOp.mv (AX.t 22)) none),(AI.mk (some 24) (AOp.fad 6 (AX.t 1)) (some (23,false))),(AI.mk (some 25) (AOp.load false 1 (AX.t 24)) (some (23,false))),(AI.mk (some 26) (AOp.mv (AX.t 4)) (some (23,false))),(AI.mk (some 27) (AOp.iad 2 (AX.t 25) (AX.t 26)) (some (23,false))),(AI.mk (some 28) (AOp.fad 0 (AX.t 27)) (some (23,false))),(AI.mk (some 29) (AOp.load false 1 (AX.t 28)) (some (23,false))),(AI.mk (some 30) (AOp.lns (AX.t 29)) (some (23,false))),(AI.mk (some 31) (AOp.bin BinOp.gtr 3 false (Operand.tmp 30) (Operand.const (Value.int IntKind.i64 16)) (AX.t 30) (AX.c (AV.v (Value.int IntKind.i64 16)))) (some (23,false))),(AI.mk (some 32) (AOp.pick (AX.t 23) (AX.c (AV.v (Value.bool true))) (AX.t 31)) none),(AI.mk (some 33) (AOp.mv (AX.t 32)) none),(AI.mk (some 34) (AOp.fad 6 (AX.t 1)) (some (33,false))),(AI.mk (some 35) (AOp.load false 1 (AX.t 34)) (some (33,false))),(AI.mk (some 36) (AOp.mv (AX.t 4)) (some (33,false))),(AI.mk (some 37) (AOp.iad 2 (AX.t 35) (AX.t 36)) (some (33,false))),(AI.mk (some 38) (AOp.fad 1 (AX.t 37)) (some (33,false))),(AI.mk (some 39) (AOp.load false 1 (AX.t 38)) (some (33,false))),(AI.mk (some 40) (AOp.lns (AX.t 39)) (some (33,false))),(AI.mk (some 41) (AOp.bin BinOp.gtr 3 false (Operand.tmp 40) (Operand.const (Value.int IntKind.i64 16)) (AX.t 40) (AX.c (AV.v (Value.int IntKind.i64 16)))) (some (33,false))),(AI.mk (some 42) (AOp.pick (AX.t 33) (AX.c (AV.v (Value.bool true))) (AX.t 41)) none),(AI.mk (some 3) (AOp.mv (AX.t 42)) none)])) (AC.region [(AI.mk (some 20) (AOp.mv (AX.t 4)) none),(AI.mk (some 21) (AOp.bin BinOp.add 3 false (Operand.tmp 20) (Operand.const (Value.int IntKind.i64 1)) (AX.t 20) (AX.c (AV.v (Value.int IntKind.i64 1)))) none),(AI.mk (some 4) (AOp.mv (AX.t 21)) none)])))))) (AC.seq (AC.region [(AI.mk (some 43) (AOp.mv (AX.t 3)) none),(AI.mk (some 2) (AOp.mv (AX.t 43)) none)]) AC.ret)))))
theorem cop44:copF Try.prog [42,46,66,67,70,71,72,73,74] 44=some A44:=by kernel_rfl
/-- boscage/boscageref13.form -/
def A45:AF:=(AF.mk 106 [(2,none)] (AC.seq (AC.region [(AI.mk (some 1) (AOp.new 30 9 (AX.t 0)) none),(AI.mk (some 2) (AOp.mv (AX.c (AV.v (Value.bool false)))) none)]) (AC.seq (AC.seq (AC.region [(AI.mk (some 4) (AOp.fad 8 (AX.t 1)) none),(AI.mk (some 5) (AOp.load false 1 (AX.t 4)) none),(AI.mk (some 6) (AOp.bin BinOp.lss 3 false (Operand.tmp 5) (Operand.const (Value.int IntKind.i64 0)) (AX.t 5) (AX.c (AV.v (Value.int IntKind.i64 0)))) none)]) (AC.cond (AX.t 6) (AC.seq (AC.region [(AI.mk (some 2) (AOp.mv (AX.c (AV.v (Value.bool false)))) none)]) AC.ret) AC.skip)) (AC.seq (AC.seq (AC.region [(AI.mk (some 7) (AOp.fad 0 (AX.t 1)) none),(AI.mk (some 8) (AOp.load false 1 (AX.t 7)) none)]) (AC.block 0 (AC.seq (AC.seq (AC.region [(AI.mk (some 10) (AOp.bin BinOp.eql 3 false (Operand.tmp 8) (Operand.const (Value.int IntKind.i64 1)) (AX.t 8) (AX.c (AV.v (Value.int IntKind.i64 1)))) none),(AI.mk (some 9) (AOp.mv (AX.t 10)) none)]) (AC.cond (AX.t 9) AC.skip (AC.region [(AI.mk (some 11) (AOp.bin BinOp.eql 3 false (Operand.tmp 8) (Operand.const (Value.int IntKind.i64 6)) (AX.t 8) (AX.c (AV.v (Value.int IntKind.i64 6)))) none),(AI.mk (some 9) (AOp.mv (AX.t 11)) none)]))) (AC.cond (AX.t 9) (AC.seq (AC.region [(AI.mk (some 12) (AOp.fad 7 (AX.t 1)) none),(AI.mk (some 13) (AOp.load false 1 (AX.t 12)) none),(AI.mk (some 14) (AOp.bin BinOp.eql 3 false (Operand.tmp 13) (Operand.const (Value.int IntKind.i64 1)) (AX.t 13) (AX.c (AV.v (Value.int IntKind.i64 1)))) none),(AI.mk (some 15) (AOp.mv (AX.t 14)) none),(AI.mk (some 16) (AOp.load true 9 (AX.t 1)) (some (15,true))),(AI.mk (some 17) (AOp.call 54 [(AX.t 16),(AX.c (AV.v (Value.bool false))),(AX.c (AV.v (Value.bool true))),(AX.c (AV.v (Value.bool true))),(AX.c (AV.v (Value.bool true)))]) (some (15,true))),(AI.mk (some 18) (AOp.pick (AX.t 15) (AX.t 17) (AX.c (AV.v (Value.bool false)))) none),(AI.mk (some 2) (AOp.mv (AX.t 18)) none)]) AC.ret) (AC.seq (AC.region [(AI.mk (some 20) (AOp.bin BinOp.eql 3 false (Operand.tmp 8) (Operand.const (Value.int IntKind.i64 2)) (AX.t 8) (AX.c (AV.v (Value.int IntKind.i64 2)))) none),(AI.mk (some 19) (AOp.mv (AX.t 20)) none)]) (AC.cond (AX.t 19) (AC.seq (AC.seq (AC.region [(AI.mk (some 3) (AOp.mv (AX.c (AV.v (Value.int IntKind.i64 0)))) none)]) (AC.block 1 (AC.loop (AC.seq (AC.seq (AC.region [(AI.mk (some 21) (AOp.mv (AX.t 3)) none),(AI.mk (some 22) (AOp.fad 4 (AX.t 1)) none),(AI.mk (some 23) (AOp.load false 1 (AX.t 22)) none),(AI.mk (some 24) (AOp.len (AX.t 23)) none),(AI.mk (some 25) (AOp.bin BinOp.lss 3 false (Operand.tmp 21) (Operand.tmp 24) (AX.t 21) (AX.t 24)) none)]) (AC.cond (AX.t 25) AC.skip (AC.exit 1))) (AC.seq (AC.block 2 (AC.seq (AC.region [(AI.mk (some 28) (AOp.fad 4 (AX.t 1)) none),(AI.mk (some 29) (AOp.load false 1 (AX.t 28)) none),(AI.mk (some 30) (AOp.mv (AX.t 3)) none),(AI.mk (some 31) (AOp.iad 1 (AX.t 29) (AX.t 30)) none),(AI.mk (some 32) (AOp.load false 1 (AX.t 31)) none),(AI.mk (some 33) (AOp.bin BinOp.eql 23 false (Operand.tmp 32) (Operand.const (Value.int IntKind.i64 0)) (AX.t 32) (AX.c (AV.v (Value.int IntKind.i64 0)))) none)]) (AC.cond (AX.t 33) (AC.seq (AC.region [(AI.mk (some 2) (AOp.mv (AX.c (AV.v (Value.bool false)))) none)]) AC.ret) AC.skip))) (AC.region [(AI.mk (some 26) (AOp.mv (AX.t 3)) none),(AI.mk (some 27) (AOp.bin BinOp.add 3 false (Operand.tmp 26) (Operand.const (Value.int IntKind.i64 1)) (AX.t 26) (AX.c (AV.v (Value.int IntKind.i64 1)))) none),(AI.mk (some 3) (AOp.mv (AX.t 27)) none)])))))) (AC.seq (AC.draw [(AI.mk (some 34) (AOp.fad 4 (AX.t 1)) none),(AI.mk (some 35) (AOp.load false 1 (AX.t 34)) none),(AI.mk (some 36) (AOp.len (AX.t 35)) none),(AI.mk (some 37) (AOp.fad 3 (AX.t 1)) none),(AI.mk (some 38) (AOp.load false 1 (AX.t 37)) none),(AI.mk (some 39) (AOp.call 55 [(AX.t 38)]) none),(AI.mk (some 40) (AOp.len (AX.t 39)) none),(AI.mk (some 41) (AOp.bin BinOp.eql 3 false (Operand.tmp 36) (Operand.tmp 40) (AX.t 36) (AX.t 40)) none),(AI.mk (some 42) (AOp.mv (AX.t 41)) none),(AI.mk (some 43) (AOp.fad 7 (AX.t 1)) (some (42,true))),(AI.mk (some 44) (AOp.load false 1 (AX.t 43)) (some (42,true))),(AI.mk (some 45) (AOp.bin BinOp.geq 3 false (Operand.tmp 44) (Operand.const (Value.int IntKind.i64 0)) (AX.t 44) (AX.c (AV.v (Value.int IntKind.i64 0)))) (some (42,true))),(AI.mk (some 46) (AOp.pick (AX.t 42) (AX.t 45) (AX.c (AV.v (Value.bool false)))) none),(AI.mk (some 47) (AOp.mv (AX.t 46)) none),(AI.mk (some 48) (AOp.load true 9 (AX.t 1)) (some (47,true))),(AI.mk (some 49) (AOp.call 54 [(AX.t 48),(AX.c (AV.v (Value.bool true))),(AX.c (AV.v (Value.bool false))),(AX.c (AV.v (Value.bool true))),(AX.c (AV.v (Value.bool true)))]) (some (47,true))),(AI.mk (some 50) (AOp.pick (AX.t 47) (AX.t 49) (AX.c (AV.v (Value.bool false)))) none),(AI.mk (some 2) (AOp.mv (AX.t 50)) none)]) AC.ret)) (AC.seq (AC.region [(AI.mk (some 52) (AOp.bin BinOp.eql 3 false (Operand.tmp 8) (Operand.const (Value.int IntKind.i64 3)) (AX.t 8) (AX.c (AV.v (Value.int IntKind.i64 3)))) none),(AI.mk (some 51) (AOp.mv (AX.t 52)) none)]) (AC.cond (AX.t 51) (AC.seq (AC.region [(AI.mk (some 53) (AOp.fad 6 (AX.t 1)) none),(AI.mk (some 54) (AOp.load false 1 (AX.t 53)) none),(AI.mk (some 55) (AOp.len (AX.t 54)) none),(AI.mk (some 56) (AOp.bin BinOp.geq 3 false (Operand.tmp 55) (Operand.const (Value.int IntKind.i64 2)) (AX.t 55) (AX.c (AV.v (Value.int IntKind.i64 2)))) none),(AI.mk (some 57) (AOp.mv (AX.t 56)) none),(AI.mk (some 58) (AOp.fad 6 (AX.t 1)) (some (57,true))),(AI.mk (some 59) (AOp.load false 1 (AX.t 58)) (some (57,true))),(AI.mk (some 60) (AOp.call 56 [(AX.t 59)]) (some (57,true))),(AI.mk (some 61) (AOp.pick (AX.t 57) (AX.t 60) (AX.c (AV.v (Value.bool false)))) none),(AI.mk (some 62) (AOp.mv (AX.t 61)) none),(AI.mk (some 63) (AOp.fad 7 (AX.t 1)) (some (62,true))),(AI.mk (some 64) (AOp.load false 1 (AX.t 63)) (some (62,true))),(AI.mk (some 65) (AOp.fad 6 (AX.t 1)) (some (62,true))),(AI.mk (some 66) (AOp.load false 1 (AX.t 65)) (some (62,true))),(AI.mk (some 67) (AOp.len (AX.t 66)) (some (62,true))),(AI.mk (some 68) (AOp.bin BinOp.eql 3 false (Operand.tmp 64) (Operand.tmp 67) (AX.t 64) (AX.t 67)) (some (62,true))),(AI.mk (some 69) (AOp.pick (AX.t 62) (AX.t 68) (AX.c (AV.v (Value.bool false)))) none),(AI.mk (some 70) (AOp.mv (AX.t 69)) none),(AI.mk (some 71) (AOp.load true 9 (AX.t 1)) (some (70,true))),(AI.mk (some 72) (AOp.call 54 [(AX.t 71),(AX.c (AV.v (Value.bool true))),(AX.c (AV.v (Value.bool true))),(AX.c (AV.v (Value.bool true))),(AX.c (AV.v (Value.bool false)))]) (some (70,true))),(AI.mk (some 73) (AOp.pick (AX.t 70) (AX.t 72) (AX.c (AV.v (Value.bool false)))) none),(AI.mk (some 2) (AOp.mv (AX.t 73)) none)]) AC.ret) (AC.seq (AC.region [(AI.mk (some 75) (AOp.bin BinOp.eql 3 false (Operand.tmp 8) (Operand.const (Value.int IntKind.i64 4)) (AX.t 8) (AX.c (AV.v (Value.int IntKind.i64 4)))) none),(AI.mk (some 74) (AOp.mv (AX.t 75)) none)]) (AC.cond (AX.t 74) (AC.seq (AC.region [(AI.mk (some 76) (AOp.fad 3 (AX.t 1)) none),(AI.mk (some 77) (AOp.load false 1 (AX.t 76)) none),(AI.mk (some 78) (AOp.bin BinOp.eql 27 false (Operand.tmp 77) (Operand.const (Value.int IntKind.u32 0)) (AX.t 77) (AX.c (AV.v (Value.int IntKind.u32 0)))) none),(AI.mk (some 79) (AOp.mv (AX.t 78)) none),(AI.mk (some 80) (AOp.fad 4 (AX.t 1)) (some (79,true))),(AI.mk (some 81) (AOp.load false 1 (AX.t 80)) (some (79,true))),(AI.mk (some 82) (AOp.len (AX.t 81)) (some (79,true))),(AI.mk (some 83) (AOp.bin BinOp.eql 3 false (Operand.tmp 82) (Operand.const (Value.int IntKind.i64 2)) (AX.t 82) (AX.c (AV.v (Value.int IntKind.i64 2)))) (some (79,true))),(AI.mk (some 84) (AOp.pick (AX.t 79) (AX.t 83) (AX.c (AV.v (Value.bool false)))) none),(AI.mk (some 85) (AOp.mv (AX.t 84)) none),(AI.mk (some 86) (AOp.fad 7 (AX.t 1)) (some (85,true))),(AI.mk (some 87) (AOp.load false 1 (AX.t 86)) (some (85,true))),(AI.mk (some 88) (AOp.bin BinOp.geq 3 false (Operand.tmp 87) (Operand.const (Value.int IntKind.i64 1)) (AX.t 87) (AX.c (AV.v (Value.int IntKind.i64 1)))) (some (85,true))),(AI.mk (some 89) (AOp.pick (AX.t 85) (AX.t 88) (AX.c (AV.v (Value.bool false)))) none),(AI.mk (some 90) (AOp.mv (AX.t 89)) none),(AI.mk (some 91) (AOp.load true 9 (AX.t 1)) (some (90,true))),(AI.mk (some 92) (AOp.call 54 [(AX.t 91),(AX.c (AV.v (Value.bool false))),(AX.c (AV.v (Value.bool false))),(AX.c (AV.v (Value.bool true))),(AX.c (AV.v (Value.bool true)))]) (some (90,true))),(AI.mk (some 93) (AOp.pick (AX.t 90) (AX.t 92) (AX.c (AV.v (Value.bool false)))) none),(AI.mk (some 2) (AOp.mv (AX.t 93)) none)]) AC.ret) AC.skip)))))))))) (AC.seq (AC.region [(AI.mk (some 94) (AOp.fad 5 (AX.t 1)) none),(AI.mk (some 95) (AOp.load false 1 (AX.t 94)) none),(AI.mk (some 96) (AOp.bin BinOp.neq 23 false (Operand.tmp 95) (Operand.const (Value.int IntKind.i64 0)) (AX.t 95) (AX.c (AV.v (Value.int IntKind.i64 0)))) none),(AI.mk (some 97) (AOp.mv (AX.t 96)) none),(AI.mk (some 98) (AOp.fad 7 (AX.t 1)) (some (97,true))),(AI.mk (some 99) (AOp.load false 1 (AX.t 98)) (some (97,true))),(AI.mk (some 100) (AOp.bin BinOp.eql 3 false (Operand.tmp 99) (Operand.const (Value.int IntKind.i64 0)) (AX.t 99) (AX.c (AV.v (Value.int IntKind.i64 0)))) (some (97,true))),(AI.mk (some 101) (AOp.pick (AX.t 97) (AX.t 100) (AX.c (AV.v (Value.bool false)))) none),(AI.mk (some 102) (AOp.mv (AX.t 101)) none),(AI.mk (some 103) (AOp.load true 9 (AX.t 1)) (some (102,true))),(AI.mk (some 104) (AOp.call 54 [(AX.t 103),(AX.c (AV.v (Value.bool true))),(AX.c (AV.v (Value.bool true))),(AX.c (AV.v (Value.bool false))),(AX.c (AV.v (Value.bool true)))]) (some (102,true))),(AI.mk (some 105) (AOp.pick (AX.t 102) (AX.t 104) (AX.c (AV.v (Value.bool false)))) none),(AI.mk (some 2) (AOp.mv (AX.t 105)) none)]) AC.ret)))))
theorem cop45:copF Try.prog [42,46,66,67,70,71,72,73,74] 45=some A45:=by kernel_rfl
/-- boscage/boscageref13.bare -/
def A54:AF:=(AF.mk 53 [(10,none)] (AC.seq (AC.region [(AI.mk (some 5) (AOp.new 30 9 (AX.t 0)) none),(AI.mk (some 10) (AOp.mv (AX.c (AV.v (Value.bool false)))) none)]) (AC.seq (AC.seq (AC.region [(AI.mk (some 11) (AOp.mv (AX.t 1)) none),(AI.mk (some 12) (AOp.mv (AX.t 11)) none),(AI.mk (some 13) (AOp.fad 1 (AX.t 5)) (some (12,true))),(AI.mk (some 14) (AOp.load false 1 (AX.t 13)) (some (12,true))),(AI.mk (some 15) (AOp.bin BinOp.neq 9 false (Operand.tmp 14) (Operand.const (Value.string (ByteArray.mk #[]))) (AX.t 14) (AX.c (AV.v (Value.string (ByteArray.mk #[]))))) (some (12,true))),(AI.mk (some 16) (AOp.mv (AX.t 15)) (some (12,true))),(AI.mk (some 17) (AOp.fad 2 (AX.t 5)) (some (16,false))),(AI.mk (some 18) (AOp.load false 1 (AX.t 17)) (some (16,false))),(AI.mk (some 19) (AOp.bin BinOp.neq 9 false (Operand.tmp 18) (Operand.const (Value.string (ByteArray.mk #[]))) (AX.t 18) (AX.c (AV.v (Value.string (ByteArray.mk #[]))))) (some (16,false))),(AI.mk (some 20) (AOp.pick (AX.t 16) (AX.c (AV.v (Value.bool true))) (AX.t 19)) (some (12,true))),(AI.mk (some 21) (AOp.pick (AX.t 12) (AX.t 20) (AX.c (AV.v (Value.bool false)))) none),(AI.mk (some 22) (AOp.mv (AX.t 21)) none),(AI.mk (some 23) (AOp.mv (AX.t 2)) (some (22,false))),(AI.mk (some 24) (AOp.mv (AX.t 23)) (some (22,false))),(AI.mk (some 25) (AOp.fad 3 (AX.t 5)) (some (24,true))),(AI.mk (some 26) (AOp.load false 1 (AX.t 25)) (some (24,true))),(AI.mk (some 27) (AOp.bin BinOp.neq 27 false (Operand.tmp 26) (Operand.const (Value.int IntKind.u32 0)) (AX.t 26) (AX.c (AV.v (Value.int IntKind.u32 0)))) (some (24,true))),(AI.mk (some 28) (AOp.mv (AX.t 27)) (some (24,true))),(AI.mk (some 29) (AOp.fad 4 (AX.t 5)) (some (28,false))),(AI.mk (some 30) (AOp.load false 1 (AX.t 29)) (some (28,false))),(AI.mk (some 31) (AOp.len (AX.t 30)) (some (28,false))),(AI.mk (some 32) (AOp.bin BinOp.gtr 3 false (Operand.tmp 31) (Operand.const (Value.int IntKind.i64 0)) (AX.t 31) (AX.c (AV.v (Value.int IntKind.i64 0)))) (some (28,false))),(AI.mk (some 33) (AOp.pick (AX.t 28) (AX.c (AV.v (Value.bool true))) (AX.t 32)) (some (24,true))),(AI.mk (some 34) (AOp.pick (AX.t 24) (AX.t 33) (AX.c (AV.v (Value.bool false)))) (some (22,false))),(AI.mk (some 35) (AOp.pick (AX.t 22) (AX.c (AV.v (Value.bool true))) (AX.t 34)) none)]) (AC.cond (AX.t 35) (AC.seq (AC.region [(AI.mk (some 10) (AOp.mv (AX.c (AV.v (Value.bool false)))) none)]) AC.ret) AC.skip)) (AC.seq (AC.region [(AI.mk (some 36) (AOp.mv (AX.t 3)) none),(AI.mk (some 37) (AOp.un UnOp.not (AX.t 36)) none),(AI.mk (some 38) (AOp.mv (AX.t 37)) none),(AI.mk (some 39) (AOp.fad 5 (AX.t 5)) (some (38,false))),(AI.mk (some 40) (AOp.load false 1 (AX.t 39)) (some (38,false))),(AI.mk (some 41) (AOp.bin BinOp.eql 23 false (Operand.tmp 40) (Operand.const (Value.int IntKind.i64 0)) (AX.t 40) (AX.c (AV.v (Value.int IntKind.i64 0)))) (some (38,false))),(AI.mk (some 42) (AOp.pick (AX.t 38) (AX.c (AV.v (Value.bool true))) (AX.t 41)) none),(AI.mk (some 43) (AOp.mv (AX.t 42)) none),(AI.mk (some 44) (AOp.mv (AX.t 4)) (some (43,true))),(AI.mk (some 45) (AOp.un UnOp.not (AX.t 44)) (some (43,true))),(AI.mk (some 46) (AOp.mv (AX.t 45)) (some (43,true))),(AI.mk (some 47) (AOp.fad 6 (AX.t 5)) (some (46,false))),(AI.mk (some 48) (AOp.load false 1 (AX.t 47)) (some (46,false))),(AI.mk (some 49) (AOp.len (AX.t 48)) (some (46,false))),(AI.mk (some 50) (AOp.bin BinOp.eql 3 false (Operand.tmp 49) (Operand.const (Value.int IntKind.i64 0)) (AX.t 49) (AX.c (AV.v (Value.int IntKind.i64 0)))) (some (46,false))),(AI.mk (some 51) (AOp.pick (AX.t 46) (AX.c (AV.v (Value.bool true))) (AX.t 50)) (some (43,true))),(AI.mk (some 52) (AOp.pick (AX.t 43) (AX.t 51) (AX.c (AV.v (Value.bool false)))) none),(AI.mk (some 10) (AOp.mv (AX.t 52)) none)]) AC.ret))))
theorem cop54:copF Try.prog [42,46,66,67,70,71,72,73,74] 54=some A54:=by kernel_rfl
/-- boscage/boscageref06.All -/
def A55:AF:=(AF.mk 18 [(2,none)] (AC.seq (AC.region [(AI.mk (some 2) (AOp.mv (AX.c (AV.nl 1))) none)]) (AC.seq (AC.region [(AI.mk (some 5) (AOp.bsl 3 1 []) none),(AI.mk (some 3) (AOp.mv (AX.t 5)) none)]) (AC.seq (AC.seq (AC.region [(AI.mk (some 4) (AOp.mv (AX.c (AV.v (Value.int IntKind.i64 0)))) none)]) (AC.block 0 (AC.loop (AC.seq (AC.seq (AC.region [(AI.mk (some 6) (AOp.mv (AX.t 4)) none),(AI.mk (some 7) (AOp.bin BinOp.lss 3 false (Operand.tmp 6) (Operand.const (Value.int IntKind.i64 32)) (AX.t 6) (AX.c (AV.v (Value.int IntKind.i64 32)))) none)]) (AC.cond (AX.t 7) AC.skip (AC.exit 0))) (AC.seq (AC.block 1 (AC.seq (AC.region [(AI.mk (some 10) (AOp.mv (AX.t 0)) none),(AI.mk (some 11) (AOp.mv (AX.t 4)) none),(AI.mk (some 12) (AOp.call 63 [(AX.t 10),(AX.t 11)]) none)]) (AC.cond (AX.t 12) (AC.region [(AI.mk (some 13) (AOp.mv (AX.t 3)) none),(AI.mk (some 14) (AOp.mv (AX.t 4)) none),(AI.mk (some 15) (AOp.bsl 3 1 [(AX.t 14)]) none),(AI.mk (some 16) (AOp.app 3 1 8 (AX.t 13) (AX.t 15)) none),(AI.mk (some 3) (AOp.mv (AX.t 16)) none)]) AC.skip))) (AC.region [(AI.mk (some 8) (AOp.mv (AX.t 4)) none),(AI.mk (some 9) (AOp.bin BinOp.add 3 false (Operand.tmp 8) (Operand.const (Value.int IntKind.i64 1)) (AX.t 8) (AX.c (AV.v (Value.int IntKind.i64 1)))) none),(AI.mk (some 4) (AOp.mv (AX.t 9)) none)])))))) (AC.seq (AC.region [(AI.mk (some 17) (AOp.mv (AX.t 3)) none),(AI.mk (some 2) (AOp.mv (AX.t 17)) none)]) AC.ret)))))
theorem cop55:copF Try.prog [42,46,66,67,70,71,72,73,74] 55=some A55:=by kernel_rfl
/-- boscage/boscageref07.Is -/
def A56:AF:=(AF.mk 23 [(2,none)] (AC.seq (AC.region [(AI.mk (some 2) (AOp.mv (AX.c (AV.v (Value.bool false)))) none)]) (AC.seq (AC.seq (AC.region [(AI.mk (some 3) (AOp.mv (AX.c (AV.v (Value.int IntKind.i64 1)))) none)]) (AC.block 0 (AC.loop (AC.seq (AC.seq (AC.region [(AI.mk (some 4) (AOp.mv (AX.t 3)) none),(AI.mk (some 5) (AOp.mv (AX.t 0)) none),(AI.mk (some 6) (AOp.len (AX.t 5)) none),(AI.mk (some 7) (AOp.bin BinOp.lss 3 false (Operand.tmp 4) (Operand.tmp 6) (AX.t 4) (AX.t 6)) none)]) (AC.cond (AX.t 7) AC.skip (AC.exit 0))) (AC.seq (AC.block 1 (AC.seq (AC.draw [(AI.mk (some 10) (AOp.mv (AX.t 0)) none),(AI.mk (some 11) (AOp.mv (AX.t 3)) none),(AI.mk (some 12) (AOp.bin BinOp.sub 3 false (Operand.tmp 11) (Operand.const (Value.int IntKind.i64 1)) (AX.t 11) (AX.c (AV.v (Value.int IntKind.i64 1)))) none),(AI.mk (some 13) (AOp.iad 2 (AX.t 10) (AX.t 12)) none),(AI.mk (some 14) (AOp.fad 0 (AX.t 13)) none),(AI.mk (some 15) (AOp.load false 1 (AX.t 14)) none),(AI.mk (some 16) (AOp.mv (AX.t 0)) none),(AI.mk (some 17) (AOp.mv (AX.t 3)) none),(AI.mk (some 18) (AOp.iad 2 (AX.t 16) (AX.t 17)) none),(AI.mk (some 19) (AOp.fad 0 (AX.t 18)) none),(AI.mk (some 20) (AOp.load false 1 (AX.t 19)) none),(AI.mk (some 21) (AOp.call 64 [(AX.t 15),(AX.t 20)]) none),(AI.mk (some 22) (AOp.un UnOp.not (AX.t 21)) none)]) (AC.cond (AX.t 22) (AC.seq (AC.region [(AI.mk (some 2) (AOp.mv (AX.c (AV.v (Value.bool false)))) none)]) AC.ret) AC.skip))) (AC.region [(AI.mk (some 8) (AOp.mv (AX.t 3)) none),(AI.mk (some 9) (AOp.bin BinOp.add 3 false (Operand.tmp 8) (Operand.const (Value.int IntKind.i64 1)) (AX.t 8) (AX.c (AV.v (Value.int IntKind.i64 1)))) none),(AI.mk (some 3) (AOp.mv (AX.t 9)) none)])))))) (AC.seq (AC.region [(AI.mk (some 2) (AOp.mv (AX.c (AV.v (Value.bool true)))) none)]) AC.ret))))
theorem cop56:copF Try.prog [42,46,66,67,70,71,72,73,74] 56=some A56:=by kernel_rfl
/-- boscage/boscageref06.Has -/
def A63:AF:=(AF.mk 20 [(4,none)] (AC.seq (AC.region [(AI.mk (some 4) (AOp.mv (AX.c (AV.v (Value.bool false)))) none)]) (AC.seq (AC.seq (AC.region [(AI.mk (some 5) (AOp.mv (AX.c (AV.v (Value.int IntKind.i64 0)))) none)]) (AC.block 0 (AC.loop (AC.seq (AC.seq (AC.region [(AI.mk (some 6) (AOp.mv (AX.t 5)) none),(AI.mk (some 7) (AOp.bin BinOp.lss 3 false (Operand.tmp 6) (Operand.const (Value.int IntKind.i64 32)) (AX.t 6) (AX.c (AV.v (Value.int IntKind.i64 32)))) none)]) (AC.cond (AX.t 7) AC.skip (AC.exit 0))) (AC.seq (AC.block 1 (AC.seq (AC.seq (AC.region [(AI.mk (some 10) (AOp.mv (AX.t 0)) none),(AI.mk (some 11) (AOp.bin BinOp.rem 27 false (Operand.tmp 10) (Operand.const (Value.int IntKind.u32 2)) (AX.t 10) (AX.c (AV.v (Value.int IntKind.u32 2)))) none),(AI.mk (some 12) (AOp.bin BinOp.eql 27 false (Operand.tmp 11) (Operand.const (Value.int IntKind.u32 1)) (AX.t 11) (AX.c (AV.v (Value.int IntKind.u32 1)))) none),(AI.mk (some 13) (AOp.mv (AX.t 12)) none),(AI.mk (some 14) (AOp.mv (AX.t 5)) (some (13,true))),(AI.mk (some 15) (AOp.mv (AX.t 1)) (some (13,true))),(AI.mk (some 16) (AOp.bin BinOp.eql 3 false (Operand.tmp 14) (Operand.tmp 15) (AX.t 14) (AX.t 15)) (some (13,true))),(AI.mk (some 17) (AOp.pick (AX.t 13) (AX.t 16) (AX.c (AV.v (Value.bool false)))) none)]) (AC.cond (AX.t 17) (AC.seq (AC.region [(AI.mk (some 4) (AOp.mv (AX.c (AV.v (Value.bool true)))) none)]) AC.ret) AC.skip)) (AC.region [(AI.mk (some 18) (AOp.mv (AX.t 0)) none),(AI.mk (some 19) (AOp.bin BinOp.quo 27 false (Operand.tmp 18) (Operand.const (Value.int IntKind.u32 2)) (AX.t 18) (AX.c (AV.v (Value.int IntKind.u32 2)))) none),(AI.mk (some 0) (AOp.mv (AX.t 19)) none)]))) (AC.region [(AI.mk (some 8) (AOp.mv (AX.t 5)) none),(AI.mk (some 9) (AOp.bin BinOp.add 3 false (Operand.tmp 8) (Operand.const (Value.int IntKind.i64 1)) (AX.t 8) (AX.c (AV.v (Value.int IntKind.i64 1)))) none),(AI.mk (some 5) (AOp.mv (AX.t 9)) none)])))))) (AC.seq (AC.region [(AI.mk (some 4) (AOp.mv (AX.c (AV.v (Value.bool false)))) none)]) AC.ret))))
theorem cop63:copF Try.prog [42,46,66,67,70,71,72,73,74] 63=some A63:=by kernel_rfl
end Go.Proofs.Ytnammfeiehikfaa.Sim

namespace Go.Proofs.Ytnammfeiehikfaa.Ord
def less (a b:List UInt8):Bool:=cmp a b == -1

theorem cmp_cases (a b:List UInt8):cmp a b = -1∨cmp a b=0∨cmp a b=1:=by
  rw [cmp_com];split<;>split<;>simp
  split
  · exact Or.inl (by assumption)
  · exact Or.inr (by simp_all)
end Go.Proofs.Ytnammfeiehikfaa.Ord

namespace Go.Proofs.Ytnammfeiehikfaa.Ord
open Go.RowKit
set_option linter.unusedVariables false

theorem less_ne {a b:ByteArray} {k:Nat} (h:Same a b k) (h1:k < a.size) (h2:k < b.size) (e:((a[k].toNat:Int) != (b[k].toNat:Int))=true):decide ((a[k].toNat:Int) < (b[k].toNat:Int))=less a.data.toList b.data.toList:=by
  have hc:=h.com_ne h1 h2 e
  have h3:=cmp_com a.data.toList b.data.toList
  rw [hc] at h3
  have h4:=cmp_at h1 h2 h3
  unfold less
  rw [h4]
  by_cases hl:(a[k].toNat:Int) < (b[k].toNat:Int)
  · simp [hl]
  · simp [hl]
theorem less_end {a b:ByteArray} {k:Nat} (h:Same a b k) (hn:¬(k < a.size∧k < b.size)):decide (a.size < b.size)=less a.data.toList b.data.toList:=by
  have hc:=h.com_end hn
  have h3:=cmp_com a.data.toList b.data.toList
  rw [hc] at h3
  have e1:a.data.toList.length=a.size:=by simp
  have e2:b.data.toList.length=b.size:=by simp
  have:=h.1
  have:=h.2.1
  unfold less
  rw [h3,e1,e2]
  by_cases c1:k=a.size
  · by_cases c2 : k = b.size
    · rw [if_pos c1,if_pos c2];simp;omega
    · rw [if_pos c1,if_neg c2];simp;omega
  · rw [if_neg c1,if_pos (by omega)];simp;omega

theorem ret_bool {a b : Bool} (h : a = b) : Ending.returned (.bool a) = .returned (.bool b) := by rw [h]
set_option maxHeartbeats 400000 in
theorem RefLess_calls (a b : ByteArray) (w : World) (ha : a.size ≤ maxLen) (hb : b.size ≤ maxLen) :
    Calls Try.prog 64 #[.string a,.string b] w (Quiet (.bool (less a.data.toList b.data.toList)) w):=by
  unfold maxLen at ha hb
  go_enter Try.func64,Try.ntmps64
  go_wp2
  go_loopw [5] (fun i wr=>∃ k:Nat,i = .int .i64 k∧Same a b k∧Drawn w wr) (fun i _=>a.size - (intOf i).toNat)
  case atStart=>exact ⟨0,rfl,Same.zero a b,Drawn.refl w⟩
  case round =>
    obtain ⟨k,rfl,hk,n,rfl⟩:=hrel
    have hk1:=hk.1
    have hk2:=hk.2.1
    by_cases hlt:k < a.size∧k < b.size
    · obtain ⟨hlt1, hlt2⟩ := hlt
      have g1:(k:Int) < (a.size:Int):=by omega
      have g2:(k:Int) < (b.size:Int):=by omega
      go_wp2
      go_quiet (fail)
      go_wp2
      · have H := hide (less_ne hk hlt1 hlt2 (by assumption))
        go_quiet (fail)
        go_wp2
        go_ret
        exact ⟨ret_bool (by rw [← H.out];simp),Drawn.more (Drawn.more ⟨n,rfl⟩ _) _⟩
      · have H := hide (hk.succ hlt1 hlt2 (by assumption))
        go_roundw
        case rel=>exact ⟨k+1,by go_num,H.out,_,rfl⟩
        case measure=>simp [intOf];omega
    · have H := hide (less_end hk hlt)
      by_cases hlt1:k < a.size
      · have hlt2:¬ k < b.size:=fun h=>hlt ⟨hlt1,h⟩
        go_wp2
        go_ret
        exact ⟨ret_bool (by rw [← H.out]),⟨n,rfl⟩⟩
      · go_wp2
        go_ret
        exact ⟨ret_bool (by rw [← H.out]),⟨n,rfl⟩⟩

end Go.Proofs.Ytnammfeiehikfaa.Ord

namespace Go.Proofs.Ytnammfeiehikfaa.Sim
open Go.RowKit
set_option maxRecDepth 100000
set_option linter.unusedSimpArgs false
set_option linter.unusedVariables false
section
variable (G:Nat→AV)
theorem ref19 (r:Int) (h1 : -9223372036854775808≤r) (h2:r≤9223372036854775807) (to:List Int) (ht:to.length≤1000):PC Try.prog G 19 [I r,.sl 1 (to.map iA)] (match refD r to with|some x=>.tup [I x,Bo true]|none=>.tup [I 0,Bo false]):=by
  unfold refD
  by_cases h:0≤r
  · rw [if_pos h]
    refine pc_ofV cop19 ?_
    repeat' ((conv=>whnf);first|(with_reducible refine SeqP.go ?_)|((with_reducible refine ObN.mk ?_ ?_);(focus exact zN))|(with_reducible refine ObT.tt ?_)|((with_reducible refine ObB.yes ?_ ?_);(focus (first|assumption|(with_reducible rfl)|omega)))|((with_reducible refine ObEq.mk ?_);(focus (first|rfl|assumption))))
  · rw [if_neg h]
    obtain ⟨k,hk⟩:∃ k:Nat,-1 - r=k:=⟨(-1 - r).toNat,by omega⟩
    rw [hk,Int.toNat_natCast]
    by_cases hkt:k < to.length
    · rw [List.getElem?_eq_getElem hkt]
      refine pc_ofV cop19 ?_
      repeat' ((conv=>whnf);first|(with_reducible refine SeqP.go ?_)|((with_reducible refine ObN.mk ?_ ?_);(focus exact zN))|(with_reducible refine ObT.ff ?_)|((with_reducible refine ObB.no ?_ ?_);(focus (first|assumption|omega))))
      conv=>whnf
      refine LoopP.go (α:=Nat) (fun i=>i≤k) (fun i=>k - i) (fun i=>[(4,some (I 0)),(0,some (Bo false)),(0,some (I i)),(3,none),(0,none),(0,none),(0,none),(0,none),(0,none),(0,none),(0,none),(0,none),(0,none),(0,none),(0,none),(0,none),(0,none)]) (fun _=>[]) 0 (Nat.zero_le _) (Fg.go ?_ rfl) ?_
      · repeat' ((conv=>whnf);first|((with_reducible refine ObEqs.mk ?_ ?_);(focus rfl))|((with_reducible refine ObEq1.i ?_ ?_);(focus (first|(with_reducible rfl)|omega)))|((with_reducible refine ObEq1.mk ?_ ?_);(focus (first|rfl|assumption)))|exact True.intro)
      intro i hi
      by_cases e:i=k
      · subst e
        have hq:=iA_at' hkt
        repeat' ((conv=>whnf);first|(with_reducible refine SeqP.go ?_)|((with_reducible refine ObN.mk ?_ ?_);(focus exact zN))|(with_reducible refine ObT.tt ?_)|((with_reducible refine ObB.yes ?_ ?_);(focus (first|assumption|(with_reducible rfl)|omega)))|((with_reducible refine ObI.mk _ rfl ?_ ?_ ?_);(focus omega);(focus omega))|((with_reducible refine ObX.mk _ rfl ?_ ?_);(focus exact zX))|((with_reducible refine (?_:ObL _ _));(refine ObL.mk _ zM ?_))|((with_reducible refine (?_:ObR _ _ _));(first|(refine ObR.mk _ (by assumption) ?_)|(refine ObR.mk _ (by with_reducible rfl) ?_)|(refine ObR.map zX (fun x hx=>?_))|(refine ObR.mk _ rfl ?_)))|((with_reducible refine ObEq.mk ?_);(focus (first|rfl|assumption))))
      · repeat' ((conv => whnf); first | (with_reducible refine SeqP.go ?_) | ((with_reducible refine ObN.mk ?_ ?_); (focus exact zN)) | (with_reducible refine ObT.tt ?_) | (with_reducible refine ObT.ff ?_) | ((with_reducible refine ObB.yes ?_ ?_); (focus (first | assumption | (with_reducible rfl) | omega))) | ((with_reducible refine ObB.no ?_ ?_); (focus (first | assumption | omega))) | ((with_reducible refine ObI.nl ?_ ?_); (focus omega)) | ((with_reducible refine ObI.mk _ rfl ?_ ?_ ?_); (focus omega); (focus omega)) | ((with_reducible refine (?_ : ObL _ _)); (refine ObL.mk _ zM ?_)))
        conv=>whnf
        refine Again.mk (i+1) ?_ ?_ (Fg.go ?_ rfl)
        · omega
        · omega
        repeat' ((conv=>whnf);first|((with_reducible refine ObEqs.mk ?_ ?_);(focus rfl))|((with_reducible refine ObEq1.i ?_ ?_);(focus (first|(with_reducible rfl)|omega)))|((with_reducible refine ObEq1.mk ?_ ?_);(focus (first|rfl|assumption)))|exact True.intro)
    · rw [List.getElem?_eq_none (by omega)]
      refine pc_ofV cop19 ?_
      repeat' ((conv=>whnf);first|(with_reducible refine SeqP.go ?_)|((with_reducible refine ObN.mk ?_ ?_);(focus exact zN))|(with_reducible refine ObT.ff ?_)|((with_reducible refine ObB.no ?_ ?_);(focus (first|assumption|omega))))
      conv=>whnf
      refine LoopP.go (α:=Nat) (fun i=>i≤to.length) (fun i=>to.length - i) (fun i=>[(4,some (I 0)),(0,some (Bo false)),(0,some (I i)),(3,none),(0,none),(0,none),(0,none),(0,none),(0,none),(0,none),(0,none),(0,none),(0,none),(0,none),(0,none),(0,none),(0,none)]) (fun _=>[]) 0 (Nat.zero_le _) (Fg.go ?_ rfl) ?_
      · repeat' ((conv=>whnf);first|((with_reducible refine ObEqs.mk ?_ ?_);(focus rfl))|((with_reducible refine ObEq1.i ?_ ?_);(focus (first|(with_reducible rfl)|omega)))|((with_reducible refine ObEq1.mk ?_ ?_);(focus (first|rfl|assumption)))|exact True.intro)
      intro i hi
      by_cases e:i=to.length
      · subst e
        repeat' ((conv=>whnf);first|(with_reducible refine SeqP.go ?_)|((with_reducible refine ObN.mk ?_ ?_);(focus exact zN))|(with_reducible refine ObT.ff ?_)|((with_reducible refine ObB.no ?_ ?_);(focus (first|assumption|omega)))|((with_reducible refine (?_:ObL _ _));(refine ObL.mk _ zM ?_))|((with_reducible refine ObEq.mk ?_);(focus (first|rfl|assumption))))
      · repeat' ((conv => whnf); first | (with_reducible refine SeqP.go ?_) | ((with_reducible refine ObN.mk ?_ ?_); (focus exact zN)) | (with_reducible refine ObT.tt ?_) | (with_reducible refine ObT.ff ?_) | ((with_reducible refine ObB.yes ?_ ?_); (focus (first | assumption | (with_reducible rfl) | omega))) | ((with_reducible refine ObB.no ?_ ?_); (focus (first | assumption | omega))) | ((with_reducible refine ObI.nl ?_ ?_); (focus omega)) | ((with_reducible refine ObI.mk _ rfl ?_ ?_ ?_); (focus omega); (focus omega)) | ((with_reducible refine (?_ : ObL _ _)); (refine ObL.mk _ zM ?_)))
        conv=>whnf
        refine Again.mk (i+1) ?_ ?_ (Fg.go ?_ rfl)
        · omega
        · omega
        repeat' ((conv=>whnf);first|((with_reducible refine ObEqs.mk ?_ ?_);(focus rfl))|((with_reducible refine ObEq1.i ?_ ?_);(focus (first|(with_reducible rfl)|omega)))|((with_reducible refine ObEq1.mk ?_ ?_);(focus (first|rfl|assumption)))|exact True.intro)
end
end Go.Proofs.Ytnammfeiehikfaa.Sim

namespace Go.Proofs.Ytnammfeiehikfaa.Sim
open Go.RowKit
set_option maxRecDepth 100000
set_option linter.unusedSimpArgs false
set_option linter.unusedVariables false
section
variable (G:Nat→AV)
theorem r19 (r:Int) (h:i64 r) (to:List Int) (ht:to.length≤1000) (o:Bool) (ho:o=ok to r):PC Try.prog G 19 [I r,.sl 1 (to.map iA)] (.tup [I (gt to r),Bo o]):=by
  have hh:=ref19 G r h.1 h.2 to ht
  unfold gt;unfold ok at ho
  cases hr:refD r to with
  | some x=>rw [hr] at hh ho;subst ho;exact hh
  | none=>rw [hr] at hh ho;subst ho;exact hh
end
section
variable (G:Nat→AV)
end
end Go.Proofs.Ytnammfeiehikfaa.Sim

namespace Go.Proofs.Ytnammfeiehikfaa.Sim
open Go.RowKit
set_option maxRecDepth 100000
set_option linter.unusedSimpArgs false
set_option linter.unusedVariables false
section
variable (G:Nat→AV)
set_option maxHeartbeats 2000000 in
theorem fill17 (kn : Int) (ke va : ByteArray) (mp : Int) (kk : List Int) (mn : Int) (ls : List Pr) (sz bi : Int) (to : List Int) (hk : kk.length ≤ 40) (ht : to.length ≤ 1000) (hmn : i64 mn) (hkk : ∀ x ∈ kk, i64 x) (c : Bool) (hc : c = fillC to kk mn) :
    PC Try.prog G 17 [nV kn ke va mp kk mn ls sz bi,.sl 1 (to.map iA)] (.tup [fillR c kn ke va mp kk mn ls sz bi to,Bo c]):=by
  refine pc_ofV cop17 ?_
  repeat' ((conv=>whnf);first|(with_reducible refine SeqP.go ?_)|((with_reducible refine ObD.mk ?_ ?_);(focus (first|rfl|(simp;done))))|((with_reducible refine ObN.mk ?_ ?_);(focus exact zN))|((with_reducible refine (?_:ObU _ _));(refine ObU.mk _ zU ?_))|((with_reducible refine (?_:ObR _ _ _));(first|(refine ObR.mk _ (by assumption) ?_)|(refine ObR.mk _ (by with_reducible rfl) ?_)|(refine ObR.map zX (fun x hx=>?_))|(refine ObR.mk _ rfl ?_))))
  conv=>whnf
  refine LoopP.go (α:=Nat × Bool × List Int) (fun p=>p.1≤kk.length∧p.2.1=(kk.take p.1).all (ok to)∧p.2.2=(kk.take p.1).map (gt to)) (fun p=>kk.length - p.1) (fun p=>[(7,some (Bo p.2.1)),(0,some (I p.1)),(0,none),(0,none),(3,none),(1,none),(0,none),(0,none),(0,none),(0,none),(0,none),(0,none),(0,none),(0,none),(0,none),(0,none),(0,none),(0,none),(0,none),(0,none),(0,none),(0,none),(0,none),(0,none),(0,none),(0,none),(0,none),(0,none),(0,none),(0,none),(0,none),(0,none)]) (fun p=>[⟨30,9,[nV kn ke va mp kk mn ls sz bi],0,0⟩,⟨30,9,[.agg [I 0,S ⟨#[]⟩,S ⟨#[]⟩,.v (.int .u32 0),.nl 1,I 0,.nl 2,I 0,I 0]],0,0⟩,⟨30,9,[.agg [I kn,S ke,S va,.v (.int .u32 mp),.ol 3 0 p.2.2.length,I mn,.sl 2 (ls.map pA),I sz,I bi]],0,0⟩,kR 0 p.2.2]) (0,true,[]) ⟨Nat.zero_le _,rfl,rfl⟩ (Fg.go ?_ rfl) ?_
  · repeat' ((conv=>whnf);first|((with_reducible refine ObEqs.mk ?_ ?_);(focus rfl))|((with_reducible refine ObEq1.i ?_ ?_);(focus (first|(with_reducible rfl)|omega)))|((with_reducible refine ObEq1.mk ?_ ?_);(focus (first|rfl|assumption)))|exact True.intro)
  rintro ⟨i,q,o⟩ ⟨hi,hq,ho⟩
  dsimp only at hi hq ho ⊢
  have hol:o.length=i:=by rw [ho,List.length_map,List.length_take];omega
  by_cases hik:i < kk.length
  · have ha := iA_at' hik
    have hx:=hkk _ (List.getElem_mem hik)
    have hq2:(kk.take (i+1)).all (ok to)=(q && ok to kk[i]):=by
      rw [List.take_succ_eq_append_getElem hik,List.all_append,← hq];simp
    have ho2:(kk.take (i+1)).map (gt to)=o++[gt to kk[i]]:=by
      rw [List.take_succ_eq_append_getElem hik,List.map_append,← ho];rfl
    generalize kk[i]=x at *
    have h19:=r19 G x hx to ht _ rfl
    have hu:=i_snoc (l:=o) (x:=gt to x)
    have hr:=nr_i (o++[gt to x])
    have hr1:[nV kn ke va mp kk mn ls sz bi].all nrB=true:=rfl
    generalize ok to x=z at *
    cases q<;>cases z
    all_goals
      repeat' ((conv=>whnf);first|(with_reducible refine SeqP.go ?_)|((with_reducible refine ObD.mk ?_ ?_);(focus (first|rfl|(simp;done))))|((with_reducible refine ObN.mk ?_ ?_);(focus exact zN))|(with_reducible refine ObT.tt ?_)|(with_reducible refine ObT.ff ?_)|((with_reducible refine ObB.yes ?_ ?_);(focus (first|assumption|(with_reducible rfl)|omega)))|((with_reducible refine ObI.nl ?_ ?_);(focus omega))|((with_reducible refine ObX.mk _ rfl ?_ ?_);(focus exact zX))|((with_reducible refine (?_:ObL _ _));(refine ObL.mk _ zM ?_))|((with_reducible refine (?_:ObU _ _));(refine ObU.mk _ (by first|exact hu|assumption|((conv=>lhs;simp only [List.set_cons_zero,List.set_cons_succ,List.take_succ_cons,List.take_zero,List.drop_succ_cons,List.drop_zero,List.nil_append,List.cons_append,List.append_nil,List.take_nil,List.drop_nil]);try rfl)|rfl) ?_))|((with_reducible refine (?_:ObR _ _ _));(first|(refine ObR.mk _ (by assumption) ?_)|(refine ObR.mk _ (by with_reducible rfl) ?_)|(refine ObR.map zX (fun x hx=>?_))|(refine ObR.mk _ rfl ?_)))|((with_reducible refine ObC.f 19 ?_);(first|(with_reducible refine ObC.mk _ (h19) ?_)|(refine ObC.mk _ (h19) ?_))))
      conv=>whnf
      refine Again.mk (i+1,_,o++[gt to x]) ⟨by dsimp only;omega,hq2.symm,ho2.symm⟩ ?_ (Fg.vw [(0,0,0),(0,1,0),(0,2,0),(0,3,1)] ?_ ?_ (by simp) ?_)
      · dsimp only;omega
      all_goals repeat' ((conv=>whnf);first|((with_reducible refine ObRow.lit ?_ ?_);(focus (simp [rnB,rnC,rnL,AV.cells];done)))|((with_reducible refine ObN.mk ?_ ?_);(focus exact zN))|((with_reducible refine ObRn.mk ?_ ?_);(focus (first|rfl|(simp [rnB,rnC,rnL];done))))|((with_reducible refine ObRow.same ?_ ?_ ?_);(focus (first|rfl|assumption));(focus (first|rfl|assumption|(simp;done))))|((with_reducible refine ObEqs.mk ?_ ?_);(focus rfl))|exact True.intro)
  · obtain rfl : i = kk.length := by omega
    rw [List.take_length] at hq ho
    have h19:=r19 G mn hmn to ht _ rfl
    have hcc:c=(q && ok to mn):=by rw [hc,fillC,← hq]
    have ha:((kk.map (gt to)).map iA).take kk.length=(kk.map (gt to)).map iA:=List.take_of_length_le (by simp)
    have hp:=p_i (kk.map (gt to))
    have hpt:(((kk.map (gt to)).map iA).take kk.length).all AV.isP=true:=by rw [ha];exact hp
    rw [hol]
    rw [ho]
    generalize ok to mn=z at *
    cases q<;>cases z
    all_goals
      simp only [Bool.and_self,Bool.and_true,Bool.and_false,Bool.true_and,Bool.false_and] at hcc
      rw [hcc]
      repeat' ((conv=>whnf);first|(with_reducible refine SeqP.go ?_)|((with_reducible refine ObD.mk ?_ ?_);(focus (first|rfl|(simp;done))))|((with_reducible refine ObN.mk ?_ ?_);(focus exact zN))|(with_reducible refine ObT.tt ?_)|(with_reducible refine ObT.ff ?_)|((with_reducible refine ObB.no ?_ ?_);(focus (first|assumption|omega)))|((with_reducible refine (?_:ObL _ _));(refine ObL.mk _ zM ?_))|((with_reducible refine (?_:ObU _ _));(refine ObU.mk _ (by first|exact ha|assumption|((conv=>lhs;simp only [List.set_cons_zero,List.set_cons_succ,List.take_succ_cons,List.take_zero,List.drop_succ_cons,List.drop_zero,List.nil_append,List.cons_append,List.append_nil,List.take_nil,List.drop_nil]);try rfl)|rfl) ?_))|((with_reducible refine (?_:ObR _ _ _));(first|(refine ObR.mk _ (by assumption) ?_)|(refine ObR.mk _ (by with_reducible rfl) ?_)|(refine ObR.map zX (fun x hx=>?_))|(refine ObR.mk _ rfl ?_)))|((with_reducible refine ObC.f 19 ?_);(first|(with_reducible refine ObC.mk _ (h19) ?_)|(refine ObC.mk _ (h19) ?_)))|((with_reducible refine ObEq.mk ?_);(focus (first|rfl|assumption))))
end
end Go.Proofs.Ytnammfeiehikfaa.Sim

namespace Go.Proofs.Ytnammfeiehikfaa.Mk
set_option linter.unusedVariables false
set_option linter.unusedSimpArgs false

theorem upTo_succ (m n:Nat):upTo m (n+1)=upTo m n++if m.testBit n then [n] else []:=by
  unfold upTo
  rw [List.range_succ,List.filter_append]
  cases h:m.testBit n<;>simp [h]
theorem bit_div (m k:Nat):m.testBit k=decide (m / 2 ^ k % 2=1):=Nat.testBit_eq_decide_div_mod_eq
end Go.Proofs.Ytnammfeiehikfaa.Mk

namespace Go.Proofs.Ytnammfeiehikfaa.Sim
open Go.RowKit
set_option maxRecDepth 100000
set_option linter.unusedSimpArgs false
set_option linter.unusedVariables false
theorem tk_any {l:List Pr} {i:Nat} (h:i < l.length):(l.take (i+1)).any lg=((l.take i).any lg || lg l[i]):=by
  rw [List.take_succ_eq_append_getElem h,List.any_append];simp
theorem long32 (G:Nat→AV) (kn:Int) (ke va:ByteArray) (mp:Int) (kk:List Int) (mn:Int) (ls:List Pr) (sz bi:Int) (hl:ls.length≤9223372036854775807):PC Try.prog G 44 [nV kn ke va mp kk mn ls sz bi] (Bo (lg (ke,va) || ls.any lg)):=by
  refine pc_ofV cop44 ?_
  repeat' ((conv=>whnf);first|(with_reducible refine SeqP.go ?_)|((with_reducible refine ObD.mk ?_ ?_);(focus (first|rfl|(simp;done))))|((with_reducible refine ObN.mk ?_ ?_);(focus exact zN))|(with_reducible refine ObT.tt ?_)|(with_reducible refine ObT.ff ?_)|(with_reducible refine ObB.mk (fun h=>?_) (fun h=>?_))|((with_reducible refine (?_:ObL _ _));(refine ObL.mk _ zL ?_))|((with_reducible refine (?_:ObR _ _ _));(first|(refine ObR.mk _ (by assumption) ?_)|(refine ObR.mk _ (by with_reducible rfl) ?_)|(refine ObR.map zX (fun x hx=>?_))|(refine ObR.mk _ rfl ?_))))
  all_goals
    conv=>whnf
    refine LoopP.go (α:=Nat × Bool) (fun p=>p.1≤ls.length∧p.2=(lg (ke,va) || (ls.take p.1).any lg)) (fun p=>ls.length - p.1) (fun p=>[(3,some (Bo p.2)),(0,some (I p.1)),(10,none),(0,none),(0,none),(0,none),(0,none),(0,none),(0,none),(0,none),(0,none),(0,none),(0,none),(0,none),(0,none),(0,none),(0,none),(0,none),(0,none),(0,none),(0,none),(0,none),(0,none),(0,none),(0,none),(0,none),(0,none),(0,none),(0,none),(0,none)]) (fun _=>[⟨30,9,[nV kn ke va mp kk mn ls sz bi],0,0⟩]) (0,lg (ke,va)) ⟨Nat.zero_le _,by simp⟩ (Fg.go ?_ rfl) ?_
    · repeat' ((conv=>whnf);first|((with_reducible refine ObEqs.mk ?_ ?_);(focus rfl))|((with_reducible refine ObEq1.i ?_ ?_);(focus (first|(with_reducible rfl)|omega)))|((with_reducible refine ObEq1.mk ?_ ?_);(focus (first|rfl|assumption|exact (by simp [lg];omega))))|exact True.intro)
    rintro ⟨i,b⟩ ⟨h1,h2⟩
    dsimp only at h1 h2 ⊢
    have hlt:i < ls.length∨i=ls.length:=by omega
    rcases hlt with hlt|rfl
    · have hq : (ls.map pA)[i]? = some (.agg [S ls[i].1, S ls[i].2]) := pA_at hlt
      cases b with
      | true =>
        repeat' ((conv=>whnf);first|(with_reducible refine SeqP.go ?_)|((with_reducible refine ObN.mk ?_ ?_);(focus exact zN))|(with_reducible refine ObT.tt ?_)|((with_reducible refine ObB.yes ?_ ?_);(focus (first|assumption|(with_reducible rfl)|omega)))|((with_reducible refine ObI.nl ?_ ?_);(focus omega))|((with_reducible refine (?_:ObL _ _));(refine ObL.mk _ zL ?_))|((with_reducible refine (?_:ObR _ _ _));(first|(refine ObR.mk _ (by assumption) ?_)|(refine ObR.mk _ (by with_reducible rfl) ?_)|(refine ObR.map zX (fun x hx=>?_))|(refine ObR.mk _ rfl ?_))))
        conv=>whnf
        refine Again.mk (i+1,true) ?_ ?_ (Fg.go ?_ rfl)
        · exact ⟨hlt,by rw [tk_any hlt,← Bool.or_assoc,← h2];simp⟩
        · dsimp only;omega
        repeat' ((conv=>whnf);first|((with_reducible refine ObEqs.mk ?_ ?_);(focus rfl))|((with_reducible refine ObEq1.i ?_ ?_);(focus (first|(with_reducible rfl)|omega)))|((with_reducible refine ObEq1.mk ?_ ?_);(focus (first|rfl|assumption)))|exact True.intro)
      | false =>
        repeat' ((conv=>whnf);first|(with_reducible refine SeqP.go ?_)|((with_reducible refine ObN.mk ?_ ?_);(focus exact zN))|(with_reducible refine ObT.tt ?_)|(with_reducible refine ObT.ff ?_)|((with_reducible refine ObB.yes ?_ ?_);(focus (first|assumption|(with_reducible rfl)|omega)))|(with_reducible refine ObB.mk (fun h=>?_) (fun h=>?_))|((with_reducible refine ObI.nl ?_ ?_);(focus omega))|((with_reducible refine ObX.mk _ rfl ?_ ?_);(focus exact zX))|((with_reducible refine (?_:ObL _ _));(refine ObL.mk _ zL ?_))|((with_reducible refine (?_:ObR _ _ _));(first|(refine ObR.mk _ (by assumption) ?_)|(refine ObR.mk _ (by with_reducible rfl) ?_)|(refine ObR.map zX (fun x hx=>?_))|(refine ObR.mk _ rfl ?_))))
        all_goals
          conv=>whnf
          refine Again.mk (i+1,lg ls[i]) ?_ ?_ (Fg.go ?_ rfl)
          · exact ⟨hlt,by dsimp only;rw [tk_any hlt,← Bool.or_assoc,← h2];simp⟩
          · dsimp only;omega
          repeat' ((conv=>whnf);first|((with_reducible refine ObEqs.mk ?_ ?_);(focus rfl))|((with_reducible refine ObEq1.i ?_ ?_);(focus (first|(with_reducible rfl)|omega)))|((with_reducible refine ObEq1.mk ?_ ?_);(focus (first|rfl|assumption|exact (by simp [lg];omega))))|exact True.intro)
    · rw [List.take_length] at h2
      subst h2
      repeat' ((conv=>whnf);first|(with_reducible refine SeqP.go ?_)|((with_reducible refine ObN.mk ?_ ?_);(focus exact zN))|(with_reducible refine ObT.ff ?_)|((with_reducible refine ObB.no ?_ ?_);(focus (first|assumption|omega)))|((with_reducible refine (?_:ObL _ _));(refine ObL.mk _ zL ?_))|((with_reducible refine (?_:ObR _ _ _));(first|(refine ObR.mk _ (by assumption) ?_)|(refine ObR.mk _ (by with_reducible rfl) ?_)|(refine ObR.map zX (fun x hx=>?_))|(refine ObR.mk _ rfl ?_)))|((with_reducible refine ObEq.mk ?_);(focus (first|rfl|assumption))))
end Go.Proofs.Ytnammfeiehikfaa.Sim

namespace Go.Proofs.Ytnammfeiehikfaa.Sim
open Go.RowKit
set_option maxRecDepth 100000
set_option linter.unusedSimpArgs false
set_option linter.unusedVariables false
section
variable {P:Program} {H:Hp} {k:KK} {t:TypeId} {xo yo:Operand} {n:Nat}
theorem eRem2 (hk:k (.v (.int .u32 ((n % 2:Nat):Int))) H):ObE ((binA P H .rem t false xo yo (.v (.int .u32 (n:Int))) (.v (.int .u32 2))).map (·,H)) k:=by
  have e:binV P .rem t xo yo (.int .u32 (n:Int)) (.int .u32 2)=some (.int .u32 ((n % 2:Nat):Int)):=by
    show pureRun P (do eqGuard .rem t xo yo (.int .u32 (n:Int)) (.int .u32 2);Op.intDiv .rem .u32 (n:Int) 2)=_
    unfold Op.intDiv
    rw [if_neg (by decide)]
    show some (Value.int .u32 ((n:Int).tmod 2))=_
    rw [Int.tmod_eq_emod_of_nonneg (by omega)];rfl
  exact ⟨_,_,by simp only [binA,conc,e,Bool.false_eq_true,if_false];rfl,hk⟩
theorem eQuo2 (hn:n < 4294967296) (hk:k (.v (.int .u32 ((n / 2:Nat):Int))) H):ObE ((binA P H .quo t false xo yo (.v (.int .u32 (n:Int))) (.v (.int .u32 2))).map (·,H)) k:=by
  have e:binV P .quo t xo yo (.int .u32 (n:Int)) (.int .u32 2)=some (.int .u32 ((n / 2:Nat):Int)):=by
    show pureRun P (do eqGuard .quo t xo yo (.int .u32 (n:Int)) (.int .u32 2);Op.intDiv .quo .u32 (n:Int) 2)=_
    unfold Op.intDiv
    rw [if_neg (by decide)]
    show some (Value.int .u32 (IntKind.u32.wrap ((n:Int).tdiv 2)))=_
    rw [Int.tdiv_eq_ediv_of_nonneg (by omega)]
    have:IntKind.u32.wrap ((n:Int) / 2)=((n / 2:Nat):Int):=by rw [IntKind.wrap_u32];omega
    rw [this]
  exact ⟨_,_,by simp only [binA,conc,e,Bool.false_eq_true,if_false];rfl,hk⟩
end
end Go.Proofs.Ytnammfeiehikfaa.Sim

namespace Go.Proofs.Ytnammfeiehikfaa.Sim
open Go.RowKit
set_option maxRecDepth 100000
set_option linter.unusedSimpArgs false
set_option linter.unusedVariables false
/-- A mask without its first numbers. -/
def sh (m k:Nat):Nat:=m / 2 ^ k
theorem sh_zero (m:Nat):m=sh m 0:=by simp [sh]
theorem sh_succ (m k:Nat):sh m k / 2=sh m (k+1):=by unfold sh;rw [Nat.div_div_eq_div_mul,Nat.pow_succ]
theorem sh_le (m k:Nat):sh m k≤m:=Nat.div_le_self _ _
theorem sh_bit (m k:Nat):m.testBit k=decide (sh m k % 2=1):=Mk.bit_div m k
theorem has55 (G:Nat→AV) (m i:Nat) (hm:m < 4294967296) (hi:i < 32):PC Try.prog G 63 [.v (.int .u32 (m:Int)),I i] (Bo (m.testBit i)):=by
  refine pc_ofV cop63 ?_
  repeat' ((conv=>whnf);first|(with_reducible refine SeqP.go ?_))
  conv=>whnf
  refine LoopP.go (α:=Nat) (fun k=>k≤32∧(i < k→m.testBit i=false)) (fun k=>32 - k) (fun k=>[(0,some (.v (.int .u32 ((sh m k:Nat):Int)))),(3,none),(0,some (I k)),(0,none),(0,none),(0,none),(0,none),(0,none),(0,none),(0,none),(0,none),(0,none),(0,none),(0,none),(0,none),(0,none),(0,none)]) (fun _=>[]) 0 ⟨by omega,fun h=>by omega⟩ (Fg.go ?_ rfl) ?_
  · have := sh_zero m
    repeat' ((conv=>whnf);first|((with_reducible refine ObEqs.mk ?_ ?_);(focus rfl))|((with_reducible refine ObEq1.i ?_ ?_);(focus (first|(with_reducible rfl)|omega)))|exact True.intro)
  rintro k ⟨h1,h2⟩
  have hs:=sh_succ m k
  have hle:=sh_le m k
  have hb:=sh_bit m i
  by_cases hk:k < 32
  · by_cases hi2 : k = i
    · subst hi2
      by_cases hbit:sh m k % 2=1
      · have hr : m.testBit k = true := by rw [hb]; simp [hbit]
        rw [hr]
        repeat' ((conv=>whnf);first|(with_reducible refine SeqP.go ?_)|(with_reducible refine eRem2 ?_)|((with_reducible refine ObN.mk ?_ ?_);(focus exact zN))|(with_reducible refine ObT.tt ?_)|((with_reducible refine ObB.yes ?_ ?_);(focus (first|assumption|(with_reducible rfl)|omega)))|((with_reducible refine ObEq.mk ?_);(focus (first|rfl|assumption))))
      · have hr : m.testBit k = false := by rw [hb]; simp [hbit]
        rw [hr]
        repeat' ((conv=>whnf);first|(with_reducible refine SeqP.go ?_)|(with_reducible refine eRem2 ?_)|((with_reducible refine eQuo2 ?_ ?_);(focus omega))|((with_reducible refine ObN.mk ?_ ?_);(focus exact zN))|(with_reducible refine ObT.tt ?_)|(with_reducible refine ObT.ff ?_)|((with_reducible refine ObB.yes ?_ ?_);(focus (first|assumption|(with_reducible rfl)|omega)))|((with_reducible refine ObB.no ?_ ?_);(focus (first|assumption|omega)))|((with_reducible refine ObI.nl ?_ ?_);(focus omega)))
        conv=>whnf
        refine Again.mk (k+1) ?_ ?_ (Fg.go ?_ rfl)
        · exact ⟨by omega,fun _=>by first|rfl|exact hr⟩
        · omega
        repeat' ((conv=>whnf);first|((with_reducible refine ObEqs.mk ?_ ?_);(focus rfl))|((with_reducible refine ObEq1.i ?_ ?_);(focus (first|(with_reducible rfl)|omega)))|exact True.intro)
    · repeat' ((conv=>whnf);first|(with_reducible refine SeqP.go ?_)|(with_reducible refine eRem2 ?_)|((with_reducible refine eQuo2 ?_ ?_);(focus omega))|((with_reducible refine ObN.mk ?_ ?_);(focus exact zN))|(with_reducible refine ObT.tt ?_)|(with_reducible refine ObT.ff ?_)|((with_reducible refine ObB.yes ?_ ?_);(focus (first|assumption|(with_reducible rfl)|omega)))|((with_reducible refine ObB.no ?_ ?_);(focus (first|assumption|omega)))|(with_reducible refine ObB.mk (fun h=>?_) (fun h=>?_))|((with_reducible refine ObI.nl ?_ ?_);(focus omega)))
      all_goals
        conv=>whnf
        refine Again.mk (k+1) ?_ ?_ (Fg.go ?_ rfl)
        · exact ⟨by omega,fun _=>h2 (by omega)⟩
        · omega
        repeat' ((conv=>whnf);first|((with_reducible refine ObEqs.mk ?_ ?_);(focus rfl))|((with_reducible refine ObEq1.i ?_ ?_);(focus (first|(with_reducible rfl)|omega)))|exact True.intro)
  · have hr := h2 (by omega)
    rw [hr]
    repeat' ((conv=>whnf);first|(with_reducible refine SeqP.go ?_)|((with_reducible refine ObN.mk ?_ ?_);(focus exact zN))|(with_reducible refine ObT.ff ?_)|((with_reducible refine ObB.no ?_ ?_);(focus (first|assumption|omega)))|((with_reducible refine ObEq.mk ?_);(focus (first|rfl|assumption))))
theorem snoc_iA {l:List Int} {x:Int}:(l.map iA).take l.length++[.v (.int .i64 x)]=(l++[x]).map iA:=by
  rw [List.take_of_length_le (by simp)];simp [iA]
theorem nr_iA (l:List Int):(l.map iA).all nrB=true:=by simp [iA,nrB,AV.cells]
theorem all46 (G:Nat→AV) (m:Nat) (hm:m < 4294967296):PC Try.prog G 55 [.v (.int .u32 (m:Int))] (.sl 1 ((upI m 32).map iA)):=by
  refine pc_ofV cop55 ?_
  repeat' ((conv=>whnf);first|(with_reducible refine SeqP.go ?_)|((with_reducible refine ObD.mk ?_ ?_);(focus (first|rfl|(simp;done)))))
  conv=>whnf
  refine LoopP.go (α:=Nat × List Int) (fun p=>p.1≤32∧p.2=upI m p.1) (fun p=>32 - p.1) (fun p=>[(3,some (.ol 0 0 p.2.length)),(0,some (I p.1)),(0,none),(0,none),(0,none),(0,none),(0,none),(0,none),(0,none),(0,none),(0,none),(0,none),(0,none),(0,none)]) (fun p=>[⟨3,1,p.2.map iA,0,0⟩]) (0,[]) ⟨by decide,rfl⟩ (Fg.go ?_ rfl) ?_
  · repeat' ((conv=>whnf);first|((with_reducible refine ObEqs.mk ?_ ?_);(focus rfl))|((with_reducible refine ObEq1.i ?_ ?_);(focus (first|(with_reducible rfl)|omega)))|((with_reducible refine ObEq1.mk ?_ ?_);(focus (first|rfl|assumption)))|exact True.intro)
  rintro ⟨i,l⟩ ⟨h1,h2⟩
  dsimp only at h1 h2 ⊢
  have hl:=upI_len m i
  rw [← h2] at hl
  by_cases hi:i < 32
  · have hc := has55 G m i hm hi
    have hs:upI m (i+1)=if m.testBit i then l++[(i:Int)] else l:=by
      rw [h2];unfold upI;rw [Mk.upTo_succ];split<;>simp
    cases hb:m.testBit i with
    | false =>
      rw [hb] at hc hs
      repeat' ((conv=>whnf);first|(with_reducible refine SeqP.go ?_)|((with_reducible refine ObN.mk ?_ ?_);(focus exact zN))|(with_reducible refine ObT.tt ?_)|(with_reducible refine ObT.ff ?_)|((with_reducible refine ObB.yes ?_ ?_);(focus (first|assumption|(with_reducible rfl)|omega)))|((with_reducible refine ObI.nl ?_ ?_);(focus omega))|((with_reducible refine ObC.f 63 ?_);(first|(with_reducible refine ObC.mk _ (hc) ?_)|(refine ObC.mk _ (hc) ?_))))
      conv=>whnf
      refine Again.mk (i+1,l) ?_ ?_ (Fg.go ?_ rfl)
      · exact ⟨by dsimp only;omega,by simpa using hs.symm⟩
      · dsimp only;omega
      repeat' ((conv=>whnf);first|((with_reducible refine ObEqs.mk ?_ ?_);(focus rfl))|((with_reducible refine ObEq1.i ?_ ?_);(focus (first|(with_reducible rfl)|omega)))|((with_reducible refine ObEq1.o ?_ ?_);(focus (first|(with_reducible rfl)|omega)))|exact True.intro)
    | true =>
      rw [hb] at hc hs
      have hn:=nr_iA (l++[(i:Int)])
      repeat' ((conv=>whnf);first|(with_reducible refine SeqP.go ?_)|((with_reducible refine ObD.mk ?_ ?_);(focus (first|rfl|(simp;done))))|((with_reducible refine ObN.mk ?_ ?_);(focus exact zN))|(with_reducible refine ObT.tt ?_)|((with_reducible refine ObB.yes ?_ ?_);(focus (first|assumption|(with_reducible rfl)|omega)))|((with_reducible refine ObI.nl ?_ ?_);(focus omega))|((with_reducible refine (?_:ObL _ _));(refine ObL.mk _ zL ?_))|((with_reducible refine (?_:ObU _ _));(refine ObU.mk _ (by first|exact snoc_iA|assumption|((conv=>lhs;simp only [List.set_cons_zero,List.set_cons_succ,List.take_succ_cons,List.take_zero,List.drop_succ_cons,List.drop_zero,List.nil_append,List.cons_append,List.append_nil,List.take_nil,List.drop_nil]);try rfl)|rfl) ?_))|((with_reducible refine ObC.f 63 ?_);(first|(with_reducible refine ObC.mk _ (hc) ?_)|(refine ObC.mk _ (hc) ?_))))
      conv=>whnf
      refine Again.mk (i+1,l++[(i:Int)]) ?_ ?_ (Fg.vw [(0,0,1)] ?_ ?_ (by decide) ?_)
      · exact ⟨by dsimp only;omega,by simpa using hs.symm⟩
      · dsimp only;omega
      · repeat' ((conv=>whnf);first|((with_reducible refine ObRn.mk ?_ ?_);(focus (first|rfl|(simp [rnB,rnC,rnL];done))))|((with_reducible refine ObEqs.mk ?_ ?_);(focus rfl))|exact True.intro)
      · repeat' ((conv=>whnf);first|((with_reducible refine ObN.mk ?_ ?_);(focus exact zN))|((with_reducible refine ObRow.same ?_ ?_ ?_);(focus (first|rfl|assumption));(focus (first|rfl|assumption|(simp;done))))|exact True.intro)
      · trivial
  · obtain rfl : i = 32 := by omega
    rw [← h2]
    repeat' ((conv=>whnf);first|(with_reducible refine SeqP.go ?_)|((with_reducible refine ObN.mk ?_ ?_);(focus (first|exact (by first|exact all_iA _|(rw [take_iA];exact all_iA _))|rfl|assumption|omega|(simp only [List.length_map,List.length_append,List.length_cons,List.length_nil];omega)|(simp;done)|(simp;omega))))|(with_reducible refine ObT.ff ?_)|((with_reducible refine ObB.no ?_ ?_);(focus (first|assumption|omega)))|((with_reducible refine (?_:ObU _ _));(refine ObU.mk _ (by first|exact take_iA|assumption|((conv=>lhs;simp only [List.set_cons_zero,List.set_cons_succ,List.take_succ_cons,List.take_zero,List.drop_succ_cons,List.drop_zero,List.nil_append,List.cons_append,List.append_nil,List.take_nil,List.drop_nil]);try rfl)|rfl) ?_))|((with_reducible refine ObEq.mk ?_);(focus (first|rfl|assumption))))
end Go.Proofs.Ytnammfeiehikfaa.Sim

namespace Go.Proofs.Ytnammfeiehikfaa.Sim.Pr7
open Go.RowKit
set_option linter.unusedSimpArgs false
set_option linter.unusedVariables false
theorem cB_cases (a b:ByteArray):cB a b = -1∨cB a b=0∨cB a b=1:=Ord.cmp_cases _ _
end Go.Proofs.Ytnammfeiehikfaa.Sim.Pr7

namespace Go.Proofs.Ytnammfeiehikfaa.Sim.Pr7
open Go.RowKit
set_option maxRecDepth 100000
set_option linter.unusedSimpArgs false
set_option linter.unusedVariables false
theorem lessP (G:Nat→AV) (a b:ByteArray) (ha:a.size≤9223372036854775807) (hb:b.size≤9223372036854775807):PC Try.prog G 64 [S a,S b] (Bo (decide (cB a b < 0))):=by
  have e:decide (cB a b < 0)=Ord.less a.data.toList b.data.toList:=by
    have h:cB a b = -1∨cB a b=0∨cB a b=1:=cB_cases a b
    unfold Ord.less
    show decide (cB a b < 0)=(cB a b == -1)
    rcases h with h|h|h<;>rw [h]<;>rfl
  rw [e]
  exact pc_calls rfl rfl (fun w=>(Ord.RefLess_calls a b w (by rw [maxLenE];exact ha) (by rw [maxLenE];exact hb)).mono fun e w' h=>h.fresh)
end Go.Proofs.Ytnammfeiehikfaa.Sim.Pr7

namespace Go.Proofs.Ytnammfeiehikfaa.Sim.Pr7
open Go.RowKit
set_option maxRecDepth 100000
set_option linter.unusedSimpArgs false
set_option linter.unusedVariables false
set_option maxHeartbeats 4000000 in
theorem is12 (G:Nat→AV) (l:List Pr) (hl:Okl l) (r:Bool) (hr:r=true↔SLt l):PC Try.prog G 56 [.sl 2 (l.map pA)] (Bo r):=by
  have hlen:=hl.len
  refine pc_of cop56 ?_
  show W _ _ _ _ ⟨_,_⟩;simp only [A56,List.cons_append,List.nil_append,List.length_cons,List.length_nil,Nat.reduceAdd,Nat.reduceSub,List.replicate]
  repeat (first|with_reducible refine w_seq ?_|with_reducible refine w_reg ?_|with_reducible refine w_block ?_|with_reducible refine ws_nil ?_|with_reducible refine q_then ?_|((first|with_reducible refine ks fun K hK=>?_|with_reducible refine kd fun K hK=>?_|with_reducible refine kc fun K hK2 hK hK3=>?_);simp (disch:=omega) only [bg0,bg1,bg2,bg3,bg4,stepO,rsAs,eff,AX.ev,St.put,binA,conc,ap1,ofVal,Int.reduceTMod,Int.reduceTDiv,reduceCtorEq,fillA,AV.cells,AV.fine,AV.one,Nat.reduceAdd,Nat.reduceSub,Nat.reduceMul,Nat.reduceLT,Nat.reduceLeDiff,Int.reduceLT,Int.reduceLE,Int.reduceAdd,Int.reduceSub,Int.reduceNeg,Int.reduceMul,Int.reduceEq,Int.reduceToNat,nilA,moveA,live,loadA,rdA,storeA,wrA,intA,elemA,lenA,appA,srcA,isPtr,isNilPtr,partA,resOf,sliceA,cut,id,ap2,reduceIte,concs,chkB,geB,AOp.cls,AOp.xs,ltB,ltC,Nat.reduceBEq,Option.toList,List.cons_append,decide_eq_true,decide_eq_false,if_pos,if_neg,List.length_map,pA_at,List.cons_append,bVb,bVn,eq_self,Bool.and_self,BEq.rfl,not_true_eq_false];(first|((with_reducible refine hK _ ?_);clear hK K)|((with_reducible refine hK ?_);clear hK hK3 K hK2)|((with_reducible refine hK3 ?_);clear hK hK3 K hK2))))
  refine w_loop_m [2,3,4,5,6,7,8,9,10,11,12,13,14,15,16,17,18,19,20,21,22] (fun k v H=>v 3=I ((k+1:Nat):Int)∧H=[]∧∀ i (h:i+1 < l.length),i < k→cB (l[i]).1 (l[i+1]).1 < 0) (l.length - 1) ⟨rfl,rfl,fun i h hi=>absurd hi (Nat.not_lt_zero _)⟩ ?_ ?_
  · rintro k v H hk ⟨h3, rfl, hi⟩
    simp only [mix,mix_nil,mix_end,mix_skp,Nat.reduceEqDiff,Nat.reduceLeDiff,reduceCtorEq,if_true,if_false,reduceIte,Nat.reduceAdd,h3]
    have h1:=hl.k (k:=k) (by omega)
    have h2:=hl.k (k:=k+1) (by omega)
    have e1:((k+1:Nat):Int) - 1=k:=by omega
    by_cases hc:cB (l[k]).1 (l[k+1]).1 < 0
    · repeat (first|with_reducible refine w_seq ?_|with_reducible refine w_reg ?_|with_reducible refine w_draw ?_|with_reducible refine w_block ?_|with_reducible refine w_skip ?_|with_reducible refine ws_nil ?_|with_reducible refine wd_nil ?_|with_reducible refine q_then ?_|with_reducible refine q_block_n ?_|((first|with_reducible refine ks fun K hK=>?_|with_reducible refine kd fun K hK=>?_|with_reducible refine kc fun K hK2 hK hK3=>?_);simp (disch:=omega) only [bg0,bg1,bg2,bg3,bg4,stepO,rsAs,eff,AX.ev,St.put,binA,conc,ap1,ofVal,Int.reduceTMod,Int.reduceTDiv,reduceCtorEq,fillA,AV.cells,AV.fine,AV.one,Nat.reduceAdd,Nat.reduceSub,Nat.reduceMul,Nat.reduceLT,Nat.reduceLeDiff,Int.reduceLT,Int.reduceLE,Int.reduceAdd,Int.reduceSub,Int.reduceNeg,Int.reduceMul,Int.reduceEq,Int.reduceToNat,nilA,moveA,live,loadA,rdA,storeA,wrA,intA,elemA,lenA,appA,srcA,isPtr,isNilPtr,partA,resOf,sliceA,cut,id,ap2,reduceIte,concs,chkB,geB,AOp.cls,AOp.xs,ltB,ltC,Nat.reduceBEq,Option.toList,List.cons_append,decide_eq_true,decide_eq_false,if_pos,if_neg,List.length_map,pA_at,List.cons_append,bVb,bVn,eq_self,Bool.and_self,BEq.rfl,not_true_eq_false,hc,e1];(first|((with_reducible refine hK _ ?_);clear hK K)|((with_reducible refine hK ?_);clear hK hK3 K hK2)|((with_reducible refine hK3 ?_);clear hK hK3 K hK2)))|((first|((with_reducible refine kpd 64 ?_ ?_ ?_ ?_ ?_);rotate_left 1));(focus (simp (disch:=omega) only [bg0,bg1,bg2,bg3,bg4,stepO,rsAs,eff,AX.ev,St.put,binA,conc,ap1,ofVal,Int.reduceTMod,Int.reduceTDiv,reduceCtorEq,fillA,AV.cells,AV.fine,AV.one,Nat.reduceAdd,Nat.reduceSub,Nat.reduceMul,Nat.reduceLT,Nat.reduceLeDiff,Int.reduceLT,Int.reduceLE,Int.reduceAdd,Int.reduceSub,Int.reduceNeg,Int.reduceMul,Int.reduceEq,Int.reduceToNat,nilA,moveA,live,loadA,rdA,storeA,wrA,intA,elemA,lenA,appA,srcA,isPtr,isNilPtr,partA,resOf,sliceA,cut,id,ap2,reduceIte,concs,chkB,geB,AOp.cls,AOp.xs,ltB,ltC,Nat.reduceBEq,Option.toList,List.cons_append,decide_eq_true,decide_eq_false,if_pos,if_neg,List.length_map,pA_at,List.cons_append,bVb,bVn,eq_self,Bool.and_self,BEq.rfl,not_true_eq_false,hc,e1];try rfl));(first|(rfl;exact (by refine lessP G _ _ ?_ ?_<;>assumption)))))
      refine ⟨rfl,rfl,rfl,fun i h hik=>?_⟩
      by_cases hik2:i=k
      · subst hik2;omega
      · exact hi i h (by omega)
    · obtain rfl := is_false (i := k) hr (by omega) (by omega)
      repeat (first|with_reducible refine w_seq ?_|with_reducible refine w_reg ?_|with_reducible refine w_draw ?_|with_reducible refine w_block ?_|with_reducible refine w_skip ?_|with_reducible refine ws_nil ?_|with_reducible refine wd_nil ?_|with_reducible refine q_then ?_|with_reducible refine q_block_r ?_|with_reducible refine w_ret ?_|with_reducible refine q_then_r ?_|((first|with_reducible refine ks fun K hK=>?_|with_reducible refine kd fun K hK=>?_|with_reducible refine kc fun K hK2 hK hK3=>?_);simp (disch:=omega) only [bg0,bg1,bg2,bg3,bg4,stepO,rsAs,eff,AX.ev,St.put,binA,conc,ap1,ofVal,Int.reduceTMod,Int.reduceTDiv,reduceCtorEq,fillA,AV.cells,AV.fine,AV.one,Nat.reduceAdd,Nat.reduceSub,Nat.reduceMul,Nat.reduceLT,Nat.reduceLeDiff,Int.reduceLT,Int.reduceLE,Int.reduceAdd,Int.reduceSub,Int.reduceNeg,Int.reduceMul,Int.reduceEq,Int.reduceToNat,nilA,moveA,live,loadA,rdA,storeA,wrA,intA,elemA,lenA,appA,srcA,isPtr,isNilPtr,partA,resOf,sliceA,cut,id,ap2,reduceIte,concs,chkB,geB,AOp.cls,AOp.xs,ltB,ltC,Nat.reduceBEq,Option.toList,List.cons_append,decide_eq_true,decide_eq_false,if_pos,if_neg,List.length_map,pA_at,List.cons_append,bVb,bVn,eq_self,Bool.and_self,BEq.rfl,not_true_eq_false,hc,e1];(first|((with_reducible refine hK _ ?_);clear hK K)|((with_reducible refine hK ?_);clear hK hK3 K hK2)|((with_reducible refine hK3 ?_);clear hK hK3 K hK2)))|((first|((with_reducible refine kpd 64 ?_ ?_ ?_ ?_ ?_);rotate_left 1));(focus (simp (disch:=omega) only [bg0,bg1,bg2,bg3,bg4,stepO,rsAs,eff,AX.ev,St.put,binA,conc,ap1,ofVal,Int.reduceTMod,Int.reduceTDiv,reduceCtorEq,fillA,AV.cells,AV.fine,AV.one,Nat.reduceAdd,Nat.reduceSub,Nat.reduceMul,Nat.reduceLT,Nat.reduceLeDiff,Int.reduceLT,Int.reduceLE,Int.reduceAdd,Int.reduceSub,Int.reduceNeg,Int.reduceMul,Int.reduceEq,Int.reduceToNat,nilA,moveA,live,loadA,rdA,storeA,wrA,intA,elemA,lenA,appA,srcA,isPtr,isNilPtr,partA,resOf,sliceA,cut,id,ap2,reduceIte,concs,chkB,geB,AOp.cls,AOp.xs,ltB,ltC,Nat.reduceBEq,Option.toList,List.cons_append,decide_eq_true,decide_eq_false,if_pos,if_neg,List.length_map,pA_at,List.cons_append,bVb,bVn,eq_self,Bool.and_self,BEq.rfl,not_true_eq_false,hc,e1];try rfl));(first|(rfl;exact (by refine lessP G _ _ ?_ ?_<;>assumption))))|((first|with_reducible refine ret_h fun K hK=>?_|with_reducible refine ret_hh rfl fun K hK=>?_|with_reducible refine ret_pp fun K hK=>?_);simp (disch:=omega) only [bg0,bg1,bg2,bg3,bg4,stepO,rsAs,eff,AX.ev,St.put,binA,conc,ap1,ofVal,Int.reduceTMod,Int.reduceTDiv,reduceCtorEq,fillA,AV.cells,AV.fine,AV.one,Nat.reduceAdd,Nat.reduceSub,Nat.reduceMul,Nat.reduceLT,Nat.reduceLeDiff,Int.reduceLT,Int.reduceLE,Int.reduceAdd,Int.reduceSub,Int.reduceNeg,Int.reduceMul,Int.reduceEq,Int.reduceToNat,nilA,moveA,live,loadA,rdA,storeA,wrA,intA,elemA,lenA,appA,srcA,isPtr,isNilPtr,partA,resOf,sliceA,cut,id,ap2,reduceIte,concs,chkB,geB,AOp.cls,AOp.xs,ltB,ltC,Nat.reduceBEq,Option.toList,List.cons_append,decide_eq_true,decide_eq_false,if_pos,if_neg,List.length_map,pA_at,List.cons_append,bVb,bVn,eq_self,Bool.and_self,BEq.rfl,not_true_eq_false,hc,e1];(first|((with_reducible refine hK _ ?_ ?_ ?_ ?_);rotate_left 2;rfl;rfl)|((with_reducible refine hK _ ?_);rfl))))
  · rintro v H ⟨h3, rfl, hi⟩
    simp only [mix,mix_nil,mix_end,mix_skp,Nat.reduceEqDiff,Nat.reduceLeDiff,reduceCtorEq,if_true,if_false,reduceIte,Nat.reduceAdd,h3]
    obtain rfl:r=true:=hr.2 (slt_idx.2 fun i h=>hi i h (by omega))
    by_cases h0:l.length=0
    all_goals repeat (first|with_reducible refine w_seq ?_|with_reducible refine w_reg ?_|with_reducible refine w_exit ?_|with_reducible refine ws_nil ?_|with_reducible refine q_then ?_|with_reducible refine q_then_x ?_|with_reducible refine q_block_x ?_|with_reducible refine w_ret ?_|((first|with_reducible refine ks fun K hK=>?_|with_reducible refine kd fun K hK=>?_|with_reducible refine kc fun K hK2 hK hK3=>?_);simp (disch:=omega) only [bg0,bg1,bg2,bg3,bg4,stepO,rsAs,eff,AX.ev,St.put,binA,conc,ap1,ofVal,Int.reduceTMod,Int.reduceTDiv,reduceCtorEq,fillA,AV.cells,AV.fine,AV.one,Nat.reduceAdd,Nat.reduceSub,Nat.reduceMul,Nat.reduceLT,Nat.reduceLeDiff,Int.reduceLT,Int.reduceLE,Int.reduceAdd,Int.reduceSub,Int.reduceNeg,Int.reduceMul,Int.reduceEq,Int.reduceToNat,nilA,moveA,live,loadA,rdA,storeA,wrA,intA,elemA,lenA,appA,srcA,isPtr,isNilPtr,partA,resOf,sliceA,cut,id,ap2,reduceIte,concs,chkB,geB,AOp.cls,AOp.xs,ltB,ltC,Nat.reduceBEq,Option.toList,List.cons_append,decide_eq_true,decide_eq_false,if_pos,if_neg,List.length_map,pA_at,List.cons_append,bVb,bVn,eq_self,Bool.and_self,BEq.rfl,not_true_eq_false];(first|((with_reducible refine hK _ ?_);clear hK K)|((with_reducible refine hK ?_);clear hK hK3 K hK2)|((with_reducible refine hK3 ?_);clear hK hK3 K hK2)))|((first|with_reducible refine ret_h fun K hK=>?_|with_reducible refine ret_hh rfl fun K hK=>?_|with_reducible refine ret_pp fun K hK=>?_);simp (disch:=omega) only [bg0,bg1,bg2,bg3,bg4,stepO,rsAs,eff,AX.ev,St.put,binA,conc,ap1,ofVal,Int.reduceTMod,Int.reduceTDiv,reduceCtorEq,fillA,AV.cells,AV.fine,AV.one,Nat.reduceAdd,Nat.reduceSub,Nat.reduceMul,Nat.reduceLT,Nat.reduceLeDiff,Int.reduceLT,Int.reduceLE,Int.reduceAdd,Int.reduceSub,Int.reduceNeg,Int.reduceMul,Int.reduceEq,Int.reduceToNat,nilA,moveA,live,loadA,rdA,storeA,wrA,intA,elemA,lenA,appA,srcA,isPtr,isNilPtr,partA,resOf,sliceA,cut,id,ap2,reduceIte,concs,chkB,geB,AOp.cls,AOp.xs,ltB,ltC,Nat.reduceBEq,Option.toList,List.cons_append,decide_eq_true,decide_eq_false,if_pos,if_neg,List.length_map,pA_at,List.cons_append,bVb,bVn,eq_self,Bool.and_self,BEq.rfl,not_true_eq_false];(first|((with_reducible refine hK _ ?_ ?_ ?_ ?_);rotate_left 2;rfl;rfl)|((with_reducible refine hK _ ?_);rfl))))
end Go.Proofs.Ytnammfeiehikfaa.Sim.Pr7

namespace Go.Proofs.Ytnammfeiehikfaa.Sim
open Go.RowKit
set_option maxRecDepth 100000
set_option linter.unusedSimpArgs false
set_option linter.unusedVariables false
theorem bare45 (G:Nat→AV) (kn:Int) (ke va:ByteArray) (mp:Int) (kk:List Int) (mn:Int) (ls:List Pr) (sz bi:Int) (b c m l r:Bool) (hr:r=true↔BareP ke va mp kk mn ls b c m l) (h1:kk.length≤40) (h2:ls.length≤40):PC Try.prog G 54 [nV kn ke va mp kk mn ls sz bi,Bo b,Bo c,Bo m,Bo l] (Bo r):=by
  unfold BareP at hr
  refine pc_ofV cop54 ?_
  cases b<;>cases c<;>cases m<;>cases l
  all_goals repeat' ((conv=>whnf);first|(with_reducible refine SeqP.go ?_)|((with_reducible refine ObD.mk ?_ ?_);(focus (first|rfl|(simp;done))))|((with_reducible refine ObN.mk ?_ ?_);(focus exact zN))|(with_reducible refine ObT.tt ?_)|(with_reducible refine ObT.ff ?_)|(with_reducible refine ObB.mk (fun h=>?_) (fun h=>?_))|((with_reducible refine (?_:ObL _ _));(refine ObL.mk _ zM ?_))|((with_reducible refine (?_:ObR _ _ _));(first|(refine ObR.mk _ (by assumption) ?_)|(refine ObR.mk _ (by with_reducible rfl) ?_)|(refine ObR.map zX (fun x hx=>?_))|(refine ObR.mk _ rfl ?_)))|((with_reducible refine ObEq.mk ?_);(focus (first|rfl|assumption|exact (by cases r<;>simp_all)))))
theorem tf (p:Prop):∃ q:Bool,(q=true↔p):=⟨@decide p (Classical.propDecidable p),by simp⟩
set_option maxHeartbeats 4000000 in
theorem form33 (G : Nat → AV) (kn : Int) (ke va : ByteArray) (mp : Nat) (kk : List Int) (mn : Int) (ls : List Pr) (sz bi : Int) (k1 : 1 ≤ kn) (k6 : kn ≤ 6) (hm : mp < 4294967296) (hk : kk.length ≤ 40) (hl : ls.length ≤ 40) (hs : ∀ p ∈ ls, p.1.size ≤ 40 ∧ p.2.size ≤ 40) (r : Bool) (hr : r = true ↔ FormP kn ke va mp kk mn ls sz bi) :
    PC Try.prog G 45 [nV kn ke va (mp:Int) kk mn ls sz bi] (Bo r):=by
  have hok:Pr7.Okl ls:=⟨by omega,fun p hp=>by have:=hs p hp;omega⟩
  obtain ⟨q1,hq1⟩:=tf (BareP ke va mp kk mn ls false true true true)
  obtain ⟨q2,hq2⟩:=tf (BareP ke va mp kk mn ls true false true true)
  obtain ⟨q3,hq3⟩:=tf (BareP ke va mp kk mn ls true true true false)
  obtain ⟨q4,hq4⟩:=tf (BareP ke va mp kk mn ls false false true true)
  obtain ⟨q5,hq5⟩:=tf (BareP ke va mp kk mn ls true true false true)
  obtain ⟨q6,hq6⟩:=tf (Pr7.SLt ls)
  have b1:=bare45 G kn ke va mp kk mn ls sz bi _ _ _ _ q1 hq1 hk hl
  have b2:=bare45 G kn ke va mp kk mn ls sz bi _ _ _ _ q2 hq2 hk hl
  have b3:=bare45 G kn ke va mp kk mn ls sz bi _ _ _ _ q3 hq3 hk hl
  have b4:=bare45 G kn ke va mp kk mn ls sz bi _ _ _ _ q4 hq4 hk hl
  have b5:=bare45 G kn ke va mp kk mn ls sz bi _ _ _ _ q5 hq5 hk hl
  have b6:PC Try.prog G 56 [.sl 2 (ls.map pA)] (Bo q6):=Pr7.is12 G ls hok q6 hq6
  have b7:=all46 G mp hm
  have hu:=upI_len mp 32
  by_cases hb:bi < 0
  · obtain rfl : r = false := by
      cases r with
      | false=>rfl
      | true=>exact absurd hb (hr.1 rfl).1
    refine pc_ofV cop45 ?_
    repeat' ((conv=>whnf);first|(with_reducible refine SeqP.go ?_)|((with_reducible refine ObD.mk ?_ ?_);(focus (first|rfl|(simp;done))))|((with_reducible refine ObN.mk ?_ ?_);(focus exact zN))|(with_reducible refine ObT.tt ?_)|((with_reducible refine ObB.yes ?_ ?_);(focus (first|assumption|(with_reducible rfl)|omega)))|((with_reducible refine (?_:ObR _ _ _));(first|(refine ObR.mk _ (by assumption) ?_)|(refine ObR.mk _ (by with_reducible rfl) ?_)|(refine ObR.map zX (fun x hx=>?_))|(refine ObR.mk _ rfl ?_)))|((with_reducible refine ObEq.mk ?_);(focus (first|rfl|assumption))))
  simp only [FormP,← hq1,← hq2,← hq3,← hq4,← hq5,← hq6] at hr
  clear hq1 hq2 hq3 hq4 hq5 hq6
  have hkn:(kn=1∨kn=6)∨kn=2∨kn=3∨kn=4∨kn=5:=by omega
  rcases hkn with hkn|rfl|rfl|rfl|rfl
  · have hr' : r = true ↔ sz = 1 ∧ q1 = true := by rw [hr]; rcases hkn with rfl | rfl <;> simp [hb]
    clear hr
    refine pc_ofV cop45 ?_
    rcases hkn with rfl|rfl
    all_goals repeat' ((conv=>whnf);first|(with_reducible refine SeqP.go ?_)|((with_reducible refine ObD.mk ?_ ?_);(focus (first|rfl|(simp;done))))|((with_reducible refine ObN.mk ?_ ?_);(focus exact zN))|(with_reducible refine ObT.tt ?_)|(with_reducible refine ObT.ff ?_)|((with_reducible refine ObB.yes ?_ ?_);(focus (first|assumption|(with_reducible rfl)|omega)))|((with_reducible refine ObB.no ?_ ?_);(focus (first|assumption|omega)))|(with_reducible refine ObB.mk (fun h=>?_) (fun h=>?_))|((with_reducible refine (?_:ObR _ _ _));(first|(refine ObR.mk _ (by assumption) ?_)|(refine ObR.mk _ (by with_reducible rfl) ?_)|(refine ObR.map zX (fun x hx=>?_))|(refine ObR.mk _ rfl ?_)))|((with_reducible refine ObC.f 54 ?_);(first|(with_reducible refine ObC.mk _ (b1) ?_)|(refine ObC.mk _ (b1) ?_)))|((with_reducible refine ObEq.mk ?_);(focus (first|rfl|assumption|exact (by cases r<;>cases q1<;>first|(simp_all;done)|(simp_all;omega))))))
  · have hr' : r = true ↔ ¬ (0 : Int) ∈ kk ∧ ((kk.length : Nat) : Int) = ((upI mp 32).length : Nat) ∧ 0 ≤ sz ∧ q2 = true := by rw [hr]; simp [hb]
    clear hr
    rcases first_or (n:=kk.length) (fun k=>decide (kk[k]? = some 0)) with h|⟨i0,h1,h2,h3⟩
    · have hz : ¬ (0 : Int) ∈ kk := fun hm0 => by
        obtain ⟨k,hk',e⟩:=List.getElem_of_mem hm0
        have:=h k hk'
        simp [List.getElem?_eq_getElem hk',e] at this
      refine pc_ofV cop45 ?_
      repeat' ((conv=>whnf);first|(with_reducible refine SeqP.go ?_)|((with_reducible refine ObD.mk ?_ ?_);(focus (first|rfl|(simp;done))))|((with_reducible refine ObN.mk ?_ ?_);(focus exact zN))|(with_reducible refine ObT.tt ?_)|(with_reducible refine ObT.ff ?_)|((with_reducible refine ObB.yes ?_ ?_);(focus (first|assumption|(with_reducible rfl)|omega)))|((with_reducible refine ObB.no ?_ ?_);(focus (first|assumption|omega)))|((with_reducible refine (?_:ObR _ _ _));(first|(refine ObR.mk _ (by assumption) ?_)|(refine ObR.mk _ (by with_reducible rfl) ?_)|(refine ObR.map zX (fun x hx=>?_))|(refine ObR.mk _ rfl ?_))))
      conv=>whnf
      refine LoopP.go (α:=Nat) (fun i=>i≤kk.length) (fun i=>kk.length - i) (fun i=>[(2,some (Bo false)),(0,some (I i)),(17,none),(0,none),(0,none),(0,none),(0,none),(0,none),(0,none),(0,none),(0,none),(0,none),(0,none),(0,none),(0,none)]) (fun i=>[⟨30,9,[nV 2 ke va mp kk mn ls sz bi],0,0⟩]) 0 (Nat.zero_le _) (Fg.go ?_ rfl) ?_
      · repeat' ((conv=>whnf);first|((with_reducible refine ObEqs.mk ?_ ?_);(focus rfl))|((with_reducible refine ObEq1.i ?_ ?_);(focus (first|(with_reducible rfl)|omega)))|((with_reducible refine ObEq1.mk ?_ ?_);(focus (first|rfl|assumption)))|exact True.intro)
      intro i hi
      have hlt:i < kk.length∨i=kk.length:=by omega
      rcases hlt with hlt|rfl
      · have hq : (kk.map iA)[i]? = some (I kk[i]) := iA_at hlt
        have hf:¬ kk[i]=0:=fun e=>by have:=h i hlt;simp [List.getElem?_eq_getElem hlt,e] at this
        repeat' ((conv=>whnf);first|(with_reducible refine SeqP.go ?_)|((with_reducible refine ObN.mk ?_ ?_);(focus exact zN))|(with_reducible refine ObT.tt ?_)|(with_reducible refine ObT.ff ?_)|((with_reducible refine ObB.yes ?_ ?_);(focus (first|assumption|(with_reducible rfl)|omega)))|((with_reducible refine ObB.no ?_ ?_);(focus (first|assumption|omega)))|((with_reducible refine ObI.nl ?_ ?_);(focus omega))|((with_reducible refine ObX.mk _ rfl ?_ ?_);(focus exact zX))|((with_reducible refine (?_:ObL _ _));(refine ObL.mk _ zL ?_))|((with_reducible refine (?_:ObR _ _ _));(first|(refine ObR.mk _ (by assumption) ?_)|(refine ObR.mk _ (by with_reducible rfl) ?_)|(refine ObR.map zX (fun x hx=>?_))|(refine ObR.mk _ rfl ?_))))
        conv=>whnf
        refine Again.mk (i+1) ?_ ?_ (Fg.go ?_ rfl)
        · omega
        · omega
        repeat' ((conv=>whnf);first|((with_reducible refine ObEqs.mk ?_ ?_);(focus rfl))|((with_reducible refine ObEq1.i ?_ ?_);(focus (first|(with_reducible rfl)|omega)))|((with_reducible refine ObEq1.mk ?_ ?_);(focus (first|rfl|assumption)))|exact True.intro)
      · repeat' ((conv=>whnf);first|(with_reducible refine SeqP.go ?_)|((with_reducible refine ObD.mk ?_ ?_);(focus (first|rfl|(simp;done))))|((with_reducible refine ObN.mk ?_ ?_);(focus exact zN))|(with_reducible refine ObT.tt ?_)|(with_reducible refine ObT.ff ?_)|((with_reducible refine ObB.no ?_ ?_);(focus (first|assumption|omega)))|(with_reducible refine ObB.mk (fun h=>?_) (fun h=>?_))|((with_reducible refine (?_:ObL _ _));(refine ObL.mk _ zL ?_))|((with_reducible refine (?_:ObR _ _ _));(first|(refine ObR.mk _ (by assumption) ?_)|(refine ObR.mk _ (by with_reducible rfl) ?_)|(refine ObR.map zX (fun x hx=>?_))|(refine ObR.mk _ rfl ?_)))|((with_reducible refine ObC.f 55 ?_);(first|(with_reducible refine ObC.mk _ (b7) ?_)|(refine ObC.mk _ (b7) ?_)))|((with_reducible refine ObC.f 54 ?_);(first|(with_reducible refine ObC.mk _ (b2) ?_)|(refine ObC.mk _ (b2) ?_)))|((with_reducible refine ObEq.mk ?_);(focus (first|rfl|assumption|exact (by cases r<;>cases q2<;>first|(simp_all;done)|(simp_all;omega))))))
    · have hz : (0 : Int) ∈ kk := List.mem_of_getElem? (of_decide_eq_true h2)
      obtain rfl:r=false:=by
        cases r with
        | false=>rfl
        | true=>exact absurd hz (hr'.1 rfl).1
      refine pc_ofV cop45 ?_
      repeat' ((conv=>whnf);first|(with_reducible refine SeqP.go ?_)|((with_reducible refine ObD.mk ?_ ?_);(focus (first|rfl|(simp;done))))|((with_reducible refine ObN.mk ?_ ?_);(focus exact zN))|(with_reducible refine ObT.tt ?_)|(with_reducible refine ObT.ff ?_)|((with_reducible refine ObB.yes ?_ ?_);(focus (first|assumption|(with_reducible rfl)|omega)))|((with_reducible refine ObB.no ?_ ?_);(focus (first|assumption|omega)))|((with_reducible refine (?_:ObR _ _ _));(first|(refine ObR.mk _ (by assumption) ?_)|(refine ObR.mk _ (by with_reducible rfl) ?_)|(refine ObR.map zX (fun x hx=>?_))|(refine ObR.mk _ rfl ?_))))
      conv=>whnf
      refine LoopP.go (α:=Nat) (fun i=>i≤i0) (fun i=>kk.length - i) (fun i=>[(2,some (Bo false)),(0,some (I i)),(17,none),(0,none),(0,none),(0,none),(0,none),(0,none),(0,none),(0,none),(0,none),(0,none),(0,none),(0,none),(0,none)]) (fun i=>[⟨30,9,[nV 2 ke va mp kk mn ls sz bi],0,0⟩]) 0 (Nat.zero_le _) (Fg.go ?_ rfl) ?_
      · repeat' ((conv=>whnf);first|((with_reducible refine ObEqs.mk ?_ ?_);(focus rfl))|((with_reducible refine ObEq1.i ?_ ?_);(focus (first|(with_reducible rfl)|omega)))|((with_reducible refine ObEq1.mk ?_ ?_);(focus (first|rfl|assumption)))|exact True.intro)
      intro i hi
      have hlt:i < kk.length:=by omega
      have hq:(kk.map iA)[i]? = some (I kk[i]):=iA_at hlt
      by_cases he:i=i0
      · subst he
        have hf:kk[i]=0:=by have:=of_decide_eq_true h2;rw [List.getElem?_eq_getElem hlt] at this;exact (Option.some.inj this)
        repeat' ((conv=>whnf);first|(with_reducible refine SeqP.go ?_)|((with_reducible refine ObN.mk ?_ ?_);(focus exact zN))|(with_reducible refine ObT.tt ?_)|((with_reducible refine ObB.yes ?_ ?_);(focus (first|assumption|(with_reducible rfl)|omega)))|((with_reducible refine ObX.mk _ rfl ?_ ?_);(focus exact zX))|((with_reducible refine (?_:ObL _ _));(refine ObL.mk _ zL ?_))|((with_reducible refine (?_:ObR _ _ _));(first|(refine ObR.mk _ (by assumption) ?_)|(refine ObR.mk _ (by with_reducible rfl) ?_)|(refine ObR.map zX (fun x hx=>?_))|(refine ObR.mk _ rfl ?_)))|((with_reducible refine ObEq.mk ?_);(focus (first|rfl|assumption))))
      · have hf:¬ kk[i]=0:=fun e=>by have:=h3 i (by omega);simp [List.getElem?_eq_getElem hlt,e] at this
        repeat' ((conv=>whnf);first|(with_reducible refine SeqP.go ?_)|((with_reducible refine ObN.mk ?_ ?_);(focus exact zN))|(with_reducible refine ObT.tt ?_)|(with_reducible refine ObT.ff ?_)|((with_reducible refine ObB.yes ?_ ?_);(focus (first|assumption|(with_reducible rfl)|omega)))|((with_reducible refine ObB.no ?_ ?_);(focus (first|assumption|omega)))|((with_reducible refine ObI.nl ?_ ?_);(focus omega))|((with_reducible refine ObX.mk _ rfl ?_ ?_);(focus exact zX))|((with_reducible refine (?_:ObL _ _));(refine ObL.mk _ zL ?_))|((with_reducible refine (?_:ObR _ _ _));(first|(refine ObR.mk _ (by assumption) ?_)|(refine ObR.mk _ (by with_reducible rfl) ?_)|(refine ObR.map zX (fun x hx=>?_))|(refine ObR.mk _ rfl ?_))))
        conv=>whnf
        refine Again.mk (i+1) ?_ ?_ (Fg.go ?_ rfl)
        · omega
        · omega
        repeat' ((conv=>whnf);first|((with_reducible refine ObEqs.mk ?_ ?_);(focus rfl))|((with_reducible refine ObEq1.i ?_ ?_);(focus (first|(with_reducible rfl)|omega)))|((with_reducible refine ObEq1.mk ?_ ?_);(focus (first|rfl|assumption)))|exact True.intro)
  · have hr' : r = true ↔ (2 : Int) ≤ (ls.length : Nat) ∧ q6 = true ∧ sz = (ls.length : Nat) ∧ q3 = true := by rw [hr]; simp [hb]
    clear hr
    refine pc_ofV cop45 ?_
    cases q6
    all_goals repeat' ((conv=>whnf);first|(with_reducible refine SeqP.go ?_)|((with_reducible refine ObD.mk ?_ ?_);(focus (first|rfl|(simp;done))))|((with_reducible refine ObN.mk ?_ ?_);(focus exact zN))|(with_reducible refine ObT.tt ?_)|(with_reducible refine ObT.ff ?_)|((with_reducible refine ObB.yes ?_ ?_);(focus (first|assumption|(with_reducible rfl)|omega)))|((with_reducible refine ObB.no ?_ ?_);(focus (first|assumption|omega)))|(with_reducible refine ObB.mk (fun h=>?_) (fun h=>?_))|((with_reducible refine (?_:ObL _ _));(refine ObL.mk _ zL ?_))|((with_reducible refine (?_:ObR _ _ _));(first|(refine ObR.mk _ (by assumption) ?_)|(refine ObR.mk _ (by with_reducible rfl) ?_)|(refine ObR.map zX (fun x hx=>?_))|(refine ObR.mk _ rfl ?_)))|((with_reducible refine ObC.f 54 ?_);(first|(with_reducible refine ObC.mk _ (b3) ?_)|(refine ObC.mk _ (b3) ?_)))|((with_reducible refine ObC.f 56 ?_);(first|(with_reducible refine ObC.mk _ (b6) ?_)|(refine ObC.mk _ (b6) ?_)))|((with_reducible refine ObEq.mk ?_);(focus (first|rfl|assumption|exact (by cases r<;>cases q3<;>first|(simp_all;done)|(simp_all;omega))))))
  · have hr' : r = true ↔ (mp : Int) = 0 ∧ ((kk.length : Nat) : Int) = 2 ∧ 1 ≤ sz ∧ q4 = true := by rw [hr]; simp [hb]
    clear hr
    refine pc_ofV cop45 ?_
    repeat' ((conv=>whnf);first|(with_reducible refine SeqP.go ?_)|((with_reducible refine ObD.mk ?_ ?_);(focus (first|rfl|(simp;done))))|((with_reducible refine ObN.mk ?_ ?_);(focus exact zN))|(with_reducible refine ObT.tt ?_)|(with_reducible refine ObT.ff ?_)|((with_reducible refine ObB.yes ?_ ?_);(focus (first|assumption|(with_reducible rfl)|omega)))|((with_reducible refine ObB.no ?_ ?_);(focus (first|assumption|omega)))|(with_reducible refine ObB.mk (fun h=>?_) (fun h=>?_))|((with_reducible refine (?_:ObL _ _));(refine ObL.mk _ zL ?_))|((with_reducible refine (?_:ObR _ _ _));(first|(refine ObR.mk _ (by assumption) ?_)|(refine ObR.mk _ (by with_reducible rfl) ?_)|(refine ObR.map zX (fun x hx=>?_))|(refine ObR.mk _ rfl ?_)))|((with_reducible refine ObC.f 54 ?_);(first|(with_reducible refine ObC.mk _ (b4) ?_)|(refine ObC.mk _ (b4) ?_)))|((with_reducible refine ObEq.mk ?_);(focus (first|rfl|assumption|exact (by cases r<;>cases q4<;>first|(simp_all;done)|(simp_all;omega))))))
  · have hr' : r = true ↔ ¬ mn = 0 ∧ sz = 0 ∧ q5 = true := by rw [hr]; simp [hb]
    clear hr
    refine pc_ofV cop45 ?_
    repeat' ((conv=>whnf);first|(with_reducible refine SeqP.go ?_)|((with_reducible refine ObD.mk ?_ ?_);(focus (first|rfl|(simp;done))))|((with_reducible refine ObN.mk ?_ ?_);(focus exact zN))|(with_reducible refine ObT.tt ?_)|(with_reducible refine ObT.ff ?_)|((with_reducible refine ObB.no ?_ ?_);(focus (first|assumption|omega)))|(with_reducible refine ObB.mk (fun h=>?_) (fun h=>?_))|((with_reducible refine (?_:ObR _ _ _));(first|(refine ObR.mk _ (by assumption) ?_)|(refine ObR.mk _ (by with_reducible rfl) ?_)|(refine ObR.map zX (fun x hx=>?_))|(refine ObR.mk _ rfl ?_)))|((with_reducible refine ObC.f 54 ?_);(first|(with_reducible refine ObC.mk _ (b5) ?_)|(refine ObC.mk _ (b5) ?_)))|((with_reducible refine ObEq.mk ?_);(focus (first|rfl|assumption|exact (by cases r<;>cases q5<;>first|(simp_all;done)|(simp_all;omega))))))
end Go.Proofs.Ytnammfeiehikfaa.Sim

namespace Go.Proofs.Ytnammfeiehikfaa.Sim
open Go.RowKit
set_option maxRecDepth 100000
set_option linter.unusedSimpArgs false
set_option linter.unusedVariables false
theorem may9 (G : Nat → AV) (kn : Int) (ke va : ByteArray) (mp : Nat) (kk : List Int) (mn : Int) (ls : List Pr) (sz bi : Int) (hm : mp < 4294967296) (hk : kk.length ≤ 40) (hl : ls.length ≤ 40) (hs : ∀ p ∈ ls, p.1.size ≤ 40 ∧ p.2.size ≤ 40) (q : Bool) (hq : q = true ↔ FormP kn ke va mp kk mn ls sz bi) :
    PC Try.prog G 33 [nV kn ke va (mp:Int) kk mn ls sz bi] (I (mayE kn (lg (ke,va) || ls.any lg) q)):=by
  have h32:=long32 G kn ke va mp kk mn ls sz bi (by omega)
  have h33:=fun k1 k6=>form33 G kn ke va mp kk mn ls sz bi k1 k6 hm hk hl hs q hq
  clear hq hs
  generalize (lg (ke,va) || ls.any lg)=a at *
  refine pc_ofV cop33 ?_
  unfold mayE
  by_cases h1:kn < 1
  · rw [if_pos h1]
    repeat' ((conv=>whnf);first|(with_reducible refine SeqP.go ?_)|((with_reducible refine ObD.mk ?_ ?_);(focus (first|rfl|(simp;done))))|((with_reducible refine ObN.mk ?_ ?_);(focus exact zN))|(with_reducible refine ObT.tt ?_)|((with_reducible refine ObB.yes ?_ ?_);(focus (first|assumption|(with_reducible rfl)|omega)))|((with_reducible refine (?_:ObR _ _ _));(first|(refine ObR.mk _ (by assumption) ?_)|(refine ObR.mk _ (by with_reducible rfl) ?_)|(refine ObR.map zX (fun x hx=>?_))|(refine ObR.mk _ rfl ?_)))|((with_reducible refine ObEq.i ?_);(focus (first|(with_reducible rfl)|omega))))
  rw [if_neg h1]
  by_cases h6:6 < kn
  · rw [if_pos h6]
    repeat' ((conv=>whnf);first|(with_reducible refine SeqP.go ?_)|((with_reducible refine ObD.mk ?_ ?_);(focus (first|rfl|(simp;done))))|((with_reducible refine ObN.mk ?_ ?_);(focus exact zN))|(with_reducible refine ObT.tt ?_)|(with_reducible refine ObT.ff ?_)|((with_reducible refine ObB.yes ?_ ?_);(focus (first|assumption|(with_reducible rfl)|omega)))|((with_reducible refine ObB.no ?_ ?_);(focus (first|assumption|omega)))|((with_reducible refine (?_:ObR _ _ _));(first|(refine ObR.mk _ (by assumption) ?_)|(refine ObR.mk _ (by with_reducible rfl) ?_)|(refine ObR.map zX (fun x hx=>?_))|(refine ObR.mk _ rfl ?_)))|((with_reducible refine ObEq.i ?_);(focus (first|(with_reducible rfl)|omega))))
  rw [if_neg h6]
  have h33:=h33 (by omega) (by omega)
  cases a<;>cases q
  all_goals repeat' ((conv=>whnf);first|(with_reducible refine SeqP.go ?_)|((with_reducible refine ObD.mk ?_ ?_);(focus (first|rfl|(simp;done))))|((with_reducible refine ObN.mk ?_ ?_);(focus exact zN))|(with_reducible refine ObT.tt ?_)|(with_reducible refine ObT.ff ?_)|((with_reducible refine ObB.no ?_ ?_);(focus (first|assumption|omega)))|((with_reducible refine (?_:ObR _ _ _));(first|(refine ObR.mk _ (by assumption) ?_)|(refine ObR.mk _ (by with_reducible rfl) ?_)|(refine ObR.map zX (fun x hx=>?_))|(refine ObR.mk _ rfl ?_)))|((with_reducible refine ObC.f 44 ?_);(first|(with_reducible refine ObC.mk _ (h32) ?_)|(refine ObC.mk _ (h32) ?_)))|((with_reducible refine ObC.f 45 ?_);(first|(with_reducible refine ObC.mk _ (h33) ?_)|(refine ObC.mk _ (h33) ?_)))|((with_reducible refine ObEq.mk ?_);(focus (first|rfl|assumption))))
end Go.Proofs.Ytnammfeiehikfaa.Sim

namespace Go.Proofs.Ytnammfeiehikfaa.Sim
open Go.RowKit
set_option maxRecDepth 100000
set_option linter.unusedSimpArgs false
set_option linter.unusedVariables false
section
variable (G:Nat→AV)
theorem may33 (x:Nd) (h:x.Ok):PC Try.prog G 33 [nA x] (I (mayV x)):=may9 G x.kn x.ke x.va x.mp x.kk x.mn x.ls x.sz x.bi h.mp h.kk h.ls h.sz _ (by simp)
end
end Go.Proofs.Ytnammfeiehikfaa.Sim

namespace Go.Proofs.Ytnammfeiehikfaa.Sim
open Go.RowKit
set_option maxRecDepth 100000
set_option linter.unusedSimpArgs false
set_option linter.unusedVariables false
section
variable (G:Nat→AV)
set_option maxHeartbeats 4000000 in
theorem may12 (l:List Nd) (rt:Int) (od:List Int) (hl:l.length≤1000) (hx:∀ x ∈ l,x.Ok) (ho:od.length≤1000) (c:Bool) (hc:c=okP l rt od):PC Try.prog G 12 [plA l rt od] (Bo c):=by
  refine pc_ofV cop12 ?_
  repeat' ((conv=>whnf);first|(with_reducible refine SeqP.go ?_)|((with_reducible refine ObD.mk ?_ ?_);(focus (first|rfl|(simp;done)))))
  conv=>whnf
  refine LoopP.go (α:=Nat) (fun i=>i≤l.length∧aI l i=true) (fun i=>l.length - i) (fun i=>[(2,some (Bo false)),(0,some (I i)),(0,none),(0,none),(1,none),(0,none),(0,none),(0,none),(0,none),(0,none),(0,none),(0,none),(0,none),(0,none),(0,none),(0,none),(0,none),(0,none),(0,none),(0,none),(0,none),(0,none),(0,none),(0,none),(0,none),(0,none),(0,none),(0,none),(0,none),(0,none),(0,none),(0,none),(0,none),(0,none),(0,none),(0,none),(0,none)]) (fun _=>[⟨26,3,[plA l rt od],0,0⟩]) 0 ⟨Nat.zero_le _,rfl⟩ (Fg.go ?_ rfl) ?_
  · repeat' ((conv=>whnf);first|((with_reducible refine ObEqs.mk ?_ ?_);(focus rfl))|((with_reducible refine ObEq1.i ?_ ?_);(focus (first|(with_reducible rfl)|omega)))|((with_reducible refine ObEq1.mk ?_ ?_);(focus (first|rfl|assumption)))|exact True.intro)
  rintro i ⟨hi,hai⟩
  by_cases hil:i < l.length
  · have hq := nA_at hil
    have hxo:=hx _ (List.getElem_mem hil)
    have hs:=aI_succ hil
    have hno:=aI_no hil hil
    have hm:=may33 G l[i] hxo
    have hrf:=refs32 G l[i] hxo
    have hri:=rf_i64 hxo
    have hrl:=rf_len hxo
    rw [hai,Bool.true_and] at hs
    generalize l[i]=x at *
    repeat' ((conv=>whnf);first|(with_reducible refine SeqP.go ?_)|((with_reducible refine ObD.mk ?_ ?_);(focus (first|rfl|(simp;done))))|((with_reducible refine ObN.mk ?_ ?_);(focus exact zN))|(with_reducible refine ObT.tt ?_)|((with_reducible refine ObB.yes ?_ ?_);(focus (first|assumption|(with_reducible rfl)|omega)))|((with_reducible refine ObX.mk _ rfl ?_ ?_);(focus exact zX))|((with_reducible refine (?_:ObL _ _));(refine ObL.mk _ zM ?_))|((with_reducible refine (?_:ObR _ _ _));(first|(refine ObR.mk _ (by assumption) ?_)|(refine ObR.mk _ (by with_reducible rfl) ?_)|(refine ObR.map zX (fun x hx=>?_))|(refine ObR.mk _ rfl ?_)))|((with_reducible refine ObC.f 32 ?_);(first|(with_reducible refine ObC.mk _ (hrf) ?_)|(refine ObC.mk _ (hrf) ?_))))
    conv=>whnf
    refine LoopP.go (α:=Nat) (fun k=>k≤(rfN x).length∧((rfN x).take k).all (fun r=>decide (-1 - r < (i:Int)))=true) (fun k=>(rfN x).length - k) (fun k=>[(2,some (Bo false)),(2,some (I k)),(14,none),(0,none),(0,none),(0,none),(0,none),(0,none),(0,none),(0,none),(0,none),(0,none),(0,none),(0,none),(0,none)]) (fun _=>[⟨26,3,[plA l rt od],0,0⟩]) 0 ⟨Nat.zero_le _,rfl⟩ (Fg.go ?_ rfl) ?_
    · repeat' ((conv=>whnf);first|((with_reducible refine ObEqs.mk ?_ ?_);(focus rfl))|((with_reducible refine ObEq1.i ?_ ?_);(focus (first|(with_reducible rfl)|omega)))|((with_reducible refine ObEq1.mk ?_ ?_);(focus (first|rfl|assumption)))|exact True.intro)
    rintro k ⟨hk,hk0⟩
    by_cases hkr:k < (rfN x).length
    · have hq2 := iA_at' hkr
      by_cases hz : -1 - (rfN x)[k] < (i:Int)
      · have h1:=all_tk (p:=fun r=>decide (-1 - r < (i:Int))) hkr hk0 (by simpa using hz)
        repeat' ((conv=>whnf);first|(with_reducible refine SeqP.go ?_)|((with_reducible refine ObN.mk ?_ ?_);(focus exact zN))|(with_reducible refine ObT.tt ?_)|(with_reducible refine ObT.ff ?_)|((with_reducible refine ObB.yes ?_ ?_);(focus (first|assumption|(with_reducible rfl)|omega)))|((with_reducible refine ObB.no ?_ ?_);(focus (first|assumption|omega)))|((with_reducible refine ObI.nl ?_ ?_);(focus omega))|((with_reducible refine ObI.mk _ rfl ?_ ?_ ?_);(focus omega);(focus omega))|((with_reducible refine ObX.mk _ rfl ?_ ?_);(focus exact zX))|((with_reducible refine (?_:ObL _ _));(refine ObL.mk _ zM ?_))|((with_reducible refine (?_:ObR _ _ _));(first|(refine ObR.mk _ (by assumption) ?_)|(refine ObR.mk _ (by with_reducible rfl) ?_)|(refine ObR.map zX (fun x hx=>?_))|(refine ObR.mk _ rfl ?_))))
        conv=>whnf
        refine Again.mk (k+1) ⟨by omega,h1⟩ ?_ (Fg.go ?_ rfl)
        · omega
        repeat' ((conv=>whnf);first|((with_reducible refine ObEqs.mk ?_ ?_);(focus rfl))|((with_reducible refine ObEq1.i ?_ ?_);(focus (first|(with_reducible rfl)|omega)))|((with_reducible refine ObEq1.mk ?_ ?_);(focus (first|rfl|assumption)))|exact True.intro)
      · have h1:=all_no (p:=fun r=>decide (-1 - r < (i:Int))) hkr (by simpa using hz)
        obtain rfl:c=false:=by rw [hc,okP,hno (by rw [okI,h1,Bool.and_false])];simp
        repeat' ((conv=>whnf);first|(with_reducible refine SeqP.go ?_)|((with_reducible refine ObN.mk ?_ ?_);(focus exact zN))|(with_reducible refine ObT.tt ?_)|((with_reducible refine ObB.yes ?_ ?_);(focus (first|assumption|(with_reducible rfl)|omega)))|((with_reducible refine ObI.mk _ rfl ?_ ?_ ?_);(focus omega);(focus omega))|((with_reducible refine ObX.mk _ rfl ?_ ?_);(focus exact zX))|((with_reducible refine (?_:ObL _ _));(refine ObL.mk _ zM ?_))|((with_reducible refine (?_:ObR _ _ _));(first|(refine ObR.mk _ (by assumption) ?_)|(refine ObR.mk _ (by with_reducible rfl) ?_)|(refine ObR.map zX (fun x hx=>?_))|(refine ObR.mk _ rfl ?_)))|((with_reducible refine ObEq.mk ?_);(focus (first|rfl|assumption))))
    · obtain rfl : k = (rfN x).length := by omega
      rw [List.take_length] at hk0
      by_cases hmz:mayV x=0
      · rw [hmz] at hm
        have h2:okI i x=true:=by rw [okI,hk0,hmz];rfl
        repeat' ((conv=>whnf);first|(with_reducible refine SeqP.go ?_)|((with_reducible refine ObD.mk ?_ ?_);(focus (first|rfl|(simp;done))))|((with_reducible refine ObN.mk ?_ ?_);(focus exact zN))|(with_reducible refine ObT.ff ?_)|((with_reducible refine ObB.yes ?_ ?_);(focus (first|assumption|(with_reducible rfl)|omega)))|((with_reducible refine ObB.no ?_ ?_);(focus (first|assumption|omega)))|((with_reducible refine ObI.nl ?_ ?_);(focus omega))|((with_reducible refine ObX.mk _ rfl ?_ ?_);(focus exact zX))|((with_reducible refine (?_:ObL _ _));(refine ObL.mk _ zM ?_))|((with_reducible refine (?_:ObR _ _ _));(first|(refine ObR.mk _ (by assumption) ?_)|(refine ObR.mk _ (by with_reducible rfl) ?_)|(refine ObR.map zX (fun x hx=>?_))|(refine ObR.mk _ rfl ?_)))|((with_reducible refine ObC.f 33 ?_);(first|(with_reducible refine ObC.mk _ (hm) ?_)|(refine ObC.mk _ (hm) ?_))))
        conv=>whnf
        refine Again.mk (i+1) ⟨by omega,by rw [hs,h2]⟩ ?_ (Fg.go ?_ rfl)
        · omega
        repeat' ((conv=>whnf);first|((with_reducible refine ObEqs.mk ?_ ?_);(focus rfl))|((with_reducible refine ObEq1.i ?_ ?_);(focus (first|(with_reducible rfl)|omega)))|((with_reducible refine ObEq1.mk ?_ ?_);(focus (first|rfl|assumption)))|exact True.intro)
      · obtain rfl : c = false := by rw [hc, okP, hno (by rw [okI, decide_eq_false hmz, Bool.false_and])]; simp
        repeat' ((conv=>whnf);first|(with_reducible refine SeqP.go ?_)|((with_reducible refine ObD.mk ?_ ?_);(focus (first|rfl|(simp;done))))|((with_reducible refine ObN.mk ?_ ?_);(focus exact zN))|(with_reducible refine ObT.tt ?_)|(with_reducible refine ObT.ff ?_)|((with_reducible refine ObB.no ?_ ?_);(focus (first|assumption|omega)))|((with_reducible refine ObX.mk _ rfl ?_ ?_);(focus exact zX))|((with_reducible refine (?_:ObL _ _));(refine ObL.mk _ zM ?_))|((with_reducible refine (?_:ObR _ _ _));(first|(refine ObR.mk _ (by assumption) ?_)|(refine ObR.mk _ (by with_reducible rfl) ?_)|(refine ObR.map zX (fun x hx=>?_))|(refine ObR.mk _ rfl ?_)))|((with_reducible refine ObC.f 33 ?_);(first|(with_reducible refine ObC.mk _ (hm) ?_)|(refine ObC.mk _ (hm) ?_)))|((with_reducible refine ObEq.mk ?_);(focus (first|rfl|assumption))))
  obtain rfl:i=l.length:=by omega
  repeat' ((conv=>whnf);first|(with_reducible refine SeqP.go ?_)|((with_reducible refine ObN.mk ?_ ?_);(focus exact zN))|(with_reducible refine ObT.ff ?_)|((with_reducible refine ObB.no ?_ ?_);(focus (first|assumption|omega)))|((with_reducible refine (?_:ObL _ _));(refine ObL.mk _ zM ?_))|((with_reducible refine (?_:ObR _ _ _));(first|(refine ObR.mk _ (by assumption) ?_)|(refine ObR.mk _ (by with_reducible rfl) ?_)|(refine ObR.map zX (fun x hx=>?_))|(refine ObR.mk _ rfl ?_))))
  conv=>whnf
  refine LoopP.go (α:=Nat) (fun i=>i≤od.length∧(od.take i).all (fun r=>decide (0 < r))=true) (fun i=>od.length - i) (fun i=>[(2,some (Bo false)),(3,some (I i)),(33,none),(0,none),(0,none),(0,none),(0,none),(0,none),(0,none),(0,none),(0,none),(0,none),(0,none),(0,none),(0,none)]) (fun _=>[⟨26,3,[plA l rt od],0,0⟩]) 0 ⟨Nat.zero_le _,rfl⟩ (Fg.go ?_ rfl) ?_
  · repeat' ((conv=>whnf);first|((with_reducible refine ObEqs.mk ?_ ?_);(focus rfl))|((with_reducible refine ObEq1.i ?_ ?_);(focus (first|(with_reducible rfl)|omega)))|((with_reducible refine ObEq1.mk ?_ ?_);(focus (first|rfl|assumption)))|exact True.intro)
  rintro i ⟨hi,h0⟩
  by_cases hio:i < od.length
  · have hq := iA_at' hio
    by_cases hz:0 < od[i]
    · have h1:=all_tk (p:=fun r=>decide (0 < r)) hio h0 (by simpa using hz)
      repeat' ((conv=>whnf);first|(with_reducible refine SeqP.go ?_)|((with_reducible refine ObN.mk ?_ ?_);(focus exact zN))|(with_reducible refine ObT.tt ?_)|(with_reducible refine ObT.ff ?_)|((with_reducible refine ObB.yes ?_ ?_);(focus (first|assumption|(with_reducible rfl)|omega)))|((with_reducible refine ObB.no ?_ ?_);(focus (first|assumption|omega)))|((with_reducible refine ObI.nl ?_ ?_);(focus omega))|((with_reducible refine ObX.mk _ rfl ?_ ?_);(focus exact zX))|((with_reducible refine (?_:ObL _ _));(refine ObL.mk _ zM ?_))|((with_reducible refine (?_:ObR _ _ _));(first|(refine ObR.mk _ (by assumption) ?_)|(refine ObR.mk _ (by with_reducible rfl) ?_)|(refine ObR.map zX (fun x hx=>?_))|(refine ObR.mk _ rfl ?_))))
      conv=>whnf
      refine Again.mk (i+1) ⟨by omega,h1⟩ ?_ (Fg.go ?_ rfl)
      · omega
      repeat' ((conv=>whnf);first|((with_reducible refine ObEqs.mk ?_ ?_);(focus rfl))|((with_reducible refine ObEq1.i ?_ ?_);(focus (first|(with_reducible rfl)|omega)))|((with_reducible refine ObEq1.mk ?_ ?_);(focus (first|rfl|assumption)))|exact True.intro)
    · have h1:=all_no (p:=fun r=>decide (0 < r)) hio (by simpa using hz)
      obtain rfl:c=false:=by rw [hc,okP,h1];rfl
      repeat' ((conv=>whnf);first|(with_reducible refine SeqP.go ?_)|((with_reducible refine ObN.mk ?_ ?_);(focus exact zN))|(with_reducible refine ObT.tt ?_)|((with_reducible refine ObB.yes ?_ ?_);(focus (first|assumption|(with_reducible rfl)|omega)))|((with_reducible refine ObX.mk _ rfl ?_ ?_);(focus exact zX))|((with_reducible refine (?_:ObL _ _));(refine ObL.mk _ zM ?_))|((with_reducible refine (?_:ObR _ _ _));(first|(refine ObR.mk _ (by assumption) ?_)|(refine ObR.mk _ (by with_reducible rfl) ?_)|(refine ObR.map zX (fun x hx=>?_))|(refine ObR.mk _ rfl ?_)))|((with_reducible refine ObEq.mk ?_);(focus (first|rfl|assumption))))
  obtain rfl:i=od.length:=by omega
  rw [List.take_length] at h0
  by_cases hz : -1 - rt < (l.length:Int)
  · obtain rfl : c = true := by rw [hc, okP, h0, hai]; simp [hz]
    repeat' ((conv=>whnf);first|(with_reducible refine SeqP.go ?_)|((with_reducible refine ObN.mk ?_ ?_);(focus exact zN))|(with_reducible refine ObT.ff ?_)|((with_reducible refine ObB.yes ?_ ?_);(focus (first|assumption|(with_reducible rfl)|omega)))|((with_reducible refine ObB.no ?_ ?_);(focus (first|assumption|omega)))|((with_reducible refine ObI.mk _ rfl ?_ ?_ ?_);(focus omega);(focus omega))|((with_reducible refine (?_:ObL _ _));(refine ObL.mk _ zM ?_))|((with_reducible refine (?_:ObR _ _ _));(first|(refine ObR.mk _ (by assumption) ?_)|(refine ObR.mk _ (by with_reducible rfl) ?_)|(refine ObR.map zX (fun x hx=>?_))|(refine ObR.mk _ rfl ?_)))|((with_reducible refine ObEq.mk ?_);(focus (first|rfl|assumption|exact (by congr 2;exact decide_eq_true (by omega))))))
  · obtain rfl : c = false := by rw [hc, okP, h0, hai]; simp [hz]
    repeat' ((conv=>whnf);first|(with_reducible refine SeqP.go ?_)|((with_reducible refine ObN.mk ?_ ?_);(focus exact zN))|(with_reducible refine ObT.ff ?_)|((with_reducible refine ObB.no ?_ ?_);(focus (first|assumption|omega)))|((with_reducible refine ObI.mk _ rfl ?_ ?_ ?_);(focus omega);(focus omega))|((with_reducible refine (?_:ObL _ _));(refine ObL.mk _ zM ?_))|((with_reducible refine (?_:ObR _ _ _));(first|(refine ObR.mk _ (by assumption) ?_)|(refine ObR.mk _ (by with_reducible rfl) ?_)|(refine ObR.map zX (fun x hx=>?_))|(refine ObR.mk _ rfl ?_)))|((with_reducible refine ObEq.mk ?_);(focus (first|rfl|assumption|exact (by congr 2;exact decide_eq_false (by omega))))))
theorem back7 (l:List Nd) (rt:Int) (od:List Int):PC Try.prog G 7 [plA l rt od] (plA l rt od):=by
  refine pc_ofV cop7 ?_
  repeat' ((conv=>whnf);first|(with_reducible refine SeqP.go ?_)|exact SameP.mk rfl rfl|(with_reducible refine ObAnd.mk ?_ ?_)|(with_reducible refine ObDx.same ?_)|((with_reducible refine ObD.mk ?_ ?_);(focus (first|rfl|(simp;done))))|((with_reducible refine ObN.mk ?_ ?_);(focus exact zN))|(with_reducible refine ObT.tt ?_)|(with_reducible refine ObT.ff ?_)|((with_reducible refine ObT.yes ?_ ?_);(focus assumption))|((with_reducible refine ObT.no ?_ ?_);(focus assumption))|((with_reducible refine ObT.yes ?_ ?_);(focus (refine decide_eq_true ?_;first|assumption|omega)))|((with_reducible refine ObT.no ?_ ?_);(focus (refine decide_eq_false ?_;first|assumption|omega)))|(with_reducible refine ObT.dec (fun h=>?_) (fun h=>?_))|(with_reducible refine ObT.mk (fun h=>?_) (fun h=>?_))|((with_reducible refine ObB.yes ?_ ?_);(focus (first|assumption|(with_reducible rfl)|omega)))|((with_reducible refine ObB.no ?_ ?_);(focus (first|assumption|omega)))|(with_reducible refine ObB.mk (fun h=>?_) (fun h=>?_))|((with_reducible refine ObI.nn ?_ ?_);(focus omega))|((with_reducible refine ObI.nl ?_ ?_);(focus omega))|((with_reducible refine ObI.sn ?_ ?_ ?_);(focus omega);(focus omega))|((with_reducible refine ObI.sl ?_ ?_ ?_);(focus omega);(focus omega))|((with_reducible refine ObI.dl ?_ ?_);(focus omega))|((with_reducible refine ObI.mk _ rfl ?_ ?_ ?_);(focus omega);(focus omega))|((with_reducible refine ObZ.wu ?_ ?_);(focus omega))|((with_reducible refine ObZ.wi ?_ ?_ ?_);(focus omega);(focus omega))|(with_reducible refine ObZ.ml ?_)|(with_reducible refine ObZ.mn ?_)|(with_reducible refine ObZ.mk _ rfl ?_)|((with_reducible refine ObX.mk _ rfl ?_ ?_);(focus exact zX))|((with_reducible refine ObX.lit ?_ ?_);(focus exact zX))|((with_reducible refine ObX.int ?_ ?_ ?_);(focus exact zX);(focus exact zX))|((with_reducible refine ObY.mk _ rfl ?_ ?_);(focus exact zX))|((with_reducible refine ObY.lit ?_ ?_);(focus exact zX))|((with_reducible refine ObY.int ?_ ?_ ?_);(focus exact zX);(focus exact zX))|((with_reducible refine (?_:ObL _ _));(refine ObL.mk _ zL ?_))|((with_reducible refine (?_:ObU _ _));(refine ObU.mk _ zU ?_))|(with_reducible refine ObS.mk _ rfl ?_)|((with_reducible refine (?_:ObR _ _ _));(first|(refine ObR.mk _ (by assumption) ?_)|(refine ObR.mk _ (by with_reducible rfl) ?_)|(refine ObR.map zX (fun x hx=>?_))|(refine ObR.mk _ rfl ?_)))|((with_reducible refine ObO.l ?_);(with_reducible refine ObN.mk ?_ ?_);(focus (first|rfl|omega)))|((with_reducible refine ObO.r ?_);(with_reducible refine ObN.mk ?_ ?_);(focus (first|omega|(simp;done))))|((with_reducible refine ObW.nil ?_ ?_);(focus (first|rfl|assumption)))|((with_reducible refine ObW.cons ?_ ?_);(focus (first|assumption|(simp;done))))|((with_reducible refine ObJ.zz ?_))|((with_reducible refine ObJ.nz ?_ ?_);(focus exact zX))|((with_reducible refine ObJ.zn ?_ ?_);(focus exact zX))|((with_reducible refine ObJ.nn ?_ ?_ ?_);(focus exact zX);(focus exact zX))|((with_reducible refine ObJ.lz ?_ ?_);(focus exact zX))|((with_reducible refine ObJ.zl ?_ ?_);(focus exact zX))|((with_reducible refine ObJ.nl ?_ ?_ ?_);(focus exact zX);(focus exact zX))|((with_reducible refine ObJ.ln ?_ ?_ ?_);(focus exact zX);(focus exact zX))|((with_reducible refine ObJ.ll ?_ ?_ ?_);(focus exact zX);(focus exact zX))|((with_reducible refine (?_:ObG _ _ _ _));(refine ObG.nz zX _ (by first|rfl) ?_))|((with_reducible refine (?_:ObG _ _ _ _));(refine ObG.zn zX _ (by first|rfl) ?_))|((with_reducible refine (?_:ObG _ _ _ _));(refine ObG.nn zX zX _ (by first|rfl) ?_))|((with_reducible refine (?_:ObG _ _ _ _));(refine ObG.lz zX _ (by first|rfl) ?_))|((with_reducible refine (?_:ObG _ _ _ _));(refine ObG.zl zX _ (by first|rfl) ?_))|((with_reducible refine (?_:ObG _ _ _ _));(refine ObG.nl zX zX _ (by first|rfl) ?_))|((with_reducible refine (?_:ObG _ _ _ _));(refine ObG.ln zX zX _ (by first|rfl) ?_))|((with_reducible refine (?_:ObG _ _ _ _));(refine ObG.ll zX zX _ (by first|rfl) ?_))|((with_reducible refine ObQ.mk _ rfl ?_ ?_);(focus exact zX))|((with_reducible refine ObEq.i ?_);(focus (first|(with_reducible rfl)|omega)))|((with_reducible refine ObEq.mk ?_);(focus (first|rfl|assumption)))|(exact ObEnd.eq rfl rfl)|((with_reducible refine ObSt.live ?_ ?_);(focus (first|trivial|(refine ⟨rfl,?_⟩;first|omega|(exact Nat.le_refl _)))))|(with_reducible refine ObSt.stale ?_)|((with_reducible refine ObRn.mk ?_ ?_);(focus (first|rfl|(simp [rnB,rnC,rnL];done))))|((with_reducible refine ObRow.same ?_ ?_ ?_);(focus (first|rfl|assumption));(focus (first|rfl|assumption|(simp;done))))|((with_reducible refine ObRow.lit ?_ ?_);(focus (first|rfl|(simp [rnB,rnC,rnL];done))))|((with_reducible refine ObEqs.mk ?_ ?_);(focus rfl))|((with_reducible refine ObEq1.i ?_ ?_);(focus (first|(with_reducible rfl)|omega)))|((with_reducible refine ObEq1.o ?_ ?_);(focus (first|(with_reducible rfl)|omega)))|((with_reducible refine ObEq1.mk ?_ ?_);(focus (first|rfl|assumption)))|exact True.intro|(with_reducible refine ObE.min ?_)|(with_reducible refine ObE.max ?_))
end
end Go.Proofs.Ytnammfeiehikfaa.Sim

namespace Go.Proofs.Ytnammfeiehikfaa.Sim
open Go.RowKit
set_option maxRecDepth 100000
set_option linter.unusedSimpArgs false
set_option linter.unusedVariables false
section
variable (G:Nat→AV)
set_option maxHeartbeats 4000000 in
theorem may38 (l:List Nd) (hl:l.length≤1000) (hx:∀ x ∈ l,x.Ok) (c:Bool) (hc:c=aH l l.length):PC Try.prog G 38 [.sl 9 (l.map nA)] (Bo c):=by
  refine pc_ofV cop38 ?_
  repeat' ((conv=>whnf);first|(with_reducible refine SeqP.go ?_))
  conv=>whnf
  refine LoopP.go (α:=Nat) (fun i=>i≤l.length∧aH l i=true) (fun i=>l.length - i) (fun i=>[(2,some (Bo false)),(0,some (I i)),(0,none),(0,none),(0,none),(0,none),(0,none),(0,none),(0,none),(0,none),(0,none),(0,none),(0,none),(0,none),(0,none),(0,none),(0,none),(0,none),(0,none),(0,none),(0,none),(0,none),(0,none),(0,none),(0,none),(0,none),(0,none),(0,none),(0,none),(0,none),(0,none),(0,none),(0,none),(0,none),(0,none),(0,none),(0,none),(0,none),(0,none),(0,none)]) (fun _=>[]) 0 ⟨Nat.zero_le _,rfl⟩ (Fg.go ?_ rfl) ?_
  · repeat' ((conv=>whnf);first|((with_reducible refine ObEqs.mk ?_ ?_);(focus rfl))|((with_reducible refine ObEq1.i ?_ ?_);(focus (first|(with_reducible rfl)|omega)))|((with_reducible refine ObEq1.mk ?_ ?_);(focus (first|rfl|assumption)))|exact True.intro)
  rintro i ⟨hi,hai⟩
  by_cases hil:i < l.length
  · have hq := nA_at hil
    have hxo:=hx _ (List.getElem_mem hil)
    have hs:=aH_succ hil
    have hno:=aH_no hil hil
    have hm:=may33 G l[i] hxo
    have hrf:=refs32 G l[i] hxo
    have hri:=rf_i64 hxo
    have hrl:=rf_len hxo
    rw [hai,Bool.true_and] at hs
    generalize l[i]=x at *
    repeat' ((conv=>whnf);first|(with_reducible refine SeqP.go ?_)|((with_reducible refine ObD.mk ?_ ?_);(focus (first|rfl|(simp;done))))|((with_reducible refine ObN.mk ?_ ?_);(focus exact zN))|(with_reducible refine ObT.tt ?_)|((with_reducible refine ObB.yes ?_ ?_);(focus (first|assumption|(with_reducible rfl)|omega)))|((with_reducible refine ObX.mk _ rfl ?_ ?_);(focus exact zX))|((with_reducible refine (?_:ObL _ _));(refine ObL.mk _ zM ?_))|((with_reducible refine (?_:ObR _ _ _));(first|(refine ObR.mk _ (by assumption) ?_)|(refine ObR.mk _ (by with_reducible rfl) ?_)|(refine ObR.map zX (fun x hx=>?_))|(refine ObR.mk _ rfl ?_)))|((with_reducible refine ObC.f 32 ?_);(first|(with_reducible refine ObC.mk _ (hrf) ?_)|(refine ObC.mk _ (hrf) ?_))))
    conv=>whnf
    refine LoopP.go (α:=Nat) (fun k=>k≤(rfN x).length∧((rfN x).take k).all (hR i)=true) (fun k=>(rfN x).length - k) (fun k=>[(2,some (Bo false)),(2,some (I k)),(11,none),(0,none),(0,none),(0,none),(0,none),(0,none),(0,none),(0,none),(0,none),(0,none),(0,none),(0,none),(0,none),(0,none),(0,none),(0,none),(0,none),(0,none),(0,none)]) (fun _=>[]) 0 ⟨Nat.zero_le _,rfl⟩ (Fg.go ?_ rfl) ?_
    · repeat' ((conv=>whnf);first|((with_reducible refine ObEqs.mk ?_ ?_);(focus rfl))|((with_reducible refine ObEq1.i ?_ ?_);(focus (first|(with_reducible rfl)|omega)))|((with_reducible refine ObEq1.mk ?_ ?_);(focus (first|rfl|assumption)))|exact True.intro)
    rintro k ⟨hk,hk0⟩
    by_cases hkr:k < (rfN x).length
    · have hq2 := iA_at' hkr
      by_cases hz1:(rfN x)[k] < 1
      · have h1 := all_no (p := hR i) hkr (hR_no1 hz1)
        obtain rfl:c=false:=by rw [hc,hno (by rw [okH,h1,Bool.and_false])]
        repeat' ((conv=>whnf);first|(with_reducible refine SeqP.go ?_)|((with_reducible refine ObN.mk ?_ ?_);(focus exact zN))|(with_reducible refine ObT.tt ?_)|((with_reducible refine ObB.yes ?_ ?_);(focus (first|assumption|(with_reducible rfl)|omega)))|((with_reducible refine ObX.mk _ rfl ?_ ?_);(focus exact zX))|((with_reducible refine (?_:ObL _ _));(refine ObL.mk _ zM ?_))|((with_reducible refine (?_:ObR _ _ _));(first|(refine ObR.mk _ (by assumption) ?_)|(refine ObR.mk _ (by with_reducible rfl) ?_)|(refine ObR.map zX (fun x hx=>?_))|(refine ObR.mk _ rfl ?_)))|((with_reducible refine ObEq.mk ?_);(focus (first|rfl|assumption))))
      by_cases hz:(i:Int) < (rfN x)[k]
      · have h1 := all_no (p := hR i) hkr (hR_no2 hz)
        obtain rfl:c=false:=by rw [hc,hno (by rw [okH,h1,Bool.and_false])]
        repeat' ((conv=>whnf);first|(with_reducible refine SeqP.go ?_)|((with_reducible refine ObN.mk ?_ ?_);(focus exact zN))|(with_reducible refine ObT.tt ?_)|(with_reducible refine ObT.ff ?_)|((with_reducible refine ObB.yes ?_ ?_);(focus (first|assumption|(with_reducible rfl)|omega)))|((with_reducible refine ObB.no ?_ ?_);(focus (first|assumption|omega)))|((with_reducible refine ObX.mk _ rfl ?_ ?_);(focus exact zX))|((with_reducible refine (?_:ObL _ _));(refine ObL.mk _ zM ?_))|((with_reducible refine (?_:ObR _ _ _));(first|(refine ObR.mk _ (by assumption) ?_)|(refine ObR.mk _ (by with_reducible rfl) ?_)|(refine ObR.map zX (fun x hx=>?_))|(refine ObR.mk _ rfl ?_)))|((with_reducible refine ObEq.mk ?_);(focus (first|rfl|assumption))))
      · have h1 := all_tk (p := hR i) hkr hk0 (hR_yes (by omega) (by omega))
        repeat' ((conv=>whnf);first|(with_reducible refine SeqP.go ?_)|((with_reducible refine ObN.mk ?_ ?_);(focus exact zN))|(with_reducible refine ObT.tt ?_)|(with_reducible refine ObT.ff ?_)|((with_reducible refine ObB.yes ?_ ?_);(focus (first|assumption|(with_reducible rfl)|omega)))|((with_reducible refine ObB.no ?_ ?_);(focus (first|assumption|omega)))|((with_reducible refine ObI.nl ?_ ?_);(focus omega))|((with_reducible refine ObX.mk _ rfl ?_ ?_);(focus exact zX))|((with_reducible refine (?_:ObL _ _));(refine ObL.mk _ zM ?_))|((with_reducible refine (?_:ObR _ _ _));(first|(refine ObR.mk _ (by assumption) ?_)|(refine ObR.mk _ (by with_reducible rfl) ?_)|(refine ObR.map zX (fun x hx=>?_))|(refine ObR.mk _ rfl ?_))))
        conv=>whnf
        refine Again.mk (k+1) ⟨by omega,h1⟩ ?_ (Fg.go ?_ rfl)
        · omega
        repeat' ((conv=>whnf);first|((with_reducible refine ObEqs.mk ?_ ?_);(focus rfl))|((with_reducible refine ObEq1.i ?_ ?_);(focus (first|(with_reducible rfl)|omega)))|((with_reducible refine ObEq1.mk ?_ ?_);(focus (first|rfl|assumption)))|exact True.intro)
    · obtain rfl : k = (rfN x).length := by omega
      rw [List.take_length] at hk0
      by_cases hmz:mayV x=0
      · rw [hmz] at hm
        have h2:okH i x=true:=by rw [okH,hk0,hmz];rfl
        repeat' ((conv=>whnf);first|(with_reducible refine SeqP.go ?_)|((with_reducible refine ObD.mk ?_ ?_);(focus (first|rfl|(simp;done))))|((with_reducible refine ObN.mk ?_ ?_);(focus exact zN))|(with_reducible refine ObT.ff ?_)|((with_reducible refine ObB.yes ?_ ?_);(focus (first|assumption|(with_reducible rfl)|omega)))|((with_reducible refine ObB.no ?_ ?_);(focus (first|assumption|omega)))|((with_reducible refine ObI.nl ?_ ?_);(focus omega))|((with_reducible refine ObX.mk _ rfl ?_ ?_);(focus exact zX))|((with_reducible refine (?_:ObL _ _));(refine ObL.mk _ zM ?_))|((with_reducible refine (?_:ObR _ _ _));(first|(refine ObR.mk _ (by assumption) ?_)|(refine ObR.mk _ (by with_reducible rfl) ?_)|(refine ObR.map zX (fun x hx=>?_))|(refine ObR.mk _ rfl ?_)))|((with_reducible refine ObC.f 33 ?_);(first|(with_reducible refine ObC.mk _ (hm) ?_)|(refine ObC.mk _ (hm) ?_))))
        conv=>whnf
        refine Again.mk (i+1) ⟨by omega,by rw [hs,h2]⟩ ?_ (Fg.go ?_ rfl)
        · omega
        repeat' ((conv=>whnf);first|((with_reducible refine ObEqs.mk ?_ ?_);(focus rfl))|((with_reducible refine ObEq1.i ?_ ?_);(focus (first|(with_reducible rfl)|omega)))|((with_reducible refine ObEq1.mk ?_ ?_);(focus (first|rfl|assumption)))|exact True.intro)
      · obtain rfl : c = false := by rw [hc, hno (by rw [okH, decide_eq_false hmz, Bool.false_and])]
        repeat' ((conv=>whnf);first|(with_reducible refine SeqP.go ?_)|((with_reducible refine ObD.mk ?_ ?_);(focus (first|rfl|(simp;done))))|((with_reducible refine ObN.mk ?_ ?_);(focus exact zN))|(with_reducible refine ObT.tt ?_)|(with_reducible refine ObT.ff ?_)|((with_reducible refine ObB.no ?_ ?_);(focus (first|assumption|omega)))|((with_reducible refine ObX.mk _ rfl ?_ ?_);(focus exact zX))|((with_reducible refine (?_:ObL _ _));(refine ObL.mk _ zM ?_))|((with_reducible refine (?_:ObR _ _ _));(first|(refine ObR.mk _ (by assumption) ?_)|(refine ObR.mk _ (by with_reducible rfl) ?_)|(refine ObR.map zX (fun x hx=>?_))|(refine ObR.mk _ rfl ?_)))|((with_reducible refine ObC.f 33 ?_);(first|(with_reducible refine ObC.mk _ (hm) ?_)|(refine ObC.mk _ (hm) ?_)))|((with_reducible refine ObEq.mk ?_);(focus (first|rfl|assumption))))
  obtain rfl:i=l.length:=by omega
  obtain rfl:c=true:=by rw [hc,hai]
  repeat' ((conv=>whnf);first|(with_reducible refine SeqP.go ?_)|((with_reducible refine ObN.mk ?_ ?_);(focus exact zN))|(with_reducible refine ObT.ff ?_)|((with_reducible refine ObB.no ?_ ?_);(focus (first|assumption|omega)))|((with_reducible refine (?_:ObL _ _));(refine ObL.mk _ zM ?_))|((with_reducible refine ObEq.mk ?_);(focus (first|rfl|assumption))))
end
theorem mxL_le {l:List Int} {n:Int}:∀ {a:Int},mxL a l≤n↔a≤n∧∀ r ∈ l,r≤n:=by
  induction l with
  | nil=>intro a;simp [mxL]
  | cons x t ih =>
    intro a
    have h:mxL a (x::t)=mxL (mxI a x) t:=rfl
    rw [h,ih]
    have h2:mxI a x≤n↔a≤n∧x≤n:=by unfold mxI;split<;>omega
    rw [h2];simp [and_assoc]
theorem mxN_le {l:List Nd} {n:Int}:∀ {a:Int},mxN a l≤n↔a≤n∧∀ x ∈ l,∀ r ∈ rfN x,r≤n:=by
  induction l with
  | nil=>intro a;simp [mxN]
  | cons x t ih =>
    intro a
    have h:mxN a (x::t)=mxN (mxL a (rfN x)) t:=rfl
    rw [h,ih,mxL_le];simp [and_assoc]
section
variable (G:Nat→AV)
end
end Go.Proofs.Ytnammfeiehikfaa.Sim

namespace Go.Proofs.Ytnammfeiehikfaa.Sim
open Go.RowKit
set_option maxRecDepth 100000
set_option linter.unusedSimpArgs false
set_option linter.unusedVariables false
theorem gt_i64 {to:List Int} {r:Int} (hr:i64 r) (ht:∀ t ∈ to,i64 t):i64 (gt to r):=by
  unfold gt refD
  split
  · exact hr
  · cases h:to[(-1 - r).toNat]? with
    | none=>exact ⟨by decide,by decide⟩
    | some t=>exact ht t (List.mem_of_getElem? h)
theorem toD_i64 {n k:Nat} (hn:n≤1000) (hk:k≤1000):∀ t ∈ toD n k,i64 t:=by
  intro t ht
  simp only [toD,List.mem_map,List.mem_range] at ht
  obtain ⟨j,hj,rfl⟩:=ht
  exact ⟨by omega,by omega⟩
theorem fillX_ok {to:List Int} {x:Nd} (h:x.Ok) (ht:∀ t ∈ to,i64 t):(fillX to x).Ok :=
  ⟨h.mp,h.ke,h.va,by simpa [fillX] using h.kk,h.ls,h.sz,gt_i64 h.mn ht,fun r hr=>by
    simp only [fillX,List.mem_map] at hr
    obtain ⟨a,ha,rfl⟩:=hr
    exact gt_i64 (h.ks a ha) ht⟩
theorem fls_ok {n:Nat} {l:List Nd} (hn:n≤1000) (hl:l.length≤1000) (h:∀ x ∈ l,x.Ok):∀ x ∈ fls n l,x.Ok:=by
  intro x hx
  simp only [fls,List.mem_mapIdx] at hx
  obtain ⟨j,hj,rfl⟩:=hx
  exact fillX_ok (h _ (List.getElem_mem hj)) (toD_i64 hn (by omega))
def dS (c:Bool) (o:List Nd) (r:Int):AV:=match c with|true=>.tup [.sl 9 (o.map nA),I r,Bo true]|false=>.tup [.sl 9 [],I 0,Bo false]
section
variable (G:Nat→AV)
theorem fillN17 (x:Nd) (h:x.Ok) (n i:Nat) (hi:i≤1000) (hx:okI i x=true):PC Try.prog G 17 [nA x,.sl 1 ((toD n i).map iA)] (.tup [nA (fillX (toD n i) x),Bo true]) :=
  fill17 G x.kn x.ke x.va x.mp x.kk x.mn x.ls x.sz x.bi (toD n i) h.kk (by rw [toD_len];omega) h.mn h.ks true (fillC_yes hx).symm
end
end Go.Proofs.Ytnammfeiehikfaa.Sim

namespace Go.Proofs.Ytnammfeiehikfaa.Sim
open Go.RowKit
set_option maxRecDepth 100000
set_option linter.unusedSimpArgs false
set_option linter.unusedVariables false
def rfs (l:List Nd):List Int:=l.flatMap rfN
theorem rfs_snoc {l:List Nd} {i:Nat} (h:i < l.length):rfs (l.take (i+1))=rfs (l.take i)++rfN l[i]:=by
  rw [List.take_succ_eq_append_getElem h,rfs,List.flatMap_append];simp [rfs]
theorem rfs_len {l:List Nd} (h:∀ x ∈ l,x.Ok):(rfs l).length≤41 * l.length:=by
  induction l with
  | nil=>simp [rfs]
  | cons x t ih =>
    have h1:=rf_len (h x (List.mem_cons_self ..))
    have h2:=ih fun z hz=>h z (List.mem_cons_of_mem _ hz)
    have e:rfs (x::t)=rfN x++rfs t:=by simp [rfs]
    rw [e,List.length_append,List.length_cons];omega
theorem all_mx {rt:Int} {od:List Int} {l:List Nd} {n:Int}:((rt::od)++rfs l).all (fun r=>decide (r≤n))=decide (mxN (mxL rt od) l≤n):=by
  rw [Bool.eq_iff_iff,decide_eq_true_iff,mxN_le,mxL_le]
  simp [rfs,List.all_eq_true,and_assoc]
section
variable (G:Nat→AV)
set_option maxHeartbeats 8000000 in
theorem do23 (h l : List Nd) (rt : Int) (od : List Int) (hh : h.length ≤ 100) (hho : ∀ x ∈ h, x.Ok) (hl : l.length ≤ 100) (hlo : ∀ x ∈ l, x.Ok) (ho : od.length ≤ 100) (hr : i64 rt) (c : Bool) (hc : c = okD h l rt od) :
    PC Try.prog G 23 [.sl 9 (h.map nA),plA l rt od] (dS c (h++fls h.length l) (gt (toD h.length l.length) rt)):=by
  have c12:=may12 G l rt od (by omega) hlo (by omega) _ rfl
  have c38:=may38 G h (by omega) hho _ rfl
  unfold okD at hc
  rw [← all_mx] at hc
  by_cases h1:okP l rt od=true
  rotate_left
  · have h1 := Bool.eq_false_iff.2 h1
    obtain rfl:c=false:=by rw [hc,h1];rfl
    rw [h1] at c12
    simp only [dS]
    refine pc_ofV cop23 ?_
    repeat' ((conv=>whnf);first|(with_reducible refine SeqP.go ?_)|((with_reducible refine ObD.mk ?_ ?_);(focus (first|rfl|(simp;done))))|((with_reducible refine ObN.mk ?_ ?_);(focus exact zN))|(with_reducible refine ObT.tt ?_)|(with_reducible refine ObT.ff ?_)|((with_reducible refine (?_:ObR _ _ _));(first|(refine ObR.mk _ (by assumption) ?_)|(refine ObR.mk _ (by with_reducible rfl) ?_)|(refine ObR.map zX (fun x hx=>?_))|(refine ObR.mk _ rfl ?_)))|((with_reducible refine ObC.f 12 ?_);(first|(with_reducible refine ObC.mk _ (c12) ?_)|(refine ObC.mk _ (c12) ?_)))|((with_reducible refine ObEq.mk ?_);(focus (first|rfl|assumption))))
  by_cases h2:aH h h.length=true
  rotate_left
  · have h2 := Bool.eq_false_iff.2 h2
    obtain rfl:c=false:=by rw [hc,h1,h2];rfl
    rw [h1] at c12
    rw [h2] at c38
    simp only [dS]
    refine pc_ofV cop23 ?_
    repeat' ((conv=>whnf);first|(with_reducible refine SeqP.go ?_)|((with_reducible refine ObD.mk ?_ ?_);(focus (first|rfl|(simp;done))))|((with_reducible refine ObN.mk ?_ ?_);(focus exact zN))|(with_reducible refine ObT.tt ?_)|(with_reducible refine ObT.ff ?_)|((with_reducible refine (?_:ObR _ _ _));(first|(refine ObR.mk _ (by assumption) ?_)|(refine ObR.mk _ (by with_reducible rfl) ?_)|(refine ObR.map zX (fun x hx=>?_))|(refine ObR.mk _ rfl ?_)))|((with_reducible refine ObC.f 12 ?_);(first|(with_reducible refine ObC.mk _ (c12) ?_)|(refine ObC.mk _ (c12) ?_)))|((with_reducible refine ObC.f 38 ?_);(first|(with_reducible refine ObC.mk _ (c38) ?_)|(refine ObC.mk _ (c38) ?_)))|((with_reducible refine ObEq.mk ?_);(focus (first|rfl|assumption))))
  have h3':=h1
  rw [h1] at c12 hc
  rw [h2] at c38 hc
  clear h1 h2
  rw [Bool.true_and,Bool.true_and] at hc
  simp only [okP,Bool.and_eq_true,decide_eq_true_eq] at h3'
  obtain ⟨⟨-,hai⟩,hrt⟩:=h3'
  have hroot:=r19 G rt hr (toD h.length l.length) (by rw [toD_len];omega) true (ok_to (by omega)).symm
  generalize hgr:gt (toD h.length l.length) rt=root at *
  obtain ⟨L0,hL0⟩:∃ L0,L0=rt::od:=⟨_,rfl⟩
  have us0:[I rt]++od.map iA=L0.map iA:=by rw [hL0];rfl
  have us1:I rt::od.map iA=L0.map iA:=us0
  have hlen:1+(od.map iA).length=L0.length:=by rw [hL0];simp;omega
  have r0:=nr_i L0
  refine pc_ofV cop23 ?_
  repeat' ((conv=>whnf);first|(with_reducible refine SeqP.go ?_)|((with_reducible refine ObD.mk ?_ ?_);(focus (first|rfl|(simp;done))))|((with_reducible refine ObN.mk ?_ ?_);(focus exact zN))|(with_reducible refine ObT.tt ?_)|(with_reducible refine ObT.ff ?_)|((with_reducible refine (?_:ObL _ _));(refine ObL.mk _ (by first|exact hlen|exact (List.length_map _)|assumption|exact (List.length_map _).trans (by assumption)|exact List.length_map _|rfl) ?_))|((with_reducible refine (?_:ObU _ _));(refine ObU.mk _ (by first|exact us0|exact us1|assumption|((conv=>lhs;simp only [List.set_cons_zero,List.set_cons_succ,List.take_succ_cons,List.take_zero,List.drop_succ_cons,List.drop_zero,List.nil_append,List.cons_append,List.append_nil,List.take_nil,List.drop_nil]);try rfl)|rfl) ?_))|((with_reducible refine (?_:ObR _ _ _));(first|(refine ObR.mk _ (by assumption) ?_)|(refine ObR.mk _ (by with_reducible rfl) ?_)|(refine ObR.map zX (fun x hx=>?_))|(refine ObR.mk _ rfl ?_)))|((with_reducible refine ObC.f 12 ?_);(first|(with_reducible refine ObC.mk _ (c12) ?_)|(refine ObC.mk _ (c12) ?_)))|((with_reducible refine ObC.f 38 ?_);(first|(with_reducible refine ObC.mk _ (c38) ?_)|(refine ObC.mk _ (c38) ?_))))
  conv=>whnf
  refine LoopP.go (α:=Nat × List Int) (fun p=>p.1≤l.length∧p.2=(rt::od)++rfs (l.take p.1)) (fun p=>l.length - p.1) (fun p=>[(7,some (.ol 1 0 p.2.length)),(0,some (I p.1)),(18,none),(2,none),(0,none),(0,none),(0,none),(0,none),(0,none),(0,none),(0,none),(0,none),(0,none),(0,none),(0,none),(0,none),(0,none),(0,none),(0,none)]) (fun p=>[⟨26,3,[plA l rt od],0,0⟩,⟨23,1,p.2.map iA,0,0⟩]) (0,L0) ⟨Nat.zero_le _,by simp [rfs,hL0]⟩ (Fg.vw [(0,0,0),(0,1,1)] (by repeat' ((conv=>whnf);first|((with_reducible refine ObN.mk ?_ ?_);(focus exact zN))|((with_reducible refine ObRn.mk ?_ ?_);(focus (first|rfl|(simp [rnB,rnC,rnL];done))))|((with_reducible refine ObEqs.mk ?_ ?_);(focus rfl))|exact True.intro)) (by repeat' ((conv=>whnf);first|((with_reducible refine ObN.mk ?_ ?_);(focus exact zN))|((with_reducible refine ObRow.same ?_ ?_ ?_);(focus (first|rfl|assumption));(focus (first|rfl|assumption|(simp;done))))|exact True.intro)) (by simp) (by repeat' ((conv=>whnf);first|exact True.intro))) ?_
  rintro ⟨i,L⟩ ⟨hi,hL⟩
  dsimp only at hi hL ⊢
  have hLl:L.length≤4300:=by
    have h1:=rfs_len (l:=l.take i) (fun x hx=>hlo x (List.mem_of_mem_take hx))
    rw [hL,List.length_append,List.length_cons]
    rw [List.length_take] at h1;omega
  by_cases hil:i < l.length
  · have hq := nA_at hil
    have hxo:=hlo _ (List.getElem_mem hil)
    have hrf:=refs32 G l[i] hxo
    have hrl:=rf_len hxo
    have hs:=rfs_snoc hil
    generalize l[i]=x at *
    have us:(L.map iA).take L.length++(rfN x).map iA=(L++rfN x).map iA:=by rw [i_all,List.map_append]
    have hl1:L.length+((rfN x).map iA).length=(L++rfN x).length:=by simp
    have r1:=nr_i (L++rfN x)
    repeat' ((conv=>whnf);first|(with_reducible refine SeqP.go ?_)|((with_reducible refine ObD.mk ?_ ?_);(focus (first|rfl|(simp;done))))|((with_reducible refine ObN.mk ?_ ?_);(focus exact zN))|(with_reducible refine ObT.tt ?_)|((with_reducible refine ObB.yes ?_ ?_);(focus (first|assumption|(with_reducible rfl)|omega)))|((with_reducible refine ObI.nl ?_ ?_);(focus omega))|((with_reducible refine ObX.mk _ rfl ?_ ?_);(focus exact zX))|((with_reducible refine (?_:ObL _ _));(refine ObL.mk _ (by first|exact hl1|exact (List.length_map _)|assumption|exact (List.length_map _).trans (by assumption)|exact List.length_map _|rfl) ?_))|((with_reducible refine (?_:ObU _ _));(refine ObU.mk _ (by first|exact us|assumption|((conv=>lhs;simp only [List.set_cons_zero,List.set_cons_succ,List.take_succ_cons,List.take_zero,List.drop_succ_cons,List.drop_zero,List.nil_append,List.cons_append,List.append_nil,List.take_nil,List.drop_nil]);try rfl)|rfl) ?_))|((with_reducible refine (?_:ObR _ _ _));(first|(refine ObR.mk _ (by assumption) ?_)|(refine ObR.mk _ (by with_reducible rfl) ?_)|(refine ObR.map zX (fun x hx=>?_))|(refine ObR.mk _ rfl ?_)))|((with_reducible refine ObC.f 32 ?_);(first|(with_reducible refine ObC.mk _ (hrf) ?_)|(refine ObC.mk _ (hrf) ?_))))
    conv=>whnf
    refine Again.mk (i+1,L++rfN x) ⟨by dsimp only;omega,by dsimp only;rw [hs,hL,List.append_assoc]⟩ ?_ (Fg.vw [(0,0,0),(0,1,1)] ?_ ?_ (by simp) ?_)
    · dsimp only;omega
    all_goals repeat' ((conv=>whnf);first|((with_reducible refine ObN.mk ?_ ?_);(focus exact zN))|((with_reducible refine ObRn.mk ?_ ?_);(focus (first|rfl|(simp [rnB,rnC,rnL];done))))|((with_reducible refine ObRow.same ?_ ?_ ?_);(focus (first|rfl|assumption));(focus (first|rfl|assumption|(simp;done))))|((with_reducible refine ObEqs.mk ?_ ?_);(focus rfl))|exact True.intro)
  obtain rfl:i=l.length:=by omega
  rw [List.take_length] at hL
  rw [← hL] at hc
  repeat' ((conv=>whnf);first|(with_reducible refine SeqP.go ?_)|((with_reducible refine ObN.mk ?_ ?_);(focus exact zN))|(with_reducible refine ObT.ff ?_)|((with_reducible refine ObB.no ?_ ?_);(focus (first|assumption|omega)))|((with_reducible refine (?_:ObL _ _));(refine ObL.mk _ zM ?_))|((with_reducible refine (?_:ObR _ _ _));(first|(refine ObR.mk _ (by assumption) ?_)|(refine ObR.mk _ (by with_reducible rfl) ?_)|(refine ObR.map zX (fun x hx=>?_))|(refine ObR.mk _ rfl ?_))))
  conv=>whnf
  refine LoopP.go (α:=Nat) (fun k=>k≤L.length∧(L.take k).all (fun r=>decide (r≤(h.length:Int)))=true) (fun k=>L.length - k) (fun k=>[(4,none),(0,none),(0,none),(2,some (I k)),(36,none),(0,none),(0,none),(0,none),(0,none),(0,none),(0,none),(0,none),(0,none),(0,none),(0,none),(0,none),(0,none)]) (fun _=>[⟨26,3,[plA l rt od],0,0⟩,⟨23,1,L.map iA,0,0⟩]) 0 ⟨Nat.zero_le _,rfl⟩ (Fg.go ?_ rfl) ?_
  · repeat' ((conv=>whnf);first|((with_reducible refine ObEqs.mk ?_ ?_);(focus rfl))|((with_reducible refine ObEq1.i ?_ ?_);(focus (first|(with_reducible rfl)|omega)))|exact True.intro)
  rintro k ⟨hk,hk0⟩
  by_cases hkl:k < L.length
  · have hq := iA_at' hkl
    by_cases hz:L[k]≤(h.length:Int)
    · have h1:=all_tk (p:=fun r=>decide (r≤(h.length:Int))) hkl hk0 (by simpa using hz)
      repeat' ((conv=>whnf);first|(with_reducible refine SeqP.go ?_)|((with_reducible refine ObN.mk ?_ ?_);(focus exact zN))|(with_reducible refine ObT.tt ?_)|(with_reducible refine ObT.ff ?_)|((with_reducible refine ObB.yes ?_ ?_);(focus (first|assumption|(with_reducible rfl)|omega)))|((with_reducible refine ObB.no ?_ ?_);(focus (first|assumption|omega)))|((with_reducible refine ObI.nl ?_ ?_);(focus omega))|((with_reducible refine ObX.mk _ rfl ?_ ?_);(focus exact zX))|((with_reducible refine (?_:ObL _ _));(refine ObL.mk _ zM ?_))|((with_reducible refine (?_:ObR _ _ _));(first|(refine ObR.mk _ (by assumption) ?_)|(refine ObR.mk _ (by with_reducible rfl) ?_)|(refine ObR.map zX (fun x hx=>?_))|(refine ObR.mk _ rfl ?_))))
      conv=>whnf
      refine Again.mk (k+1) ⟨by omega,h1⟩ ?_ (Fg.go ?_ rfl)
      · omega
      repeat' ((conv=>whnf);first|((with_reducible refine ObEqs.mk ?_ ?_);(focus rfl))|((with_reducible refine ObEq1.i ?_ ?_);(focus (first|(with_reducible rfl)|omega)))|exact True.intro)
    · have h1:=all_no (p:=fun r=>decide (r≤(h.length:Int))) hkl (by simpa using hz)
      obtain rfl:c=false:=by rw [hc,h1]
      simp only [dS]
      repeat' ((conv=>whnf);first|(with_reducible refine SeqP.go ?_)|((with_reducible refine ObN.mk ?_ ?_);(focus exact zN))|(with_reducible refine ObT.tt ?_)|((with_reducible refine ObB.yes ?_ ?_);(focus (first|assumption|(with_reducible rfl)|omega)))|((with_reducible refine ObX.mk _ rfl ?_ ?_);(focus exact zX))|((with_reducible refine (?_:ObL _ _));(refine ObL.mk _ zM ?_))|((with_reducible refine (?_:ObR _ _ _));(first|(refine ObR.mk _ (by assumption) ?_)|(refine ObR.mk _ (by with_reducible rfl) ?_)|(refine ObR.map zX (fun x hx=>?_))|(refine ObR.mk _ rfl ?_)))|((with_reducible refine ObEq.mk ?_);(focus (first|rfl|assumption))))
  obtain rfl:k=L.length:=by omega
  rw [List.take_length] at hk0
  obtain rfl:c=true:=by rw [hc,hk0]
  simp only [dS]
  clear hc hk0
  have rh:=nr_n h
  have hlo2:0+(h.map nA).length=h.length:=by simp
  repeat' ((conv=>whnf);first|(with_reducible refine SeqP.go ?_)|((with_reducible refine ObD.mk ?_ ?_);(focus (first|rfl|(simp;done))))|((with_reducible refine ObN.mk ?_ ?_);(focus exact zN))|(with_reducible refine ObT.ff ?_)|((with_reducible refine ObB.no ?_ ?_);(focus (first|assumption|omega)))|((with_reducible refine (?_:ObL _ _));(refine ObL.mk _ (by first|exact hlo2|exact (List.length_map _)|assumption|exact (List.length_map _).trans (by assumption)|exact List.length_map _|rfl) ?_))|((with_reducible refine (?_:ObU _ _));(refine ObU.mk _ zU ?_)))
  conv=>whnf
  refine LoopP.go (α:=Nat × List Nd × List Int) (fun p=>p.1≤l.length∧p.2.1=h++fls h.length (l.take p.1)∧p.2.2=toD h.length p.1) (fun p=>l.length - p.1) (fun p=>[(7,none),(2,some (.ol 1 0 p.2.1.length)),(0,some (.ol 2 0 p.2.2.length)),(0,some (I p.1)),(0,none),(0,none),(32,none),(11,none),(1,none),(0,none),(0,none),(0,none),(0,none),(0,none),(0,none),(0,none),(0,none),(0,none),(0,none),(0,none),(0,none),(0,none),(0,none),(0,none),(0,none),(0,none),(0,none),(0,none),(0,none),(0,none),(0,none),(0,none),(0,none),(0,none),(0,none),(0,none)]) (fun p=>[⟨26,3,[plA l rt od],0,0⟩,⟨30,9,p.2.1.map nA,0,0⟩,⟨23,1,p.2.2.map iA,0,p.2.2.length - 1⟩]) (0,h,[]) ⟨Nat.zero_le _,by simp [fls],rfl⟩ (Fg.vw [(0,0,0),(0,2,1),(0,3,0)] (by repeat' ((conv=>whnf);first|((with_reducible refine ObN.mk ?_ ?_);(focus exact zN))|((with_reducible refine ObRn.mk ?_ ?_);(focus (first|rfl|(simp [rnB,rnC,rnL];done))))|((with_reducible refine ObEqs.mk ?_ ?_);(focus rfl))|exact True.intro)) (by repeat' ((conv=>whnf);first|((with_reducible refine ObN.mk ?_ ?_);(focus exact zN))|((with_reducible refine ObRow.same ?_ ?_ ?_);(focus (first|rfl|assumption));(focus (first|rfl|assumption|(simp;done))))|exact True.intro)) (by simp) (by repeat' ((conv=>whnf);first|exact True.intro))) ?_
  rintro ⟨i,o,t⟩ ⟨hi,hoo,htt⟩
  dsimp only at hi hoo htt ⊢
  have hol:o.length=h.length+i:=by rw [hoo,List.length_append,fls_len,List.length_take];omega
  have htl:t.length=i:=by rw [htt,toD_len]
  have la:=n_all (l:=o)
  have lp:=p_n o
  have ta:=i_all (l:=t)
  have tp:=p_i t
  by_cases hil:i < l.length
  · have hq := nA_at hil
    have hf:=fillN17 G l[i] (hlo _ (List.getElem_mem hil)) h.length i (by omega) (aI_get hai hil hil)
    have hs:=fls_snoc (n:=h.length) hil
    rw [← htt] at hf hs
    have hts:=toD_succ h.length i
    generalize fillX t l[i]=y at *
    generalize l[i]=x at *
    have us:(o.map nA).take o.length++[nA y]=(o++[y]).map nA:=n_snoc (l:=o)
    have hl1:o.length+[nA y].length=(o++[y]).length:=by simp
    have hl2:((o++[y]).length:Int)=(h.length:Int)+1+(i:Int):=by rw [List.length_append,hol];simp;omega
    have r1:=nr_n (o++[y])
    have r2:=nr_i (t++[((o++[y]).length:Int)])
    have us2:(t.map iA).take t.length++[.v (.int .i64 ((o++[y]).length:Int))]=(t++[((o++[y]).length:Int)]).map iA:=i_snoc (l:=t)
    have hl3:t.length+[I ((o++[y]).length:Int)].length=(t++[((o++[y]).length:Int)]).length:=by simp
    have fz1:(t++[((o++[y]).length:Int)]).length=t.length+1:=by simp
    repeat' ((conv=>whnf);first|(with_reducible refine SeqP.go ?_)|((with_reducible refine ObD.mk ?_ ?_);(focus (first|rfl|(simp;done))))|((with_reducible refine ObN.mk ?_ ?_);(focus exact zN))|(with_reducible refine ObT.tt ?_)|((with_reducible refine ObB.yes ?_ ?_);(focus (first|assumption|(with_reducible rfl)|omega)))|((with_reducible refine ObI.nl ?_ ?_);(focus omega))|((with_reducible refine ObX.mk _ rfl ?_ ?_);(focus exact zX))|((with_reducible refine (?_:ObL _ _));(refine ObL.mk _ (by first|exact hl1|exact hl3|exact (List.length_map _)|assumption|exact (List.length_map _).trans (by assumption)|exact List.length_map _|rfl) ?_))|((with_reducible refine (?_:ObU _ _));(refine ObU.mk _ (by first|exact ta|exact us|exact us2|assumption|((conv=>lhs;simp only [List.set_cons_zero,List.set_cons_succ,List.take_succ_cons,List.take_zero,List.drop_succ_cons,List.drop_zero,List.nil_append,List.cons_append,List.append_nil,List.take_nil,List.drop_nil]);try rfl)|rfl) ?_))|((with_reducible refine (?_:ObR _ _ _));(first|(refine ObR.mk _ (by assumption) ?_)|(refine ObR.mk _ (by with_reducible rfl) ?_)|(refine ObR.map zX (fun x hx=>?_))|(refine ObR.mk _ rfl ?_)))|((with_reducible refine ObC.f 17 ?_);(first|(with_reducible refine ObC.mk _ (hf) ?_)|(refine ObC.mk _ (hf) ?_))))
    conv=>whnf
    refine Again.mk (i+1,o++[y],t++[((o++[y]).length:Int)]) ⟨by dsimp only;omega,by dsimp only;rw [hs,hoo,List.append_assoc],by dsimp only;rw [hts,← htt,hl2]⟩ ?_ (Fg.vw [(0,0,0),(0,1,1),(0,2,1)] ?_ ?_ (by simp) ?_)
    · dsimp only;omega
    all_goals repeat' ((conv=>whnf);first|((with_reducible refine ObN.mk ?_ ?_);(focus exact zN))|((with_reducible refine ObRn.mk ?_ ?_);(focus (first|rfl|(simp [rnB,rnC,rnL];done))))|((with_reducible refine ObRow.same ?_ ?_ ?_);(focus (first|rfl|assumption));(focus (first|rfl|assumption|(simp;done))))|((with_reducible refine ObEqs.mk ?_ ?_);(focus rfl))|exact True.intro)
  · obtain rfl : i = l.length := by omega
    rw [List.take_length] at hoo
    rw [← htt] at hroot
    rw [← hoo]
    repeat' ((conv=>whnf);first|(with_reducible refine SeqP.go ?_)|((with_reducible refine ObN.mk ?_ ?_);(focus exact zN))|(with_reducible refine ObT.ff ?_)|((with_reducible refine ObB.no ?_ ?_);(focus (first|assumption|omega)))|((with_reducible refine (?_:ObL _ _));(refine ObL.mk _ zM ?_))|((with_reducible refine (?_:ObU _ _));(refine ObU.mk _ (by first|exact ta|exact la|assumption|((conv=>lhs;simp only [List.set_cons_zero,List.set_cons_succ,List.take_succ_cons,List.take_zero,List.drop_succ_cons,List.drop_zero,List.nil_append,List.cons_append,List.append_nil,List.take_nil,List.drop_nil]);try rfl)|rfl) ?_))|((with_reducible refine (?_:ObR _ _ _));(first|(refine ObR.mk _ (by assumption) ?_)|(refine ObR.mk _ (by with_reducible rfl) ?_)|(refine ObR.map zX (fun x hx=>?_))|(refine ObR.mk _ rfl ?_)))|((with_reducible refine ObC.f 19 ?_);(first|(with_reducible refine ObC.mk _ (hroot) ?_)|(refine ObC.mk _ (hroot) ?_)))|((with_reducible refine ObEq.mk ?_);(focus (first|rfl|assumption))))
end
end Go.Proofs.Ytnammfeiehikfaa.Sim

namespace Go.Proofs.Ytnammfeiehikfaa.Sim
open Go.RowKit
set_option maxRecDepth 100000
set_option linter.unusedSimpArgs false
set_option linter.unusedVariables false
section
variable (G:Nat→AV)
theorem give8b (L:List Nd) (rt:Int) (T:List Int) (hL:L.length≤12) (hLo:∀ x ∈ L,x.Ok) (hT:T.length≤20):PC Try.prog G 8 [plA L rt T] (plA L rt T):=by
  have h:=give8 G L rt T (by omega) (fun x hx=>(hLo x hx).wd) (by omega)
  rw [List.take_of_length_le hL,List.take_of_length_le hT] at h
  have e:L.map fewX=L:=by
    conv=>rhs;rw [← List.map_id L]
    exact List.map_congr_left fun x hx=>fewX_eq (hLo x hx)
  rwa [e] at h
set_option maxHeartbeats 8000000 in
theorem doesC (h0 H l0 L : List Nd) (rt : Int) (od0 T : List Int) (hH : H.length ≤ 12) (hHo : ∀ x ∈ H, x.Ok) (hL : L.length ≤ 12) (hLo : ∀ x ∈ L, x.Ok) (hT : T.length ≤ 20) (hr : i64 rt)
    (c21:PC Try.prog G 21 [.sl 9 (h0.map nA)] (.sl 9 (H.map nA))) (c21b:PC Try.prog G 21 [.sl 9 (H.map nA)] (.sl 9 (H.map nA)))
    (c8:PC Try.prog G 8 [plA l0 rt od0] (plA L rt T)) (c:Bool) (hc:c=okD H L rt T):PC Try.prog G 5 [.sl 9 (h0.map nA),plA l0 rt od0] (Bo true):=by
  have c8b:=give8b G L rt T hL hLo hT
  have c7:=back7 G L rt T
  have c22:=do22 G H L rt T (by omega) hHo (by omega) hLo (by omega) hr c hc
  have c23:=do23 G H L rt T (by omega) hHo (by omega) hLo (by omega) hr c hc
  have c15:=works18 G
  have c13:=heap13 G (H++fls H.length L) (by rw [List.length_append,fls_len];omega) (fun z hz=>by rcases List.mem_append.1 hz with h|h;exact hHo z h;exact fls_ok (by omega) (by omega) hLo z h)
  have c13n:=heap13 G [] (by simp) (by simp)
  simp only [List.map_nil] at c13n
  clear hc
  generalize H++fls H.length L=O at *
  generalize gt (toD H.length L.length) rt=root at *
  refine pc_ofV cop5 ?_
  cases c
  all_goals simp only [dR] at c22
  all_goals simp only [dS] at c23
  all_goals repeat' ((conv=>whnf);first|(with_reducible refine SeqP.go ?_)|((with_reducible refine ObD.mk ?_ ?_);(focus (first|rfl|(simp;done))))|((with_reducible refine ObN.mk ?_ ?_);(focus exact zN))|(with_reducible refine ObT.tt ?_)|(with_reducible refine ObT.ff ?_)|((with_reducible refine ObB.yes ?_ ?_);(focus (first|assumption|(with_reducible rfl)|omega)))|((with_reducible refine ObB.no ?_ ?_);(focus (first|assumption|omega)))|((with_reducible refine (?_:ObU _ _));(refine ObU.mk _ zU ?_))|((with_reducible refine (?_:ObR _ _ _));(first|(refine ObR.mk _ (by assumption) ?_)|(refine ObR.mk _ (by with_reducible rfl) ?_)|(refine ObR.map zX (fun x hx=>?_))|(refine ObR.mk _ rfl ?_)))|((with_reducible refine ObC.f 21 ?_);(first|(with_reducible refine ObC.mk _ (c21) ?_)|(refine ObC.mk _ (c21) ?_)))|((with_reducible refine ObC.f 21 ?_);(first|(with_reducible refine ObC.mk _ (c21b) ?_)|(refine ObC.mk _ (c21b) ?_)))|((with_reducible refine ObC.f 8 ?_);(first|(with_reducible refine ObC.mk _ (c8) ?_)|(refine ObC.mk _ (c8) ?_)))|((with_reducible refine ObC.f 8 ?_);(first|(with_reducible refine ObC.mk _ (c8b) ?_)|(refine ObC.mk _ (c8b) ?_)))|((with_reducible refine ObC.f 7 ?_);(first|(with_reducible refine ObC.mk _ (c7) ?_)|(refine ObC.mk _ (c7) ?_)))|((with_reducible refine ObC.f 22 ?_);(first|(with_reducible refine ObC.mk _ (c22) ?_)|(refine ObC.mk _ (c22) ?_)))|((with_reducible refine ObC.f 23 ?_);(first|(with_reducible refine ObC.mk _ (c23) ?_)|(refine ObC.mk _ (c23) ?_)))|((with_reducible refine ObC.f 13 ?_);(first|(with_reducible refine ObC.mk _ (c13) ?_)|(refine ObC.mk _ (c13) ?_)))|((with_reducible refine ObC.f 13 ?_);(first|(with_reducible refine ObC.mk _ (c13n) ?_)|(refine ObC.mk _ (c13n) ?_)))|((with_reducible refine ObC.f 15 ?_);(first|(with_reducible refine ObC.mk _ (c15) ?_)|(refine ObC.mk _ (c15) ?_)))|((with_reducible refine ObEq.mk ?_);(focus (first|rfl|assumption))))
end
theorem does (G:Nat→AV) (h l:List Nd) (rt:Int) (od:List Int) (hh:h.length≤9223372036854775807) (hhx:∀ x ∈ h,x.Wd) (hl:l.length≤9223372036854775807) (hx:∀ x ∈ l,x.Wd) (ho:od.length≤9223372036854775807) (hr:i64 rt):PC Try.prog G 5 [.sl 9 (h.map nA),plA l rt od] (Bo true) :=
  doesC G h (fewL 12 1 h) l ((l.take 12).map fewX) rt od (od.take 20) fewL_len (fewL_ok hhx) (by rw [List.length_map,List.length_take];omega) (fun y hy=>by
    obtain ⟨z,hz,rfl⟩:=List.mem_map.1 hy
    exact fewX_ok (hx z (List.mem_of_mem_take hz))) (by rw [List.length_take];omega) hr (few21 G h hh hhx) (few21b G h hh hhx) (give8 G l rt od hl hx ho) _ rfl
theorem PlanDoes_calls (as0 as1:List AV) (s0:ShC Try.prog 22 as0) (s1:ShC Try.prog 26 as1):PC Try.prog (fun _=>.unk) 5 [mkE (isAggT Try.prog 22) as0,mkE (isAggT Try.prog 26) as1] (Bo true):=by
  obtain ⟨h,h0,h6,h7⟩:=heap_inv s0
  obtain ⟨l,rt,od,h1,h2,h3,h4,h5⟩:=plan_inv s1
  have e1:isAggT Try.prog 26=true:=by kernel_rfl
  have e2:isAggT Try.prog 22=false:=by kernel_rfl
  rw [e1,e2,h0,h1]
  exact does _ h l rt od h6 h7 h2 h3 h4 h5
end Go.Proofs.Ytnammfeiehikfaa.Sim

