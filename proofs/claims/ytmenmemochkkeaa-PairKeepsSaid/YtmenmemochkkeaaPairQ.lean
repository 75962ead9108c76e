/- Bindings: the laws. -/
import Derived.Test.YtmenmemochkkeaaPairR
import Derived.Test.YtmenmemochkkeaaPairV
namespace Go.Proofs.Ytmenmemochkkeaa.SimLaw
open Go.RowKit Go.Proofs.Ytmenmemochkkeaa.Sim
theorem hM : MkOk (fun _ => .unk) := make14 _ (fun g n P A B R N a m b => sym44 _ g n P A B R N a m b)
theorem PairMakes_calls (as0 as1 : List AV) (s0 : ShC Try.prog 22 as0) (s1 : ShC Try.prog 9 as1) : PC Try.prog (fun _ => .unk) 3 [mkE (isAggT Try.prog 22) as0, mkE (isAggT Try.prog 9) as1] (Bo true) := Sim.PairMakes_calls as0 as1 s0 s1 hM
theorem PairChanges_calls (as0 as1 as2 : List AV) (s0 : ShC Try.prog 22 as0) (s1 : ShC Try.prog 9 as1) (s2 : ShC Try.prog 9 as2) : PC Try.prog (fun _ => .unk) 4 [mkE (isAggT Try.prog 22) as0, mkE (isAggT Try.prog 9) as1, mkE (isAggT Try.prog 9) as2] (Bo true) := Sim.PairChanges_calls as0 as1 as2 s0 s1 s2 hM
theorem PairSeeks_calls (as0 as1 : List AV) (s0 : ShC Try.prog 22 as0) (s1 : ShC Try.prog 9 as1) : PC Try.prog (fun _ => .unk) 5 [mkE (isAggT Try.prog 22) as0, mkE (isAggT Try.prog 9) as1] (Bo true) := Sim.PairSeeks_calls as0 as1 s0 s1 hM
theorem PairKeeps_calls (as0 as1 as2 as3 : List AV) (s0 : ShC Try.prog 22 as0) (s1 : ShC Try.prog 9 as1) (s2 : ShC Try.prog 9 as2) (s3 : ShC Try.prog 9 as3) : PC Try.prog (fun _ => .unk) 6 [mkE (isAggT Try.prog 22) as0, mkE (isAggT Try.prog 9) as1, mkE (isAggT Try.prog 9) as2, mkE (isAggT Try.prog 9) as3] (Bo true) := Sim.PairKeeps_calls as0 as1 as2 as3 s0 s1 s2 s3 hM
end Go.Proofs.Ytmenmemochkkeaa.SimLaw
