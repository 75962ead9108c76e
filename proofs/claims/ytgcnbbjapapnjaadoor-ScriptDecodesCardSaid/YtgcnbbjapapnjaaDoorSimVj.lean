/- Code by evaluation, in pieces: pieces that are put together otherwise. -/
import Derived.Test.YtgcnbbjapapnjaaDoorSimVi
namespace Go.Proofs.YtgcnbbjapapnjaaDoor.Sim
open Go.RowKit
set_option linter.unusedVariables false
section
variable {P : Program} {G : Nat → AV} {m : Nat}
theorem thenQ_thenQ (k k' : St → Prop) (Q : EX → St → Prop) : thenQ k (thenQ k' Q) = thenQ k Q := by
  funext e st
  cases e <;> rfl
theorem V_assoc {a b c : AC} {Q : EX → St → Prop} {st : St} (h : V P G m (.seq (.seq a b) c) Q st) : V P G m (.seq a (.seq b c)) Q st := by
  have h' : V P G m a (thenQ (SeqP m (V P G m b (thenQ (SeqP m (V P G m c Q)) Q))) (thenQ (SeqP m (V P G m c Q)) Q)) st := h
  rw [thenQ_thenQ] at h'
  exact h'
/-- A framed call; how many rows there are is given as a number. -/
theorem ObH.frn {f : FuncId} {as : List AV} {Hb : Hp} {k : KK} (N : Nat) (hN : Hb.length = N) (T : Tb) {asl : List AV} {Hl Hl' : Hp} {r : AV} (h : HC P G f asl Hl r Hl') (hn : (T.map (·.2.1)).Nodup) (hid : (T.map (·.1)) = T.map (·.2.2))
    (hlt : ∀ p ∈ T, p.2.1 < Hb.length) (hk : vwK T Hb T Hl (ObAs T as asl (ObRs (rho T N) r (fun r' => frK (rho T N) T Hl' Hb (fun H' => k r' H'))))) : ObH P G f as Hb k := by
  subst hN
  exact ObH.fr T h hn hid hlt hk
end
end Go.Proofs.YtgcnbbjapapnjaaDoor.Sim
