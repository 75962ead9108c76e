/- Code by evaluation, in pieces: what holds between two of them. -/
import Derived.Test.YtgcnbbjapapnjaaDoorSimVh
namespace Go.Proofs.YtgcnbbjapapnjaaDoor.Sim
open Go.RowKit
set_option linter.unusedVariables false
section
variable {P : Program} {G : Nat → AV} {m : Nat}
/-- Between two pieces of code: what is known of the slots, and of the rows. -/
theorem V_cut {α : Type} {a b : AC} {Q : EX → St → Prop} {s : List AV} {H : Hp} (J : α → Prop) (M : α → List (Nat × Option AV)) (Hc : α → Hp)
    (h1 : ∀ K : St → Prop, (∀ (s' : List AV) (H' : Hp) (p : α), J p → Fg m ⟨s', H'⟩ ⟨mx s (M p), Hc p⟩ → K ⟨s', H'⟩) → V P G m a (thenQ K Q) ⟨s, H⟩)
    (h2 : ∀ p, J p → V P G m b Q ⟨mx s (M p), Hc p⟩) : V P G m (.seq a b) Q ⟨s, H⟩ :=
  h1 _ (fun s' H' p hp hf => SeqP.fg _ hf (h2 p hp))
theorem V_block {id : Nat} {c : AC} {Q : EX → St → Prop} {st : St} (h : V P G m c (blockQ id Q) st) : V P G m (.block id c) Q st := h
theorem V_seq {a b : AC} {Q : EX → St → Prop} {st : St} (h : V P G m a (thenQ (SeqP m (V P G m b Q)) Q) st) : V P G m (.seq a b) Q st := h
end
end Go.Proofs.YtgcnbbjapapnjaaDoor.Sim
