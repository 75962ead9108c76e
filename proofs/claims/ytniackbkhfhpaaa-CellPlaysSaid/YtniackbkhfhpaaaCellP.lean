/- Cells used anyhow: a call of both. -/
import Derived.Test.YtniackbkhfhpaaaCellH
import Derived.Test.YtniackbkhfhpaaaCellK
namespace Go.Proofs.Ytniackbkhfhpaaa.Sim
open Go.RowKit
set_option maxRecDepth 100000
set_option linter.unusedSimpArgs false
set_option linter.unusedVariables false
theorem step (G : Nat → AV) (n : Nat) (m : List W3) (c : Nat) (d i : Int) (o p : W3) (hm : m.length = n) (hn : n ≤ 6) (hc : c ≤ 100) :
    ∃ (x : W3) (b : Bool) (e : Int) (m' : List W3) (c' : Nat), m'.length = n ∧ c' ≤ c + 1 ∧ DoC G n m c d i o p x b e m' c' ∧ DoD G n m c d i o p x b e m' c' := by
  have hr := rnd_in (x := d) (n := 4) (by omega)
  by_cases h : i < 0 ∨ (n : Int) ≤ i
  · exact ⟨_, _, _, m, c, hm, by omega, do_out G n m c d i o p hm hn hc h (by omega), dd_out G n m c d i o p hm hn hc h⟩
  · obtain ⟨j, rfl⟩ := Int.eq_ofNat_of_zero_le (show 0 ≤ i by omega)
    have hj : j < n := by omega
    have hs : (m.set j p).length = n := by simpa using hm
    by_cases h0 : rnd d 4 = 0
    · exact ⟨_, _, _, _, _, hm, Nat.le_refl _, do_0 G n m c d o p hm hn hc j hj h0, dd_0 G n m c d o p hm hn hc j hj h0⟩
    by_cases h1 : rnd d 4 = 1
    · exact ⟨_, _, _, _, _, hs, Nat.le_refl _, do_1 G n m c d o p hm hn hc j hj h1, dd_1 G n m c d o p hm hn hc j hj h1⟩
    by_cases h3 : rnd d 4 = 3
    · exact ⟨_, _, _, _, _, hs, Nat.le_refl _, do_3 G n m c d o p hm hn hc j hj h3, dd_3 G n m c d o p hm hn hc j hj h3⟩
    have h2 : rnd d 4 = 2 := by omega
    by_cases he : m[j] = o
    · exact ⟨_, _, _, _, _, hs, Nat.le_refl _, do_t G n m c d o p hm hn hc j hj h2 he, dd_t G n m c d o p hm hn hc j hj h2 he⟩
    · exact ⟨_, _, _, _, _, hm, Nat.le_refl _, do_f G n m c d o p hm hn hc j hj h2 he, dd_f G n m c d o p hm hn hc j hj h2 he⟩
theorem grow {J J2 : Hp} {x : OB} {K : Hp} (h : J2 = J ++ [x] ++ K) : J2[J.length]? = some x ∧ J.length < J2.length := by
  subst h
  constructor
  · simp
  · simp
abbrev Act8 := Int × Int × W3 × W3
def aA (a : Act8) : AV := aV a.1 a.2.1 a.2.2.1 a.2.2.2
theorem act_at {l : List Act8} {k : Nat} (h : k < l.length) : (l.map aA)[k]? = some (aV l[k].1 l[k].2.1 l[k].2.2.1 l[k].2.2.2) := by simp [h, aA]
theorem bV_rem8 {P : Program} {t : TypeId} {xo yo : Operand} {a b : Int} (h : b ≠ 0) : binV P .rem t xo yo (.int .u8 a) (.int .u8 b) = some (.int .u8 (a.tmod b)) := by
  show pureRun P (do eqGuard .rem t xo yo (.int .u8 a) (.int .u8 b); Op.intDiv .rem .u8 a b) = _
  unfold Op.intDiv
  rw [if_neg h]; rfl
theorem cV8 {n : Int} : pureRun Try.prog (convert 5 3 (.int .u8 n)) = some (.int .i64 (IntKind.i64.wrap n)) := cV_int (e := .int .u8) (by kernel_rfl) (by kernel_rfl)
/-- The numbers that are looked at: from -1 on. -/
def kq : Nat → Int
  | 0 => -1
  | q + 1 => q
/-- Behind both calls. -/
def Both (b0 : Nat) (l : List Act8) (n : Nat) (k : Nat) (x : W3) (b : Bool) (e : Int) (m : List W3) (c : Nat) (s : St) : Prop :=
  ∃ (y10 y17 : AV) (g : List AV) (J : Hp) (p11 p14 : Nat), g.length = 103 ∧ J[p11]? = some ⟨33, 3, [wA x], 0, 0⟩ ∧ J[p14]? = some ⟨33, 3, [wA x], 0, 0⟩ ∧ p11 < J.length ∧ p14 < J.length ∧
    s = ⟨[.v (.int .u8 b0), .sl 8 (l.map aA), undefA, undefA, Bo false, I n, .oa 1 0 0 0, I 0, .oa 3 0 0 0, I k, y10, .oa (p11 + 1 + 1 + 1 + 1) 0 0 0, Bo b, I e, .oa (p14 + 1 + 1 + 1 + 1) 0 0 0, Bo b, I e, y17] ++ g, cR m :: cS n c :: cR m :: dS n c :: J⟩
end Go.Proofs.Ytniackbkhfhpaaa.Sim
