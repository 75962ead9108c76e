/- Every operation that is served does what it does on plain values: all together. -/
import Derived.Test.YtgcnbbjapapnjaaDoorSimG
namespace Go.Proofs.YtgcnbbjapapnjaaDoor.Sim
open Go.RowKit
set_option linter.unusedVariables false
set_option linter.unusedSimpArgs false
section
variable {P : Program} {B : Bd} {w0 w : World} {F0 F : Fz} {O : Ow} {H : Hp}
theorem map_pair {α : Type} {o : Option α} {H H' : Hp} {r : α} (h : o.map (·, H) = some (r, H')) : o = some r ∧ H' = H := by
  cases o with
  | none => cases h
  | some a => cases h; exact ⟨rfl, rfl⟩
theorem idx_part {len : Nat} {ix : Int} {t e : TypeId} {ei : TypeInfo} (ht : P.underlying t = some (.array len e)) (he : P.info? e = some ei) {cs : Array Value} {kk : IntKind} (h0 : 0 ≤ ix) (h1 : ix.toNat < len) {y : Value} (hp : (part e cs (ix.toNat * ei.size)).run P w = .ok y w) :
    (Instr.index t (.agg cs) (.int kk ix)).run P w = .ok y w := by
  have hc : 0 ≤ ix ∧ ix < (len : Int) := ⟨h0, by omega⟩
  simp only [Instr.index, asIntOf, Sem.run_bind, Sem.run_pure, Result.andThen_ok, run_underlying ht]
  simp only [hc, and_self, if_true, Sem.run_bind, run_size he, Result.andThen_ok]
  exact hp
theorem iad_run {t e : TypeId} {ei : TypeInfo} (ht : P.underlying t = some (.slice e)) (he : P.info? e = some ei) {kk : IntKind} {ix : Int} {ad : Addr} {n c : Nat} (h0 : 0 ≤ ix) (h1 : ix < n) : (Instr.indexAt t (.slice (some ad) n c) (.int kk ix)).run P w = .ok (.pointer (some (ad.add (ix.toNat * ei.size)))) w := by
  simp only [Instr.indexAt, asIntOf, Sem.run_bind, Sem.run_pure, Result.andThen_ok, run_underlying ht, h0, h1, and_self, if_true, run_size he]
theorem iaa_run {t e : TypeId} {ei : TypeInfo} {len : Nat} (ht : P.underlying t = some (.array len e)) (he : P.info? e = some ei) {kk : IntKind} {ix : Int} {ad : Addr} (h0 : 0 ≤ ix) (h1 : ix.toNat < len) : (Instr.indexAt t (.pointer (some ad)) (.int kk ix)).run P w = .ok (.pointer (some (ad.add (ix.toNat * ei.size)))) w := by
  have h1' : ix < (len : Int) := by omega
  simp only [Instr.indexAt, asIntOf, Sem.run_bind, Sem.run_pure, Result.andThen_ok, run_underlying ht, Instr.sureAddr, h0, h1', and_self, if_true, run_size he]
theorem wrap_id {l : Int} (h0 : 0 ≤ l) (h1 : l ≤ 9223372036854775807) : IntKind.i64.wrap l = l := by
  exact IntWalk.i64_in l (by omega)
theorem zrow {z : Array Value} {k n : Nat} (hz : z.size = k) (h0 : n * k ≠ 0) (x : Nat) (hx : x < n * k) : ((Array.range (n * k)).map (fun j => z[j % z.size]!))[x]? = z[x % k]? := by
  have hk : 0 < k := Nat.pos_of_ne_zero fun e => h0 (by rw [e]; rfl)
  have hm : x % k < z.size := by rw [hz]; exact Nat.mod_lt _ hk
  simp only [Array.getElem?_map, Array.getElem?_range, hx, if_true, Option.map_some, hz]
  rw [Array.getElem?_eq_getElem hm]
  simp [hm]
theorem mks_go {t e : TypeId} {i : TypeInfo} {z : Value} (ht : P.underlying t = some (.slice e)) (hi : P.info? e = some i) (hz : i.zero = some z) (hs : z.cells.size = i.size) {kl kc : IntKind} {l c : Int} (h0 : 0 ≤ l) (h1 : l ≤ c) (hb : c.toNat * i.bytes ≤ 140737488355328) (hm : c.toNat ≤ maxLen) :
    ∃ cs : Array Value, (Instr.makeSlice t (.int kl l) (.int kc c)).run P w = .ok (.slice (some ⟨w.heap.size, 0, none⟩) l.toNat c.toNat) (w.alloc (.cells cs e)) ∧ cs.size = c.toNat * i.size ∧ ∀ x, x < c.toNat * i.size → cs[x]? = z.cells[x % i.size]? := by
  have hc : c ≤ 9223372036854775807 := by simp only [maxLen] at hm; omega
  have wl := wrap_id h0 (by omega : l ≤ 9223372036854775807)
  have wc := wrap_id (by omega : 0 ≤ c) hc
  have hbi : ¬ ((i.bytes : Int) * c > 2 ^ 48) := by
    have e1 : (i.bytes : Int) * c = ((c.toNat * i.bytes : Nat) : Int) := by
      rw [Int.natCast_mul, Int.toNat_of_nonneg (by omega), Int.mul_comm]
    rw [e1]
    have : (2 : Int) ^ 48 = 281474976710656 := by decide
    omega
  have hno : ((decide (c < 0) || decide ((i.bytes : Int) * c > 2 ^ 48)) || decide (l < 0) || decide (l > c)) = false := by
    simp only [Bool.or_eq_false_iff, decide_eq_false_iff_not]
    exact ⟨⟨⟨by omega, hbi⟩, by omega⟩, by omega⟩
  have hroom : ¬ (c.toNat * i.bytes > roomBytes) := by simp only [roomBytes]; omega
  by_cases hn : c.toNat * i.size = 0
  · refine ⟨Array.map (fun x => (#[] : Array Value)[x % (#[] : Array Value).size]!) (Array.range 0), ?_, by simpa using hn.symm, fun x hx => by omega⟩
    simp only [Instr.makeSlice, Sem.run_bind, run_underlying ht, Result.andThen_ok, asInt, asIntOf, Sem.run_pure, run_info hi, wl, wc, hno, Bool.false_eq_true, if_false, askRoom, hroom, run_size hi, hn, if_true, newRow, newObj]
    rfl
  · refine ⟨(Array.range (c.toNat * i.size)).map (fun j => z.cells[j % z.cells.size]!), ?_, by simp, zrow hs hn⟩
    simp only [Instr.makeSlice, Sem.run_bind, run_underlying ht, Result.andThen_ok, asInt, asIntOf, Sem.run_pure, run_info hi, wl, wc, hno, Bool.false_eq_true, if_false, askRoom, hroom, run_size hi, hn, run_zero hi hz, newRow, newObj]
    rfl
theorem bsl_go {t e : TypeId} {i : TypeInfo} {z : Value} (ht : P.underlying t = some (.slice e)) (hi : P.info? e = some i) (hz : i.zero = some z) {vs : List Value} (hk : ∀ v ∈ vs, v.cells.size = i.size) (hm : vs.length * i.size ≤ 16777216) {ps : Array (Nat × Value)} (hps : ps.toList = (vs.zipIdx 0).map fun p => (p.2, p.1)) :
    ∃ cs : Array Value, (Instr.buildSlice t vs.length ps).run P w = .ok (.slice (some ⟨w.heap.size, 0, none⟩) vs.length vs.length) (w.alloc (.cells cs e)) ∧ cs.size = vs.length * i.size ∧ ∀ (j : Nat) (v : Value), vs[j]? = some v → ∀ x, x < i.size → cs[j * i.size + x]? = v.cells[x]? := by
  have hbig : ¬ (vs.length * i.size > 2 ^ 24) := by
    have : (2 : Nat) ^ 24 = 16777216 := by decide
    omega
  by_cases hn : vs.length * i.size = 0
  · obtain ⟨out, o1, o2, _, o4⟩ := fill_row (k := i.size) vs 0 ((Array.range (vs.length * i.size)).map (fun j => (#[] : Array Value)[j % (#[] : Array Value).size]!)) hk (by simp)
    refine ⟨out, ?_, by rw [o2]; simp, fun j v hv x hx => by have := o4 j v hv x hx; rwa [Nat.zero_add] at this⟩
    rw [← hps, hn] at o1
    simp only [Instr.buildSlice, Sem.run_bind, run_underlying ht, Result.andThen_ok, run_size hi, hn, show ¬ (0 > 2 ^ 24) from by decide, if_false, if_true, Sem.run_pure, pure_bind, o1]
    rfl
  · obtain ⟨out, o1, o2, _, o4⟩ := fill_row (k := i.size) vs 0 ((Array.range (vs.length * i.size)).map (fun j => z.cells[j % z.cells.size]!)) hk (by simp)
    refine ⟨out, ?_, by rw [o2]; simp, fun j v hv x hx => by have := o4 j v hv x hx; rwa [Nat.zero_add] at this⟩
    rw [← hps] at o1
    simp only [Instr.buildSlice, Sem.run_bind, run_underlying ht, Result.andThen_ok, run_size hi, hbig, if_false, hn, run_zero hi hz, Sem.run_pure, o1]
    rfl
theorem opt_int {x : Option Operand} {a : Option AX} {ρ : Operand → Value} {ev : AX → AV} (h : (x = none ∧ a = none) ∨ ∃ x' a', x = some x' ∧ a = some a' ∧ VR F O (ρ x') (ev a')) (hn : (a.map ev).map intA ≠ some none) :
    (x.map ρ = none ∧ ((a.map ev).map intA).bind id = none) ∨ ∃ k i, x.map ρ = some (.int k i) ∧ ((a.map ev).map intA).bind id = some i := by
  rcases h with ⟨rfl, rfl⟩ | ⟨x', a', rfl, rfl, hv⟩
  · exact .inl ⟨rfl, rfl⟩
  · cases hi : intA (ev a') with
    | none => simp [hi] at hn
    | some n =>
      obtain ⟨k, hk⟩ := int_ok hv hi
      exact .inr ⟨k, n, by simp [hk], by simp [hi]⟩
theorem opt_conc {x : Option Operand} {a : Option AX} {ρ : Operand → Value} {ev : AX → AV} (h : (x = none ∧ a = none) ∨ ∃ x' a', x = some x' ∧ a = some a' ∧ VR F O (ρ x') (ev a')) (hn : (a.map ev).map conc ≠ some none) :
    x.map ρ = ((a.map ev).map conc).bind id := by
  rcases h with ⟨rfl, rfl⟩ | ⟨x', a', rfl, rfl, hv⟩
  · rfl
  · cases hi : conc (ev a') with
    | none => simp [hi] at hn
    | some y => simp [hi, conc_ok hv hi]
end
end Go.Proofs.YtgcnbbjapapnjaaDoor.Sim
