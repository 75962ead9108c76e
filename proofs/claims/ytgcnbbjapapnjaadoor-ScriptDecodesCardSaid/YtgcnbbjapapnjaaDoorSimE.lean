/- Append, make, literals, slices of slices. -/
import Derived.Test.YtgcnbbjapapnjaaDoorSimD
import Derived.Lib.AppendZeros
import Derived.Deep.AppendSrc
import Derived.Lib.Builder
import Derived.Lib.UnsafeStr
import Derived.Laws.BytesString
namespace Go.Proofs.YtgcnbbjapapnjaaDoor.Sim
open Go.RowKit
set_option linter.unusedVariables false
set_option linter.unusedSimpArgs false
section
variable {P : Program} {B : Bd} {w0 w : World} {F0 F : Fz} {O : Ow} {H : Hp}
theorem src_ok (h : Own B w0 F0 F O H w) {x : Value} {a : AV} (hx : VR F O x a) {k : Nat} {news : List AV} {H2 : Hp} (hs : srcA H k a = some (news, H2)) :
    ∃ A c, x = .slice A news.length c ∧ (∀ e ∈ news, e.cells.length = k) ∧ (∀ e ∈ news, ∀ u ∈ e.cells, AV.one u = true) ∧
      (news ≠ [] → ∃ b o, A = some ⟨b, o, none⟩ ∧ ∀ (i j : Nat) (e a : AV), news[i]? = some e → e.cells[j]? = some a → ∃ c, w.cell? ⟨b, o + i * k + j, none⟩ = some c ∧ VR F O c a) := by
  cases a with
  | nl k' =>
    cases hs
    cases hx with
    | p h => cases h
    | nl => exact ⟨none, 0, rfl, fun e he => (by cases he), fun e he => (by cases he), fun hn => absurd rfl hn⟩
  | em b k' =>
    cases hs
    cases hx with
    | p h => cases h
    | em A c => exact ⟨A, c, rfl, fun e he => (by cases he), fun e he => (by cases he), fun hn => absurd rfl hn⟩
  | sl k' es =>
    simp only [srcA] at hs
    split at hs
    · rename_i hk
      subst hk
      cases hs
      have hp := hx.pvC rfl
      cases hp with
      | sl A n cap _ _ hn hc hm hk h1 b o hA f hf hr =>
        subst hn
        refine ⟨A, cap, rfl, hk, h1, fun hne => ⟨b, o, hA (List.length_pos_iff.2 hne), fun i j e a he ha => ?_⟩⟩
        have hil := (List.getElem?_eq_some_iff.1 he).1
        have hjl := (List.getElem?_eq_some_iff.1 ha).1
        rw [hk e (List.mem_of_getElem? he)] at hjl
        exact ⟨f i j, h.fr _ _ _ (hf i j hil hjl), .p (hr i j e a he ha)⟩
    · cases hs
  | ol i g n =>
    simp only [srcA] at hs
    split at hs
    · rename_i ob hl
      split at hs
      · rename_i hc
        obtain ⟨rfl, hn⟩ := hc
        cases hs
        obtain ⟨d, hd, hio, r, hnC, rfl⟩ := h.ol hx hl
        refine ⟨_, d.C, ?_, fun e he => r.hn e (List.mem_of_mem_take he), fun e he => r.h1 e (List.mem_of_mem_take he), fun _ => ⟨d.b, 0, rfl, fun i j e a he ha => ?_⟩⟩
        · rw [List.length_take, Nat.min_eq_left hn]
        · have he' : ob.es[i]? = some e := by
            rw [List.getElem?_take] at he
            split at he
            · exact he
            · cases he
          exact r.cell (live_ne hl) i j e a he' ha
      · cases hs
    · cases hs
  | _ => cases hs
/-- A row's cells, laid out. -/
theorem laid_cells {news : List AV} {k : Nat} (hk : ∀ e ∈ news, e.cells.length = k) (h1 : ∀ e ∈ news, ∀ u ∈ e.cells, AV.one u = true) {b o : Nat}
    (hc : ∀ (i j : Nat) (e a : AV), news[i]? = some e → e.cells[j]? = some a → ∃ c, w.cell? ⟨b, o + i * k + j, none⟩ = some c ∧ VR F O c a) (h0 : 0 < k) :
    ∃ ns : List Value, ns.length = news.length * k ∧ (∀ (j : Nat) (u : Value), ns[j]? = some u → w.cell? ((⟨b, o, none⟩ : Addr).add j) = some u) ∧ (∀ u ∈ ns, u.oneCell' = true) ∧
      ∀ (i j : Nat) (e a : AV), news[i]? = some e → e.cells[j]? = some a → ∃ c, ns[i * k + j]? = some c ∧ VR F O c a := by
  have key : ∀ j, j < news.length * k → ∃ c a, w.cell? ⟨b, o + j, none⟩ = some c ∧ VR F O c a ∧ a.one = true := fun j hj => by
    have hi : j / k < news.length := (Nat.div_lt_iff_lt_mul h0).2 hj
    have hm : j % k < (news[j / k]).cells.length := by rw [hk _ (List.getElem_mem hi)]; exact Nat.mod_lt _ h0
    obtain ⟨c, g1, g2⟩ := hc (j / k) (j % k) _ _ (List.getElem?_eq_getElem hi) (List.getElem?_eq_getElem hm)
    refine ⟨c, _, ?_, g2, h1 _ (List.getElem_mem hi) _ (List.getElem_mem hm)⟩
    rw [← g1]
    congr 2
    have := Nat.div_add_mod j k
    rw [Nat.mul_comm] at this
    omega
  refine ⟨(List.range (news.length * k)).map fun j => (w.cell? ⟨b, o + j, none⟩).getD undef, by simp, fun j u hu => ?_, fun u hu => ?_, fun i j e a he ha => ?_⟩
  · rw [List.getElem?_map] at hu
    obtain ⟨j', hj', rfl⟩ := Option.map_eq_some_iff.1 hu
    have hjl := (List.getElem?_eq_some_iff.1 hj').1
    rw [List.getElem?_range (by simpa using hjl)] at hj'
    cases hj'
    obtain ⟨c, a, g1, _⟩ := key j (by simpa using hjl)
    rw [addr_add, g1]; rfl
  · obtain ⟨j, hj, rfl⟩ := List.mem_map.1 hu
    obtain ⟨c, a, g1, g2, g3⟩ := key j (by simpa using hj)
    rw [g1]
    exact g2.oneCell g3
  · obtain ⟨c, g1, g2⟩ := hc i j e a he ha
    have hil := (List.getElem?_eq_some_iff.1 he).1
    have hjl := (List.getElem?_eq_some_iff.1 ha).1
    rw [hk e (List.mem_of_getElem? he)] at hjl
    have hlt : i * k + j < news.length * k := by
      have := Nat.mul_le_mul_right k (show i + 1 ≤ news.length from hil)
      rw [Nat.add_mul, Nat.one_mul] at this
      omega
    refine ⟨c, ?_, g2⟩
    rw [List.getElem?_map, List.getElem?_range hlt]
    simp only [Option.map_some]
    rw [← Nat.add_assoc, g1]
    rfl
theorem app_nothing {t ty e : TypeId} {i : TypeInfo} (ht : P.underlying t = some (.slice e)) (hi : P.info? e = some i) {b : Option Addr} {n c : Nat} (hn : n ≤ c) {A : Option Addr} {c' : Nat} :
    (Builtin.append_ #[t, t] ty #[.slice b n c, .slice A 0 c']).run P w = .ok (.slice b n c) w := by
  cases A <;> cases b <;> simp [Builtin.append_, run_underlying ht, sizeOf, typeInfo, hi, Builtin.lenOf, Builtin.firstCells, hn, storeCells, loadCells, loadCellsFrom]
theorem app_run (h : Own B w0 F0 F O H w) {e : TypeId} (ne : e ≠ mapE) {s x : Value} {sa xa : AV} (hs : VR F O s sa) (hx : VR F O x xa) {t ty : TypeId} {i : TypeInfo} {z : Value} {k bytes : Nat} (ht : P.underlying t = some (.slice e)) (hi : P.info? e = some i)
    (hz : i.zero = some z) (hsz : i.size = k) (hby : i.bytes = bytes) (hzs : z.cells.size = k) (h0 : 0 < k) {r : AV} {H' : Hp} (hr : appA e k bytes H sa xa = some (r, H')) :
    ∃ y w', (Builtin.append_ #[t, t] ty #[s, x]).run P w = .ok y w' ∧ Out B w0 F0 F O r H' y w' := by
  unfold appA at hr
  split at hr
  · rename_i news H2 hsrc
    obtain ⟨A, c, rfl, hk, h1, hcell⟩ := src_ok h hx hsrc
    cases sa with
    | nl k' =>
      have hsv : s = .slice none 0 0 := by
        cases hs with
        | p h => cases h
        | nl => rfl
      subst hsv
      simp only at hr
      split at hr
      · rename_i hnil
        subst hnil
        cases hr
        exact ⟨_, w, app_nothing ht hi (Nat.le_refl _), Out.same h (.nl _)⟩
      · rename_i hne
        split at hr
        · rename_i hb
          cases hr
          obtain ⟨b, o, rfl, hcc⟩ := hcell hne
          obtain ⟨ns, n1, n2, n3, n4⟩ := laid_cells (w := w) hk h1 hcc h0
          have hpos : 0 < news.length := List.length_pos_iff.2 hne
          have hmax := hb.2
          have hrun := run_append_nil (P := P) w t ty e i z ht hi hz ⟨b, o, none⟩ news.length c ns (by rw [n1, hsz]) n2 hpos (by have := hmax; simp only [maxLen] at this; omega) (by rw [hby]; have := hb.1; omega)
          have hge := grownCap_ge w news.length 0 e
          have hcm := grownCap_le_maxLen w news.length 0 e hmax
          refine ⟨_, _, hrun, F, O ++ [⟨w.heap.size, grownCap w news.length 0 e, 0, k⟩], ?_, h.push (w1 := w.drew) (Below.refl _ w).drew rfl ne hcm hge ?_ hk h1 ?_, Fz.le_refl F, Ow.le_push O _⟩
          · exact .ol _ H.length 0 news.length ⟨w.heap.size, grownCap w news.length 0 e, 0, k⟩ (by rw [← h.len]; simp) (Nat.zero_le _) ⟨_, _, rfl⟩ fun _ => ⟨hge, rfl⟩
          · simp only [Array.size_append, List.size_toArray, size_zeroCells, hzs, n1]
            rw [← Nat.add_mul]
            congr 1
            omega
          · intro n j x a hx ha
            obtain ⟨c', g1, g2⟩ := n4 n j x a hx ha
            exact ⟨c', by rw [Array.getElem?_append_left (by have := (List.getElem?_eq_some_iff.1 g1).1; simpa using this)]; simpa using g1, g2⟩
        · cases hr
    | oc i' g n cc =>
      simp only at hr
      split at hr
      · rename_i ob hl
        split at hr
        · rename_i hcnd
          obtain ⟨rfl, rfl, hfz, hnl, hbt, hml⟩ := hcnd
          obtain ⟨d, hd, hio, r, hnC, rfl, rfl⟩ := h.oc hs hl
          obtain ⟨cur, hcur, hcsz, hcc0⟩ := r.curc (live_ne hl)
          have hg : ob.g = g := (live_ok hl).2
          have hle : n * ob.k ≤ cur.size := by rw [hcsz]; exact Nat.mul_le_mul_right _ hnC
          have tn : ∀ x ∈ ob.es.take n ++ news, x.cells.length = ob.k := fun x hx => by
            rcases List.mem_append.1 hx with hx | hx
            · exact r.hn x (List.mem_of_mem_take hx)
            · exact hk x hx
          have t1 : ∀ x ∈ ob.es.take n ++ news, ∀ a ∈ x.cells, AV.one a = true := fun x hx => by
            rcases List.mem_append.1 hx with hx | hx
            · exact r.h1 x (List.mem_of_mem_take hx)
            · exact h1 x hx
          have tl : (ob.es.take n ++ news).length = n + news.length := by simp; omega
          have tfz : ob.fz ≤ (ob.es.take n ++ news).length := by rw [tl]; omega
          -- what a row of old and new cells says
          have says : ∀ (ns rest : List Value) (cells : Array Value), cells.toList = cur.toList.take (n * ob.k) ++ ns ++ rest → ns.length = news.length * ob.k → (∀ (i j : Nat) (e a : AV), news[i]? = some e → e.cells[j]? = some a → ∃ c, ns[i * ob.k + j]? = some c ∧ VR F O c a) →
              ∀ (m j : Nat) (x a : AV), (ob.es.take n ++ news)[m]? = some x → x.cells[j]? = some a → ∃ c, cells[m * ob.k + j]? = some c ∧ VR F O c a := fun ns rest cells hcells hnl' hns m j x a hx ha => by
            have e0 : cells[m * ob.k + j]? = (cur.toList.take (n * ob.k) ++ ns ++ rest)[m * ob.k + j]? := by rw [← hcells]; simp
            have tkl : (ob.es.take n).length = n := by simp; omega
            have hjk : j < ob.k := by rw [← tn x (List.mem_of_getElem? hx)]; exact (List.getElem?_eq_some_iff.1 ha).1
            have tcl : (cur.toList.take (n * ob.k)).length = n * ob.k := by simp; omega
            rw [e0, List.append_assoc]
            by_cases hm : m < n
            · rw [List.getElem?_append_left (by omega)] at hx
              rw [List.getElem?_take, if_pos hm] at hx
              obtain ⟨c', g1, g2⟩ := hcc0 m j x a hx ha
              have hlt : m * ob.k + j < n * ob.k := by
                have := Nat.mul_le_mul_right ob.k (show m + 1 ≤ n from hm)
                rw [Nat.add_mul, Nat.one_mul] at this
                omega
              refine ⟨c', ?_, g2⟩
              rw [List.getElem?_append_left (by omega), List.getElem?_take, if_pos hlt]
              simpa using g1
            · rw [List.getElem?_append_right (by omega), tkl] at hx
              obtain ⟨c', g1, g2⟩ := hns (m - n) j x a hx ha
              refine ⟨c', ?_, g2⟩
              have hmk : m * ob.k = n * ob.k + (m - n) * ob.k := by rw [← Nat.add_mul]; congr 1; omega
              rw [List.getElem?_append_right (by omega), tcl, show m * ob.k + j - n * ob.k = (m - n) * ob.k + j from by omega]
              rw [List.getElem?_append_left (by have := (List.getElem?_eq_some_iff.1 g1).1; exact this)]
              exact g1
          by_cases hroom : n + news.length ≤ d.C
          · rw [if_pos hroom] at hr
            cases hr
            obtain ⟨cells, hcl, hrun, hsize, hq⟩ : ∃ cells : Array Value, (∃ ns rest, cells.toList = cur.toList.take (n * ob.k) ++ ns ++ rest ∧ ns.length = news.length * ob.k ∧ (∀ (i j : Nat) (e a : AV), news[i]? = some e → e.cells[j]? = some a → ∃ c, ns[i * ob.k + j]? = some c ∧ VR F O c a)) ∧
                (Builtin.append_ #[t, t] ty #[.slice (some ⟨d.b, 0, none⟩) n d.C, .slice A news.length c]).run P w = .ok (.slice (some ⟨d.b, 0, none⟩) (n + news.length) d.C) (w.setRow d.b cells) ∧ cells.size = d.C * ob.k ∧ True := by
              by_cases hne : news = []
              · subst hne
                refine ⟨cur, ⟨[], cur.toList.drop (n * ob.k), by simp, by simp, fun i j e a he => by simp at he⟩, ?_, hcsz, trivial⟩
                rw [setRow_self w d.b cur ob.e (0, 0) hcur]
                exact app_nothing ht hi hnC
              · obtain ⟨b, o, rfl, hcc⟩ := hcell hne
                obtain ⟨ns, n1, n2, n3, n4⟩ := laid_cells (w := w) hk h1 hcc h0
                have hfit : n * i.size + ns.length ≤ cur.size := by rw [n1, hsz, hcsz, ← Nat.add_mul]; exact Nat.mul_le_mul_right _ hroom
                have hrun := run_append_room (P := P) w t ty ob.e i ht hi d.b n d.C cur hcur ⟨b, o, none⟩ news.length c ns (by rw [n1, hsz]) n2 n3 hroom hfit
                rw [hsz] at hrun hfit
                refine ⟨_, ⟨ns, cur.toList.drop (n * ob.k + ns.length), rfl, n1, n4⟩, hrun, ?_, trivial⟩
                simp only [List.size_toArray, List.length_append, List.length_take, List.length_drop, Array.length_toList]
                omega
            obtain ⟨ns, rest, hcl1, hcl2, hcl3⟩ := hcl
            obtain ⟨q1, q2⟩ := h.write (i := i') (ob := ob) (d := d) hio (live_ne hl) hd (new := cells) (g' := g) (es' := ob.es.take n ++ news) (by omega) (by rw [tl]; exact hroom) hsize tn t1 tfz (says ns rest cells hcl1 hcl2 hcl3) (fun o u hu => by
              have ho := r.hf o u hu
              have hfn := Nat.mul_le_mul_right ob.k hfz
              have hw := h.fr _ _ _ hu
              simp only [World.cell?, hcur] at hw
              have e0 : cells[o]? = (cur.toList.take (n * ob.k) ++ ns ++ rest)[o]? := by rw [← hcl1]; simp
              rw [e0, List.append_assoc, List.getElem?_append_left (by simp; omega), List.getElem?_take, if_pos (by omega)]
              simpa using hw)
            refine ⟨_, _, hrun, F, _, ?_, q1, Fz.le_refl F, q2⟩
            exact .ol _ i' g (n + news.length) ⟨d.b, d.C, g, d.k⟩ (List.getElem?_set_self (List.getElem?_eq_some_iff.1 hd).1) (Nat.le_refl _) ⟨_, _, rfl⟩ fun _ => ⟨hroom, rfl⟩
          · rw [if_neg hroom] at hr
            cases hr
            have hne : news ≠ [] := fun e => by subst e; simp at hroom; omega
            obtain ⟨b, o, rfl, hcc⟩ := hcell hne
            obtain ⟨ns, n1, n2, n3, n4⟩ := laid_cells (w := w) hk h1 hcc h0
            have hrun := run_append_grow (P := P) w t ty ob.e i z ht hi hz ⟨d.b, 0, none⟩ n d.C (cur.toList.take (n * ob.k)) (by rw [hsz]; simp; omega) (fun j v hv => by
                rw [List.getElem?_take] at hv
                split at hv
                · rw [addr_add]
                  simp only [World.cell?, hcur]
                  simpa using hv
                · cases hv) ⟨b, o, none⟩ news.length c ns (by rw [n1, hsz]) n2 (by omega) (by have := hml; simp only [maxLen] at this; omega) (by rw [hby]; exact growslice_fits (by omega) hbt)
            have hge := grownCap_ge w (n + news.length) d.C ob.e
            have hcm := grownCap_le_maxLen w (n + news.length) d.C ob.e hml
            refine ⟨_, _, hrun, F, O ++ [⟨w.heap.size, grownCap w (n + news.length) d.C ob.e, 0, ob.k⟩], ?_, h.push (w1 := w.drew) (Below.refl _ w).drew rfl ne (C := grownCap w (n + news.length) d.C ob.e) (es := ob.es.take n ++ news) (cs := (cur.toList.take (n * ob.k)).toArray ++ ns.toArray ++ Builtin.zeroCells z.cells (grownCap w (n + news.length) d.C ob.e - (n + news.length)))
              hcm (by rw [tl]; exact hge) (by
                simp only [Array.size_append, List.size_toArray, size_zeroCells, hzs, n1, List.length_take, Array.length_toList]
                rw [Nat.min_eq_left hle, ← Nat.add_mul, ← Nat.add_mul]
                congr 1
                omega) tn t1 (says ns (Builtin.zeroCells z.cells (grownCap w (n + news.length) d.C ob.e - (n + news.length))).toList _ (by simp) n1 n4), Fz.le_refl F, Ow.le_push O _⟩
            exact .ol _ H.length 0 (n + news.length) ⟨w.heap.size, grownCap w (n + news.length) d.C ob.e, 0, ob.k⟩ (by rw [← h.len]; simp) (Nat.le_refl _) ⟨_, _, rfl⟩ fun _ => ⟨hge, rfl⟩
        · cases hr
      · cases hr
    | ol i' g n =>
      simp only at hr
      split at hr
      · rename_i ob hl
        split at hr
        · rename_i hcnd
          obtain ⟨rfl, rfl, hfz, hnl, hbt, hml⟩ := hcnd
          cases hr
          obtain ⟨d, hd, hio, r, hnC, rfl⟩ := h.ol hs hl
          obtain ⟨cur, hcur, hcsz, hcc0⟩ := r.curc (live_ne hl)
          have hg : ob.g = g := (live_ok hl).2
          have hle : n * ob.k ≤ cur.size := by rw [hcsz]; exact Nat.mul_le_mul_right _ hnC
          have tn : ∀ x ∈ ob.es.take n ++ news, x.cells.length = ob.k := fun x hx => by
            rcases List.mem_append.1 hx with hx | hx
            · exact r.hn x (List.mem_of_mem_take hx)
            · exact hk x hx
          have t1 : ∀ x ∈ ob.es.take n ++ news, ∀ a ∈ x.cells, AV.one a = true := fun x hx => by
            rcases List.mem_append.1 hx with hx | hx
            · exact r.h1 x (List.mem_of_mem_take hx)
            · exact h1 x hx
          have tl : (ob.es.take n ++ news).length = n + news.length := by simp; omega
          have tfz : ob.fz ≤ (ob.es.take n ++ news).length := by rw [tl]; omega
          -- what a row of old and new cells says
          have says : ∀ (ns rest : List Value) (cells : Array Value), cells.toList = cur.toList.take (n * ob.k) ++ ns ++ rest → ns.length = news.length * ob.k → (∀ (i j : Nat) (e a : AV), news[i]? = some e → e.cells[j]? = some a → ∃ c, ns[i * ob.k + j]? = some c ∧ VR F O c a) →
              ∀ (m j : Nat) (x a : AV), (ob.es.take n ++ news)[m]? = some x → x.cells[j]? = some a → ∃ c, cells[m * ob.k + j]? = some c ∧ VR F O c a := fun ns rest cells hcells hnl' hns m j x a hx ha => by
            have e0 : cells[m * ob.k + j]? = (cur.toList.take (n * ob.k) ++ ns ++ rest)[m * ob.k + j]? := by rw [← hcells]; simp
            have tkl : (ob.es.take n).length = n := by simp; omega
            have hjk : j < ob.k := by rw [← tn x (List.mem_of_getElem? hx)]; exact (List.getElem?_eq_some_iff.1 ha).1
            have tcl : (cur.toList.take (n * ob.k)).length = n * ob.k := by simp; omega
            rw [e0, List.append_assoc]
            by_cases hm : m < n
            · rw [List.getElem?_append_left (by omega)] at hx
              rw [List.getElem?_take, if_pos hm] at hx
              obtain ⟨c', g1, g2⟩ := hcc0 m j x a hx ha
              have hlt : m * ob.k + j < n * ob.k := by
                have := Nat.mul_le_mul_right ob.k (show m + 1 ≤ n from hm)
                rw [Nat.add_mul, Nat.one_mul] at this
                omega
              refine ⟨c', ?_, g2⟩
              rw [List.getElem?_append_left (by omega), List.getElem?_take, if_pos hlt]
              simpa using g1
            · rw [List.getElem?_append_right (by omega), tkl] at hx
              obtain ⟨c', g1, g2⟩ := hns (m - n) j x a hx ha
              refine ⟨c', ?_, g2⟩
              have hmk : m * ob.k = n * ob.k + (m - n) * ob.k := by rw [← Nat.add_mul]; congr 1; omega
              rw [List.getElem?_append_right (by omega), tcl, show m * ob.k + j - n * ob.k = (m - n) * ob.k + j from by omega]
              rw [List.getElem?_append_left (by have := (List.getElem?_eq_some_iff.1 g1).1; exact this)]
              exact g1
          by_cases hroom : n + news.length ≤ d.C
          · obtain ⟨cells, hcl, hrun, hsize, hq⟩ : ∃ cells : Array Value, (∃ ns rest, cells.toList = cur.toList.take (n * ob.k) ++ ns ++ rest ∧ ns.length = news.length * ob.k ∧ (∀ (i j : Nat) (e a : AV), news[i]? = some e → e.cells[j]? = some a → ∃ c, ns[i * ob.k + j]? = some c ∧ VR F O c a)) ∧
                (Builtin.append_ #[t, t] ty #[.slice (some ⟨d.b, 0, none⟩) n d.C, .slice A news.length c]).run P w = .ok (.slice (some ⟨d.b, 0, none⟩) (n + news.length) d.C) (w.setRow d.b cells) ∧ cells.size = d.C * ob.k ∧ True := by
              by_cases hne : news = []
              · subst hne
                refine ⟨cur, ⟨[], cur.toList.drop (n * ob.k), by simp, by simp, fun i j e a he => by simp at he⟩, ?_, hcsz, trivial⟩
                rw [setRow_self w d.b cur ob.e (0, 0) hcur]
                exact app_nothing ht hi hnC
              · obtain ⟨b, o, rfl, hcc⟩ := hcell hne
                obtain ⟨ns, n1, n2, n3, n4⟩ := laid_cells (w := w) hk h1 hcc h0
                have hfit : n * i.size + ns.length ≤ cur.size := by rw [n1, hsz, hcsz, ← Nat.add_mul]; exact Nat.mul_le_mul_right _ hroom
                have hrun := run_append_room (P := P) w t ty ob.e i ht hi d.b n d.C cur hcur ⟨b, o, none⟩ news.length c ns (by rw [n1, hsz]) n2 n3 hroom hfit
                rw [hsz] at hrun hfit
                refine ⟨_, ⟨ns, cur.toList.drop (n * ob.k + ns.length), rfl, n1, n4⟩, hrun, ?_, trivial⟩
                simp only [List.size_toArray, List.length_append, List.length_take, List.length_drop, Array.length_toList]
                omega
            obtain ⟨ns, rest, hcl1, hcl2, hcl3⟩ := hcl
            obtain ⟨q1, q2⟩ := h.write (i := i') (ob := ob) (d := d) hio (live_ne hl) hd (new := cells) (g' := g + 1) (es' := ob.es.take n ++ news) (by omega) (by rw [tl]; exact hroom) hsize tn t1 tfz (says ns rest cells hcl1 hcl2 hcl3) (fun o u hu => by
              have ho := r.hf o u hu
              have hfn := Nat.mul_le_mul_right ob.k hfz
              have hw := h.fr _ _ _ hu
              simp only [World.cell?, hcur] at hw
              have e0 : cells[o]? = (cur.toList.take (n * ob.k) ++ ns ++ rest)[o]? := by rw [← hcl1]; simp
              rw [e0, List.append_assoc, List.getElem?_append_left (by simp; omega), List.getElem?_take, if_pos (by omega)]
              simpa using hw)
            refine ⟨_, _, hrun, F, _, ?_, q1, Fz.le_refl F, q2⟩
            exact .ol _ i' (g + 1) (n + news.length) ⟨d.b, d.C, g + 1, d.k⟩ (List.getElem?_set_self (List.getElem?_eq_some_iff.1 hd).1) (Nat.le_refl _) ⟨_, _, rfl⟩ fun _ => ⟨hroom, rfl⟩
          · have hne : news ≠ [] := fun e => by subst e; simp at hroom; omega
            obtain ⟨b, o, rfl, hcc⟩ := hcell hne
            obtain ⟨ns, n1, n2, n3, n4⟩ := laid_cells (w := w) hk h1 hcc h0
            have hrun := run_append_grow (P := P) w t ty ob.e i z ht hi hz ⟨d.b, 0, none⟩ n d.C (cur.toList.take (n * ob.k)) (by rw [hsz]; simp; omega) (fun j v hv => by
                rw [List.getElem?_take] at hv
                split at hv
                · rw [addr_add]
                  simp only [World.cell?, hcur]
                  simpa using hv
                · cases hv) ⟨b, o, none⟩ news.length c ns (by rw [n1, hsz]) n2 (by omega) (by have := hml; simp only [maxLen] at this; omega) (by rw [hby]; exact growslice_fits (by omega) hbt)
            have hge := grownCap_ge w (n + news.length) d.C ob.e
            have hcm := grownCap_le_maxLen w (n + news.length) d.C ob.e hml
            obtain ⟨q1, q2⟩ := h.move (w1 := w.drew) (Below.refl _ w).drew rfl (i := i') (ob := ob) (d := d) hio (live_ne hl) hd (new := (cur.toList.take (n * ob.k)).toArray ++ ns.toArray ++ Builtin.zeroCells z.cells (grownCap w (n + news.length) d.C ob.e - (n + news.length))) (C := grownCap w (n + news.length) d.C ob.e) (es' := ob.es.take n ++ news)
              hcm (by rw [tl]; exact hge) (by
                simp only [Array.size_append, List.size_toArray, size_zeroCells, hzs, n1, List.length_take, Array.length_toList]
                rw [Nat.min_eq_left hle, ← Nat.add_mul, ← Nat.add_mul]
                congr 1
                omega) tn t1 tfz (says ns (Builtin.zeroCells z.cells (grownCap w (n + news.length) d.C ob.e - (n + news.length))).toList _ (by simp) n1 n4)
            rw [hg] at q1 q2
            refine ⟨_, _, hrun, F, _, ?_, q1, Fz.le_refl F, q2⟩
            exact .ol _ i' (g + 1) (n + news.length) ⟨w.heap.size, _, g + 1, ob.k⟩ (List.getElem?_set_self (List.getElem?_eq_some_iff.1 hd).1) (Nat.le_refl _) ⟨_, _, rfl⟩ fun _ => ⟨hge, rfl⟩
        · cases hr
      · cases hr
    | _ => cases hr
  · cases hr
theorem run_copy_o (w : World) (dT ty elem : TypeId) (inf : TypeInfo) (g off dLen dCap : Nat) (a : Addr) (sLen sCap : Nat) (cur : Array Value) (t : TypeId) (cs : List Value)
    (hu : P.underlying dT = some (.slice elem)) (hi : P.info? elem = some inf)
    (hg : w.heap[g]? = some (.cells cur t (0, 0))) (hn : cs.length = Nat.min sLen dLen * inf.size)
    (hsrc : ∀ j v, cs[j]? = some v → w.cell? (a.add j) = some v) (hfit : off + cs.length ≤ cur.size) (h1 : ∀ v ∈ cs, v.oneCell' = true) :
    (Builtin.copy_ #[dT, dT] ty #[.slice (some ⟨g, off, none⟩) dLen dCap, .slice (some a) sLen sCap]).run P w =
      .ok (goInt (Nat.min sLen dLen)) (w.setRow g (cur.toList.take off ++ cs ++ cur.toList.drop (off + cs.length)).toArray) := by
  have hl := run_loadCells_list (P := P) w a cs hsrc
  have hst := run_storeCells_at P g off t cs 0 cur w hg (by simpa using hfit) h1
  simp [Builtin.copy_, run_underlying hu, Builtin.lenOf, Builtin.firstCells, sizeOf, typeInfo, hi, ← hn, hl, hst]
theorem run_copy_k (w : World) (dT ty elem : TypeId) (inf : TypeInfo) (g dLen dCap : Nat) (a : Addr) (sLen sCap : Nat) (cur : Array Value) (t : TypeId) (cs : List Value)
    (hu : P.underlying dT = some (.slice elem)) (hi : P.info? elem = some inf)
    (hg : w.heap[g]? = some (.cells cur t (0, 0))) (hn : cs.length = Nat.min sLen dLen * inf.size)
    (hsrc : ∀ j v, cs[j]? = some v → w.cell? (a.add j) = some v) (hfit : 0 + cs.length ≤ cur.size) (h1 : ∀ v ∈ cs, v.oneCell' = true) :
    (Builtin.copy_ #[dT, dT] ty #[.slice (some ⟨g, 0, none⟩) dLen dCap, .slice (some a) sLen sCap]).run P w =
      .ok (goInt (Nat.min sLen dLen)) (w.setRow g (cur.toList.take 0 ++ cs ++ cur.toList.drop (0 + cs.length)).toArray) := by
  have hl := run_loadCells_list (P := P) w a cs hsrc
  have hst := run_storeCells_at P g 0 t cs 0 cur w hg (by simpa using hfit) h1
  simp [Builtin.copy_, run_underlying hu, Builtin.lenOf, Builtin.firstCells, sizeOf, typeInfo, hi, ← hn, hl, hst]
theorem cpy_run (h : Own B w0 F0 F O H w) {d x : Value} {da xa : AV} (hd : VR F O d da) (hx : VR F O x xa) {t ty e : TypeId} {i : TypeInfo} {k : Nat} (ht : P.underlying t = some (.slice e)) (hi : P.info? e = some i)
    (hsz : i.size = k) (h0 : 0 < k) {r : AV} {H' : Hp} (hr : cpyA k H da xa = some (r, H')) :
    ∃ y w', (Builtin.copy_ #[t, t] ty #[d, x]).run P w = .ok y w' ∧ Out B w0 F0 F O r H' y w' := by
  unfold cpyA at hr
  split at hr
  · rename_i news H2 hsrc
    obtain ⟨A, c, rfl, hk, h1, hcell⟩ := src_ok h hx hsrc
    cases da with
    | ol i' g n =>
      simp only at hr
      split at hr
      · rename_i ob hl
        split at hr
        · rename_i hcnd
          obtain ⟨rfl, hfz, hnl⟩ := hcnd
          cases hr
          obtain ⟨dd, hdd, hio, r, hnC, rfl⟩ := h.ol hd hl
          obtain ⟨cur, hcur, hcsz, hcc0⟩ := r.curc (live_ne hl)
          have hg : ob.g = g := (live_ok hl).2
          obtain ⟨m, hm⟩ : ∃ m, m = min news.length n := ⟨_, rfl⟩
          rw [← hm]
          have hmn : Nat.min news.length n = m := hm.symm
          have tn : ∀ x ∈ news.take m ++ ob.es.drop m, x.cells.length = ob.k := fun x hx => by
            rcases List.mem_append.1 hx with hx | hx
            · exact hk x (List.mem_of_mem_take hx)
            · exact r.hn x (List.mem_of_mem_drop hx)
          have t1 : ∀ x ∈ news.take m ++ ob.es.drop m, ∀ a ∈ x.cells, AV.one a = true := fun x hx => by
            rcases List.mem_append.1 hx with hx | hx
            · exact h1 x (List.mem_of_mem_take hx)
            · exact r.h1 x (List.mem_of_mem_drop hx)
          have tkl : (news.take m).length = m := by simp; omega
          have tl : (news.take m ++ ob.es.drop m).length = ob.es.length := by simp; omega
          have hmC : m * ob.k ≤ cur.size := by rw [hcsz]; exact Nat.mul_le_mul_right _ (by omega)
          obtain ⟨new, hnew1, hnew2, hrun⟩ : ∃ new : Array Value, new.size = cur.size ∧ (∀ (p j : Nat) (x a : AV), (news.take m ++ ob.es.drop m)[p]? = some x → x.cells[j]? = some a → ∃ c, new[p * ob.k + j]? = some c ∧ VR F O c a) ∧
              (Builtin.copy_ #[t, t] ty #[.slice (some ⟨dd.b, 0, none⟩) n dd.C, .slice A news.length c]).run P w = .ok (goInt m) (w.setRow dd.b new) := by
            by_cases hne : news = []
            · subst hne
              have hm0 : m = 0 := by simp at hm; exact hm
              subst hm0
              refine ⟨cur, rfl, fun p j x a hx ha => by simp at hx; exact hcc0 p j x a hx ha, ?_⟩
              rw [setRow_self w dd.b cur ob.e (0, 0) hcur]
              cases A with
              | none => simp [Builtin.copy_, run_underlying ht, Builtin.lenOf, Builtin.firstCells, sizeOf, typeInfo, hi, storeCells]
              | some a =>
                have hl := run_loadCells_list (P := P) w a [] (by simp)
                simp at hl
                simp [Builtin.copy_, run_underlying ht, Builtin.lenOf, Builtin.firstCells, sizeOf, typeInfo, hi, storeCells, hl]
            · obtain ⟨b, o, rfl, hcc⟩ := hcell hne
              obtain ⟨ns, n1, n2, n3, n4⟩ := laid_cells (w := w) (news := news.take m) (k := ob.k) (fun e he => hk e (List.mem_of_mem_take he)) (fun e he => h1 e (List.mem_of_mem_take he)) (b := b) (o := o) (fun i j e a he ha => by
                rw [List.getElem?_take] at he
                split at he
                · exact hcc i j e a he ha
                · cases he) h0
              rw [tkl] at n1
              have hrun := run_copy_k (P := P) w t ty e i dd.b n dd.C ⟨b, o, none⟩ news.length c cur ob.e ns ht hi hcur (by rw [hmn, hsz]; exact n1) n2 (by omega) n3
              rw [hmn] at hrun
              refine ⟨_, ?_, ?_, hrun⟩
              · simp only [List.size_toArray, List.length_append, List.length_take, List.length_drop, Array.length_toList]; omega
              · intro p j x a hx ha
                have hjk : j < ob.k := by rw [← tn x (List.mem_of_getElem? hx)]; exact (List.getElem?_eq_some_iff.1 ha).1
                simp only [List.take_zero, List.nil_append, Nat.zero_add, List.getElem?_toArray]
                by_cases hp : p < m
                · rw [List.getElem?_append_left (by omega)] at hx
                  obtain ⟨c', g1, g2⟩ := n4 p j x a hx ha
                  exact ⟨c', by rw [List.getElem?_append_left (List.getElem?_eq_some_iff.1 g1).1]; exact g1, g2⟩
                · rw [List.getElem?_append_right (by omega), tkl, List.getElem?_drop] at hx
                  obtain ⟨c', g1, g2⟩ := hcc0 p j x a (by rw [← hx]; congr 1; omega) ha
                  have hle : m * ob.k ≤ p * ob.k := Nat.mul_le_mul_right _ (by omega)
                  refine ⟨c', ?_, g2⟩
                  rw [List.getElem?_append_right (by omega), n1, List.getElem?_drop]
                  rw [← Array.getElem?_toList] at g1
                  rw [← g1]; congr 1; omega
          obtain ⟨q1, q2⟩ := h.write (i := i') (ob := ob) (d := dd) hio (live_ne hl) hdd (new := new) (g' := ob.g) (es' := news.take m ++ ob.es.drop m) (Nat.le_refl _) (by rw [tl]; exact r.hl (live_ne hl)) (by rw [hnew1, hcsz]) tn t1 (by omega) hnew2 (fun o u hu => by
            have ho := r.hf o u hu
            rw [hfz] at ho
            omega)
          exact ⟨_, _, hrun, F, _, .p (.v _ rfl), q1, Fz.le_refl F, q2⟩
        · cases hr
      · cases hr
    | os i' g lo n =>
      simp only at hr
      split at hr
      · rename_i ob hl
        split at hr
        · rename_i hcnd
          obtain ⟨rfl, hfz, hln, hnl⟩ := hcnd
          cases hr
          obtain ⟨dd, hdd, hio, r, _, hnC, Ad, rfl, hAd⟩ := h.os hd hl
          obtain ⟨cur, hcur, hcsz, hcc0⟩ := r.curc (live_ne hl)
          have hg : ob.g = g := (live_ok hl).2
          obtain ⟨m, hm⟩ : ∃ m, m = min news.length (n - lo) := ⟨_, rfl⟩
          rw [← hm]
          have hmn : Nat.min news.length (n - lo) = m := hm.symm
          have tn : ∀ x ∈ ob.es.take lo ++ (news.take m ++ ob.es.drop (lo + m)), x.cells.length = ob.k := fun x hx => by
            rcases List.mem_append.1 hx with hx | hx
            · exact r.hn x (List.mem_of_mem_take hx)
            rcases List.mem_append.1 hx with hx | hx
            · exact hk x (List.mem_of_mem_take hx)
            · exact r.hn x (List.mem_of_mem_drop hx)
          have t1 : ∀ x ∈ ob.es.take lo ++ (news.take m ++ ob.es.drop (lo + m)), ∀ a ∈ x.cells, AV.one a = true := fun x hx => by
            rcases List.mem_append.1 hx with hx | hx
            · exact r.h1 x (List.mem_of_mem_take hx)
            rcases List.mem_append.1 hx with hx | hx
            · exact h1 x (List.mem_of_mem_take hx)
            · exact r.h1 x (List.mem_of_mem_drop hx)
          have tkl : (news.take m).length = m := by simp; omega
          have tll : (ob.es.take lo).length = lo := by simp; omega
          have tl : (ob.es.take lo ++ (news.take m ++ ob.es.drop (lo + m))).length = ob.es.length := by simp; omega
          have hmC : (lo + m) * ob.k ≤ cur.size := by rw [hcsz]; exact Nat.mul_le_mul_right _ (by omega)
          have hmC' : lo * ob.k + m * ob.k ≤ cur.size := by rw [← Nat.add_mul]; exact hmC
          obtain ⟨new, hnew1, hnew2, hrun⟩ : ∃ new : Array Value, new.size = cur.size ∧ (∀ (p j : Nat) (x a : AV), (ob.es.take lo ++ (news.take m ++ ob.es.drop (lo + m)))[p]? = some x → x.cells[j]? = some a → ∃ c, new[p * ob.k + j]? = some c ∧ VR F O c a) ∧
              (Builtin.copy_ #[t, t] ty #[.slice Ad (n - lo) (dd.C - lo), .slice A news.length c]).run P w = .ok (goInt m) (w.setRow dd.b new) := by
            by_cases hm0 : m = 0
            · refine ⟨cur, rfl, fun p j x a hx ha => ?_, ?_⟩
              · subst hm0
                simp only [List.take_zero, List.nil_append, Nat.add_zero, List.take_append_drop] at hx
                exact hcc0 p j x a hx ha
              rw [setRow_self w dd.b cur ob.e (0, 0) hcur]
              have hm2 : Nat.min news.length (n - lo) = 0 := by rw [hmn, hm0]
              cases A with
              | none => cases Ad <;> simp [Builtin.copy_, run_underlying ht, Builtin.lenOf, Builtin.firstCells, sizeOf, typeInfo, hi, storeCells, hm2, hm0]
              | some a =>
                have hl := run_loadCells_list (P := P) w a [] (by simp)
                simp at hl
                cases Ad <;> simp [Builtin.copy_, run_underlying ht, Builtin.lenOf, Builtin.firstCells, sizeOf, typeInfo, hi, storeCells, hl, hm2, hm0]
            · have hne : news ≠ [] := fun e => by subst e; simp at hm; omega
              obtain rfl := hAd (by omega)
              obtain ⟨b, o, rfl, hcc⟩ := hcell hne
              obtain ⟨ns, n1, n2, n3, n4⟩ := laid_cells (w := w) (news := news.take m) (k := ob.k) (fun e he => hk e (List.mem_of_mem_take he)) (fun e he => h1 e (List.mem_of_mem_take he)) (b := b) (o := o) (fun i j e a he ha => by
                rw [List.getElem?_take] at he
                split at he
                · exact hcc i j e a he ha
                · cases he) h0
              rw [tkl] at n1
              have hdk : dd.k = ob.k := r.hk
              have hrun := run_copy_o (P := P) w t ty e i dd.b (lo * dd.k) (n - lo) (dd.C - lo) ⟨b, o, none⟩ news.length c cur ob.e ns ht hi hcur (by rw [hmn, hsz]; exact n1) n2 (by rw [n1, hdk]; exact hmC') n3
              rw [hmn] at hrun
              refine ⟨_, ?_, ?_, hrun⟩
              · simp only [List.size_toArray, List.length_append, List.length_take, List.length_drop, Array.length_toList, hdk]; omega
              · intro p j x a hx ha
                have hjk : j < ob.k := by rw [← tn x (List.mem_of_getElem? hx)]; exact (List.getElem?_eq_some_iff.1 ha).1
                simp only [hdk, List.getElem?_toArray]
                have hLl : (cur.toList.take (lo * ob.k)).length = lo * ob.k := by simp only [List.length_take, Array.length_toList]; omega
                rw [List.append_assoc]
                by_cases hp : p < lo
                · rw [List.getElem?_append_left (by omega), List.getElem?_take, if_pos hp] at hx
                  obtain ⟨c', g1, g2⟩ := hcc0 p j x a hx ha
                  have hlt : p * ob.k + j < lo * ob.k := by
                    have := Nat.mul_le_mul_right ob.k (show p + 1 ≤ lo by omega)
                    rw [Nat.add_mul] at this; omega
                  refine ⟨c', ?_, g2⟩
                  rw [List.getElem?_append_left (by omega), List.getElem?_take, if_pos hlt, Array.getElem?_toList]
                  exact g1
                · rw [List.getElem?_append_right (by omega), tll] at hx
                  have hle : lo * ob.k ≤ p * ob.k := Nat.mul_le_mul_right _ (by omega)
                  have hsub : p * ob.k + j - lo * ob.k = (p - lo) * ob.k + j := by rw [Nat.sub_mul]; omega
                  by_cases hp2 : p - lo < m
                  · rw [List.getElem?_append_left (by omega)] at hx
                    obtain ⟨c', g1, g2⟩ := n4 (p - lo) j x a hx ha
                    refine ⟨c', ?_, g2⟩
                    rw [List.getElem?_append_right (by omega), hLl, hsub, List.getElem?_append_left (List.getElem?_eq_some_iff.1 g1).1]
                    exact g1
                  · rw [List.getElem?_append_right (by omega), tkl, List.getElem?_drop] at hx
                    obtain ⟨c', g1, g2⟩ := hcc0 p j x a (by rw [← hx]; congr 1; omega) ha
                    have hle2 : m * ob.k ≤ (p - lo) * ob.k := Nat.mul_le_mul_right _ (by omega)
                    refine ⟨c', ?_, g2⟩
                    rw [List.getElem?_append_right (by omega), hLl, hsub, List.getElem?_append_right (by omega), n1, List.getElem?_drop]
                    rw [← Array.getElem?_toList] at g1
                    rw [← g1]; congr 1
                    rw [Nat.sub_mul] at hle2 ⊢
                    omega
          obtain ⟨q1, q2⟩ := h.write (i := i') (ob := ob) (d := dd) hio (live_ne hl) hdd (new := new) (g' := ob.g) (es' := ob.es.take lo ++ (news.take m ++ ob.es.drop (lo + m))) (Nat.le_refl _) (by rw [tl]; exact r.hl (live_ne hl)) (by rw [hnew1, hcsz]) tn t1 (by omega) hnew2 (fun o u hu => by
            have ho := r.hf o u hu
            rw [hfz] at ho
            omega)
          exact ⟨_, _, hrun, F, _, .p (.v _ rfl), q1, Fz.le_refl F, q2⟩
        · cases hr
      · cases hr
    | sl k' es =>
      cases es with
      | cons => cases hr
      | nil =>
        cases hr
        have hp := hd.pvC rfl
        cases hp with
        | sl A' n cap _ _ hn =>
          simp only [List.length_nil] at hn
          subst hn
          refine ⟨goInt 0, w, ?_, F, O, .p (.v _ rfl), h, Fz.le_refl F, Ow.le_refl O⟩
          have hm : Nat.min news.length 0 = 0 := Nat.min_zero _
          cases A with
          | none => cases A' <;> simp [Builtin.copy_, run_underlying ht, Builtin.lenOf, Builtin.firstCells, sizeOf, typeInfo, hi, storeCells, hm]
          | some a =>
            have hl := run_loadCells_list (P := P) w a [] (by simp)
            simp at hl
            cases A' <;> simp [Builtin.copy_, run_underlying ht, Builtin.lenOf, Builtin.firstCells, sizeOf, typeInfo, hi, storeCells, hl, hm]
    | _ => cases hr
  · cases hr
/-- A new variable. -/
theorem new_run (h : Own B w0 F0 F O H w) {e : TypeId} (ne : e ≠ mapE) {x : Value} {a : AV} (hx : VR F O x a) {k : Nat} (hk : a.cells.length = k) (hf : a.fine = true) :
    Out B w0 F0 F O (.oa H.length 0 0 0) (H ++ [⟨e, k, [a], 0, 0⟩]) (.pointer (some ⟨w.heap.size, 0, none⟩)) (w.alloc (.cells x.cells e)) := by
  obtain ⟨c1, c2, c3⟩ := hx.cells (fine_or hf)
  refine ⟨F, O ++ [⟨w.heap.size, 1, 0, k⟩], ?_, h.push (w1 := w) (C := 1) (es := [a]) (Below.refl _ w) rfl ne (by simp [maxLen]) (Nat.le_refl _) (by rw [c1, hk, Nat.one_mul]) (fun y hy => ?_) (fun y hy => ?_) ?_, Fz.le_refl F, Ow.le_push O _⟩
  · exact .oa _ H.length 0 0 0 ⟨w.heap.size, 1, 0, k⟩ (by rw [← h.len]; simp) (Nat.le_refl _) rfl fun _ => by simp
  · simp at hy; subst hy; exact hk
  · simp at hy; subst hy; exact c2
  · intro n j y u hy hu
    cases n with
    | zero => simp at hy; subst hy; simpa using c3 j u hu
    | succ n => simp at hy
/-- A row of zeros. -/
theorem mks_run (h : Own B w0 F0 F O H w) {e : TypeId} (ne : e ≠ mapE) {z : Value} {za : AV} (hz : VR F O z za) {k l c : Nat} (hk : za.cells.length = k) (hf : za.fine = true) (hlc : l ≤ c) (hcm : c ≤ maxLen) {cs : Array Value} (hs : cs.size = c * k) (hcs : ∀ x, x < c * k → cs[x]? = z.cells[x % k]?) :
    Out B w0 F0 F O (.ol H.length 0 l) (H ++ [⟨e, k, List.replicate l za, 0, 0⟩]) (.slice (some ⟨w.heap.size, 0, none⟩) l c) (w.alloc (.cells cs e)) := by
  obtain ⟨c1, c2, c3⟩ := hz.cells (fine_or hf)
  refine ⟨F, O ++ [⟨w.heap.size, c, 0, k⟩], ?_, h.push (w1 := w) (Below.refl _ w) rfl ne hcm (by simpa using hlc) hs (fun y hy => ?_) (fun y hy => ?_) ?_, Fz.le_refl F, Ow.le_push O _⟩
  · exact .ol _ H.length 0 l ⟨w.heap.size, c, 0, k⟩ (by rw [← h.len]; simp) (Nat.le_refl _) ⟨_, _, rfl⟩ fun _ => ⟨hlc, rfl⟩
  · rw [List.eq_of_mem_replicate hy]; exact hk
  · rw [List.eq_of_mem_replicate hy]; exact c2
  · intro n j y u hy hu
    have hn : n < l := by have := (List.getElem?_eq_some_iff.1 hy).1; simpa using this
    rw [List.getElem?_replicate, if_pos hn] at hy
    cases hy
    have hj : j < k := by rw [← hk]; exact (List.getElem?_eq_some_iff.1 hu).1
    have hlt : n * k + j < c * k := by
      have := Nat.mul_le_mul_right k (show n + 1 ≤ c by omega)
      rw [Nat.add_mul, Nat.one_mul] at this
      omega
    rw [hcs _ hlt, Nat.add_comm, Nat.add_mul_mod_self_right, Nat.mod_eq_of_lt hj]
    exact c3 j u hu
theorem zeroCells_at (zs : Array Value) (n x : Nat) (hx : x < n * zs.size) : (Builtin.zeroCells zs n)[x]? = zs[x % zs.size]? := by
  have hp : 0 < zs.size := by
    rcases Nat.eq_zero_or_pos zs.size with h | h
    · rw [h] at hx; omega
    · exact h
  have hm := Nat.mod_lt x hp
  unfold Builtin.zeroCells
  rw [Array.getElem?_map, Array.getElem?_range, if_pos hx]
  simp [hm]
theorem byteCells_at {b : ByteArray} {j : Nat} {x : AV} (h : (bytesA b)[j]? = some x) : ∃ c, (byteCells b)[j]? = some c ∧ VR F O c x ∧ x.cells = [x] := by
  unfold bytesA at h
  rw [List.getElem?_map] at h
  obtain ⟨u, hu, rfl⟩ := Option.map_eq_some_iff.1 h
  refine ⟨.int .u8 (u.toNat : Int), ?_, .p (.v _ rfl), rfl⟩
  unfold byteCells
  rw [List.getElem?_map, hu]
  rfl
theorem run_append_room_s {P : Program} (w : World) (t tx ty e : TypeId) (i : TypeInfo) (ht : P.underlying t = some (.slice e)) (hx : P.underlying tx = some .string) (hi : P.info? e = some i) (hs1 : i.size = 1) (b n cap : Nat) (cur : Array Value) (hrow : w.heap[b]? = some (.cells cur e (0, 0))) (s : ByteArray) (hroom : n + s.size ≤ cap) (hfit : n + s.size ≤ cur.size) :
    (Builtin.append_ #[t, tx] ty #[.slice (some ⟨b, 0, none⟩) n cap, .string s]).run P w = .ok (.slice (some ⟨b, 0, none⟩) (n + s.size) cap) (w.setRow b (cur.toList.take n ++ byteCells s ++ cur.toList.drop (n + s.size)).toArray) := by
  have src := Src.ofString (P := P) w hx s
  have hst := run_storeCells_at P b n e (byteCells s) 0 cur w hrow (by rw [byteCells_length]; simpa using hfit) src.one
  simp only [Nat.add_zero, byteCells_length] at hst
  have hc := src.cells
  rw [← hs1] at hc
  have hl := src.len
  simp [Builtin.append_, run_underlying ht, run_underlying hx, sizeOf, typeInfo, hi, hl, hroom, hc, Addr.add_lit, hs1]
  rw [hs1] at hc
  simp [hc, hst]
theorem aps_run (h : Own B w0 F0 F O H w) {e : TypeId} (ne : e ≠ mapE) {s x : Value} {sa xa : AV} (hs : VR F O s sa) (hx : VR F O x xa) {t tx ty : TypeId} {i : TypeInfo} {z : Value} {bytes : Nat} (ht : P.underlying t = some (.slice e)) (htx : P.underlying tx = some .string) (hi : P.info? e = some i)
    (hz : i.zero = some z) (hsz : i.size = 1) (hby : i.bytes = bytes) (hzs : z.cells.size = 1) {r : AV} {H' : Hp} (hr : apsA e bytes H sa xa = some (r, H')) :
    ∃ y w', (Builtin.append_ #[t, tx] ty #[s, x]).run P w = .ok y w' ∧ Out B w0 F0 F O r H' y w' := by
  unfold apsA at hr
  split at hr
  · rename_i b
    have hxe : x = .string b := by
      cases hx with
      | p h => cases h; rfl
    subst hxe
    have src := Src.ofString (P := P) w htx b
    have bl := bytesA_len b
    have cl := byteCells_length b
    have bk : ∀ y ∈ bytesA b, y.cells.length = 1 := fun y hy => by
      obtain ⟨u, _, rfl⟩ := List.mem_map.1 hy; rfl
    have b1 : ∀ y ∈ bytesA b, ∀ a ∈ y.cells, AV.one a = true := fun y hy a ha => by
      obtain ⟨u, _, rfl⟩ := List.mem_map.1 hy
      simp [AV.cells] at ha
      subst ha; rfl
    split at hr
    · have hsv : s = .slice none 0 0 := by
        cases hs with
        | p h => cases h
        | nl => rfl
      subst hsv
      split at hr
      · rename_i hb0
        cases hr
        have hl := src.len
        have hc := src.cells
        have hb : byteCells b = [] := List.length_eq_zero_iff.1 (by rw [cl]; exact hb0)
        rw [hb] at hc
        refine ⟨.slice none 0 0, w, ?_, Out.same h (.nl _)⟩
        simp [Builtin.append_, run_underlying ht, run_underlying htx, sizeOf, typeInfo, hi, hl, hb0, hsz]
        rw [hb0] at hc
        simp [hc]
      · rename_i hb0
        split at hr
        · rename_i hb
          cases hr
          have hmax := hb.2
          have hold : (Builtin.firstCells i.size 0 (.slice none 0 0)).run P w.drew = .ok ([] : List Value).toArray w.drew := by simp [Builtin.firstCells]
          have src' : Src P i.size tx (.string b) b.size (byteCells b) w := by rw [hsz]; exact src
          have hrun := run_append_grow_src (P := P) w t tx ty e i z ht hi hz none 0 0 [] hold (.string b) b.size (byteCells b) src' (by omega) (by simp only [maxLen] at hmax; omega) (by rw [hby]; exact growslice_fits (by omega) (by rw [Nat.zero_add]; exact hb.1))
          simp only [Nat.zero_add, List.nil_append] at hrun
          have hge := grownCap_ge w b.size 0 e
          have hcm := grownCap_le_maxLen w b.size 0 e hmax
          refine ⟨_, _, hrun, F, O ++ [⟨w.heap.size, grownCap w b.size 0 e, 0, 1⟩], ?_, h.push (w1 := w.drew) (Below.refl _ w).drew rfl ne hcm (by rw [bl]; exact hge) ?_ bk b1 ?_, Fz.le_refl F, Ow.le_push O _⟩
          · exact .ol _ H.length 0 b.size ⟨w.heap.size, grownCap w b.size 0 e, 0, 1⟩ (by rw [← h.len]; simp) (Nat.zero_le _) ⟨_, _, rfl⟩ fun _ => ⟨hge, rfl⟩
          · simp only [Array.size_append, List.size_toArray, size_zeroCells, hzs, cl]
            omega
          · intro n j y a hy ha
            obtain ⟨c, g1, g2, g3⟩ := byteCells_at (F := F) (O := O) hy
            rw [g3] at ha
            obtain ⟨rfl, rfl⟩ : j = 0 ∧ a = y := by
              cases j with
              | zero => exact ⟨rfl, by simpa using ha.symm⟩
              | succ j => simp at ha
            refine ⟨c, ?_, g2⟩
            rw [Array.getElem?_append_left (by have := (List.getElem?_eq_some_iff.1 g1).1; simpa using this)]
            simpa using g1
        · cases hr
    · rename_i i' g n
      split at hr
      · rename_i ob hl
        split at hr
        · rename_i hcnd
          obtain ⟨hk1, rfl, hfz, hnl, hbt, hml⟩ := hcnd
          cases hr
          obtain ⟨d, hd, hio, r, hnC, rfl⟩ := h.ol hs hl
          obtain ⟨cur, hcur, hcsz, hcc0⟩ := r.curc (live_ne hl)
          have hg : ob.g = g := (live_ok hl).2
          rw [hk1, Nat.mul_one] at hcsz
          have hle : n ≤ cur.size := by rw [hcsz]; exact hnC
          have tn : ∀ x ∈ ob.es.take n ++ bytesA b, x.cells.length = 1 := fun x hx => by
            rcases List.mem_append.1 hx with hx | hx
            · rw [← hk1]; exact r.hn x (List.mem_of_mem_take hx)
            · exact bk x hx
          have t1 : ∀ x ∈ ob.es.take n ++ bytesA b, ∀ a ∈ x.cells, AV.one a = true := fun x hx => by
            rcases List.mem_append.1 hx with hx | hx
            · exact r.h1 x (List.mem_of_mem_take hx)
            · exact b1 x hx
          have tl : (ob.es.take n ++ bytesA b).length = n + b.size := by simp [bl]; omega
          have tfz : ob.fz ≤ (ob.es.take n ++ bytesA b).length := by rw [tl]; omega
          have says : ∀ (rest : List Value) (cells : Array Value), cells.toList = cur.toList.take n ++ byteCells b ++ rest →
              ∀ (m j : Nat) (x a : AV), (ob.es.take n ++ bytesA b)[m]? = some x → x.cells[j]? = some a → ∃ c, cells[m * ob.k + j]? = some c ∧ VR F O c a := fun rest cells hcells m j x a hx ha => by
            have hj0 : j = 0 := by
              have := (List.getElem?_eq_some_iff.1 ha).1
              rw [tn x (List.mem_of_getElem? hx)] at this
              omega
            subst hj0
            have e0 : cells[m * ob.k + 0]? = (cur.toList.take n ++ byteCells b ++ rest)[m]? := by rw [← hcells, hk1]; simp
            have tkl : (ob.es.take n).length = n := by simp; omega
            have tcl : (cur.toList.take n).length = n := by simp; omega
            rw [e0, List.append_assoc]
            by_cases hm : m < n
            · rw [List.getElem?_append_left (by omega)] at hx
              rw [List.getElem?_take, if_pos hm] at hx
              obtain ⟨c', g1, g2⟩ := hcc0 m 0 x a hx ha
              refine ⟨c', ?_, g2⟩
              rw [List.getElem?_append_left (by omega), List.getElem?_take, if_pos hm]
              rw [hk1] at g1
              simpa using g1
            · rw [List.getElem?_append_right (by omega), tkl] at hx
              obtain ⟨c', g1, g2, g3⟩ := byteCells_at (F := F) (O := O) hx
              rw [g3] at ha
              obtain rfl : x = a := by simpa using ha
              refine ⟨c', ?_, g2⟩
              rw [List.getElem?_append_right (by omega), tcl]
              rw [List.getElem?_append_left (by have := (List.getElem?_eq_some_iff.1 g1).1; exact this)]
              exact g1
          by_cases hroom : n + b.size ≤ d.C
          · have hrun := run_append_room_s (P := P) w t tx ty ob.e i ht htx hi hsz d.b n d.C cur hcur b hroom (by rw [hcsz]; exact hroom)
            obtain ⟨q1, q2⟩ := h.write (i := i') (ob := ob) (d := d) hio (live_ne hl) hd (new := (cur.toList.take n ++ byteCells b ++ cur.toList.drop (n + b.size)).toArray) (g' := g + 1) (es' := ob.es.take n ++ bytesA b) (by omega) (by rw [tl]; exact hroom)
              (by rw [hk1]; simp only [List.size_toArray, List.length_append, List.length_take, List.length_drop, Array.length_toList, cl]; omega) (by rw [hk1]; exact tn) t1 tfz (says (cur.toList.drop (n + b.size)) _ (by simp)) (fun o u hu => by
              have ho := r.hf o u hu
              rw [hk1] at ho
              have hw := h.fr _ _ _ hu
              simp only [World.cell?, hcur] at hw
              rw [List.getElem?_toArray, List.append_assoc, List.getElem?_append_left (by simp; omega), List.getElem?_take, if_pos (by omega)]
              simpa using hw)
            rw [hk1] at q1
            refine ⟨_, _, hrun, F, _, ?_, q1, Fz.le_refl F, q2⟩
            exact .ol _ i' (g + 1) (n + b.size) ⟨d.b, d.C, g + 1, d.k⟩ (List.getElem?_set_self (List.getElem?_eq_some_iff.1 hd).1) (Nat.le_refl _) ⟨_, _, rfl⟩ fun _ => ⟨hroom, rfl⟩
          · have src' : Src P i.size tx (.string b) b.size (byteCells b) w := by rw [hsz]; exact src
            have hold : (Builtin.firstCells i.size n (.slice (some ⟨d.b, 0, none⟩) n d.C)).run P w.drew = .ok (cur.toList.take n).toArray w.drew := run_firstCells_some w.drew i.size n ⟨d.b, 0, none⟩ n d.C (cur.toList.take n) (by rw [hsz]; simp; omega) (fun j v hv => by
                rw [List.getElem?_take] at hv
                split at hv
                · rw [addr_add]
                  have hcur' : w.drew.heap[d.b]? = some (.cells cur ob.e (0, 0)) := hcur
                  simp only [World.cell?, hcur']
                  simpa using hv
                · cases hv)
            have hrun := run_append_grow_src (P := P) w t tx ty ob.e i z ht hi hz (some ⟨d.b, 0, none⟩) n d.C (cur.toList.take n) hold (.string b) b.size (byteCells b) src' (by omega) (by have := hml; simp only [maxLen] at this; omega) (by rw [hby]; exact growslice_fits (by omega) hbt)
            have hge := grownCap_ge w (n + b.size) d.C ob.e
            have hcm := grownCap_le_maxLen w (n + b.size) d.C ob.e hml
            obtain ⟨q1, q2⟩ := h.move (w1 := w.drew) (Below.refl _ w).drew rfl (i := i') (ob := ob) (d := d) hio (live_ne hl) hd (new := (cur.toList.take n ++ byteCells b).toArray ++ Builtin.zeroCells z.cells (grownCap w (n + b.size) d.C ob.e - (n + b.size))) (C := grownCap w (n + b.size) d.C ob.e) (es' := ob.es.take n ++ bytesA b)
              hcm (by rw [tl]; exact hge) (by
                simp only [Array.size_append, List.size_toArray, size_zeroCells, hzs, cl, hk1, List.length_append, List.length_take, Array.length_toList]
                omega) (by rw [hk1]; exact tn) t1 tfz (says (Builtin.zeroCells z.cells (grownCap w (n + b.size) d.C ob.e - (n + b.size))).toList _ (by simp))
            rw [hg, hk1] at q1
            rw [hg] at q2
            refine ⟨_, _, hrun, F, _, ?_, q1, Fz.le_refl F, by rw [hk1] at q2; exact q2⟩
            exact .ol _ i' (g + 1) (n + b.size) ⟨w.heap.size, _, g + 1, 1⟩ (List.getElem?_set_self (List.getElem?_eq_some_iff.1 hd).1) (Nat.le_refl _) ⟨_, _, rfl⟩ fun _ => ⟨hge, rfl⟩
        · cases hr
      · cases hr
    · cases hr
  · cases hr
theorem numsA_at : ∀ {es : List AV} {ns : List Int}, numsA es = some ns → ns.length = es.length ∧ ∀ (j : Nat) (z : Int), ns[j]? = some z → es[j]? = some (.v (.int .u8 z))
  | [], ns, h => by cases h; exact ⟨rfl, fun j z hz => by simp at hz⟩
  | e :: es, ns, h => by
    unfold numsA at h
    split at h
    · rename_i he; cases he
    · rename_i z l he
      cases he
      split at h
      · rename_i zs hz
        cases h
        obtain ⟨h1, h2⟩ := numsA_at hz
        refine ⟨by simp [h1], fun j y hy => ?_⟩
        cases j with
        | zero => simp at hy; subst hy; rfl
        | succ j => simp only [List.getElem?_cons_succ] at hy ⊢; exact h2 j y hy
      · cases h
    · cases h
theorem sob_run (h : Own B w0 F0 F O H w) {x : Value} {xa r : AV} (hx : VR F O x xa) (hr : sobA H xa = some r) : ∃ y, (Conv.bytesToString x).run P w = .ok y w ∧ VR F O y r := by
  unfold sobA at hr
  split at hr
  · rename_i news H2 hs
    split at hr
    · rename_i ns hns
      cases hr
      obtain ⟨A, c, rfl, hk, h1, hcell⟩ := src_ok h hx hs
      obtain ⟨n1, n2⟩ := numsA_at hns
      by_cases hne : news = []
      · subst hne
        have : ns = [] := List.length_eq_zero_iff.1 n1
        subst this
        refine ⟨.string ByteArray.empty, ?_, .p (.v _ rfl)⟩
        cases A with
        | none => simp [Conv.bytesToString]
        | some a =>
          have hl : (loadCells a 0).run P w = .ok (([] : List Int).map (Value.int .u8)).toArray w := by simp [loadCells, loadCellsFrom]
          exact run_bytesToString w a 0 c [] hl
      · obtain ⟨b, o, rfl, hcc⟩ := hcell hne
        have hl : (loadCells ⟨b, o, none⟩ news.length).run P w = .ok (ns.map (Value.int .u8)).toArray w := by
          have := run_firstCells_some (P := P) w 1 news.length ⟨b, o, none⟩ news.length c (ns.map (Value.int .u8)) (by simp [n1]) (fun j u hu => by
            rw [List.getElem?_map] at hu
            obtain ⟨z, hz, rfl⟩ := Option.map_eq_some_iff.1 hu
            have he := n2 j z hz
            obtain ⟨c', g1, g2⟩ := hcc j 0 _ (.v (.int .u8 z)) he rfl
            cases g2 with
            | p h => cases h; rw [addr_add]; simpa using g1)
          simpa [Builtin.firstCells] using this
        exact ⟨_, run_bytesToString w _ _ c ns hl, .p (.v _ rfl)⟩
    · cases hr
  · cases hr
theorem bytes8_at : ∀ {es : List AV} {bs : List UInt8}, bytes8 es = some bs → bs.length = es.length ∧ ∀ (j : Nat) (u : UInt8), bs[j]? = some u → es[j]? = some (.v (.int .u8 (u.toNat : Int)))
  | [], bs, h => by cases h; exact ⟨rfl, fun j z hz => by simp at hz⟩
  | e :: es, bs, h => by
    unfold bytes8 at h
    split at h
    · rename_i he; cases he
    · rename_i z l he
      cases he
      split at h
      · rename_i hz
        split at h
        · rename_i b hb
          cases h
          obtain ⟨h1, h2⟩ := bytes8_at hb
          refine ⟨by simp [h1], fun j y hy => ?_⟩
          cases j with
          | zero =>
            simp at hy
            subst hy
            have : ((UInt8.ofNat z.toNat).toNat : Int) = z := by
              have h3 : (UInt8.ofNat z.toNat).toNat = z.toNat % 256 := UInt8.toNat_ofNat'
              rw [h3]
              omega
            rw [this]; rfl
          | succ j => simp only [List.getElem?_cons_succ] at hy ⊢; exact h2 j y hy
        · cases h
      · cases h
    · cases h
theorem usd_run (h : Own B w0 F0 F O H w) {x : Value} {xa r : AV} (hx : VR F O x xa) (hr : usdA H xa = some r) (ts : Array TypeId) (ty : TypeId) : ∃ y, (Builtin.unsafeSliceData_ ts ty #[x]).run P w = .ok y w ∧ VR F O y r := by
  unfold usdA at hr
  split at hr
  · rename_i i g n
    split at hr
    · rename_i ob hl
      split at hr
      · rename_i hn
        cases hr
        obtain ⟨d, hd, hio, rr, hnC, rfl⟩ := h.ol hx hl
        have hg : ob.g = g := (live_ok hl).2
        refine ⟨_, Go.Lib.run_unsafeSliceData_row w ts ty ⟨d.b, 0, none⟩ n d.C (by omega), .oa _ i g 0 0 d hd (by rw [rr.hg, hg]; exact Nat.le_refl _) rfl fun _ => ?_⟩
        simp
      · cases hr
    · cases hr
  · cases hr
    have : x = .slice none 0 0 := by
      cases hx with
      | p h => cases h
      | nl => rfl
    subst this
    exact ⟨_, Go.Lib.run_unsafeSliceData_nil w ts ty 0 0, .p (.v _ rfl)⟩
  · cases hr
theorem freeze_at (w : World) (b n : Nat) {c : Array Value} {e : TypeId} {fr : Nat × Nat} (h : w.heap[b]? = some (.cells c e fr)) : ∃ c e' fr, (w.freeze ⟨b, 0, none⟩ n).heap[b]? = some (.cells c e' fr) := by
  unfold World.freeze
  split
  · exact ⟨c, e, fr, h⟩
  · simp [Array.getElem?_modify, h]
theorem freeze_other (w : World) (b n k : Nat) (hk : k ≠ b) : (w.freeze ⟨b, 0, none⟩ n).heap[k]? = w.heap[k]? := by
  unfold World.freeze
  split
  · rfl
  · simp only [Array.getElem?_modify]
    rw [if_neg (fun e => hk e.symm)]
theorem freeze_size (w : World) (b n : Nat) : (w.freeze ⟨b, 0, none⟩ n).heap.size = w.heap.size := by
  unfold World.freeze
  split <;> simp
theorem ust_run (h : Own B w0 F0 F O H w) {e : TypeId} {x n : Value} {xa na : AV} (hx : VR F O x xa) (hn : VR F O n na) {pt it ty : TypeId} (hp : P.underlying pt = some (.pointer e)) (hc : P.cellsOf e = 1) {r : AV} {H' : Hp} (hr : ustA e H xa na = some (r, H')) :
    ∃ y w', (Builtin.unsafeString_ #[pt, it] ty #[x, n]).run P w = .ok y w' ∧ Out B w0 F0 F O r H' y w' := by
  unfold ustA at hr
  split at hr
  · rename_i m
    obtain rfl : n = .int .i64 m := by
      cases hn with
      | p h => cases h; rfl
    split at hr
    · split at hr
      · rename_i hm
        subst hm
        cases hr
        obtain rfl : x = .pointer none := by
          cases hx with
          | p h => cases h; rfl
        exact ⟨_, w, Go.Lib.run_unsafeString_none w pt it ty none, Out.same h (.p (.v _ rfl))⟩
      · cases hr
    · rename_i i g
      split at hr
      · rename_i ob hl
        split at hr
        · rename_i hcnd
          obtain ⟨hk1, rfl, hfz, hm0, hml, hm63⟩ := hcnd
          split at hr
          · rename_i bs hbs
            cases hr
            obtain ⟨n1, n2⟩ := bytes8_at hbs
            obtain ⟨hio, hg⟩ := live_ok hl
            obtain ⟨d, hd, rr⟩ := h.get hio
            obtain ⟨cur, hcur, hcsz, hcc0⟩ := rr.curc (live_ne hl)
            rw [hk1, Nat.mul_one] at hcsz
            have hxv : x = .pointer (some ⟨d.b, 0, none⟩) := by
              cases hx with
              | p h => cases h
              | oa x i g e off d' hd' hg' h1 hh =>
                rw [hd] at hd'
                cases hd'
                simpa using hh (by rw [rr.hg, hg])
            subst hxv
            have hbl : bs.length = m.toNat := by rw [n1]; simp; omega
            have hes := rr.hl (live_ne hl)
            have hsh : w.shape? d.b = some (ob.e, cur.size) := by simp [World.shape?, hcur]
            have hrun := Go.Lib.run_unsafeString_row (P := P) w pt it ty ob.e hp hc d.b cur.size hsh bs (fun e => by subst e; simp at hbl; omega) (by rw [hbl, hcsz]; omega) (by omega) (fun j u hu => by
              have hj := n2 j u hu
              rw [List.getElem?_take] at hj
              split at hj
              · obtain ⟨c, g1, g2⟩ := hcc0 j 0 _ (.v (.int .u8 (u.toNat : Int))) hj rfl
                rw [hk1] at g1
                cases g2 with
                | p h =>
                  cases h
                  rw [addr_add]
                  simp only [World.cell?, hcur]
                  simpa using g1
              · cases hj)
            have hmm : ((bs.length : Nat) : Int) = m := by rw [hbl]; omega
            rw [hmm] at hrun
            have hg' : g = ob.g := hg.symm
            subst hg'
            obtain ⟨q1, q2⟩ := h.kill hio hd hfz (w' := w.freeze ⟨d.b, 0, none⟩ bs.length) (fun b hb => freeze_other w d.b _ b hb) (Go.Lib.below_freeze h.below rr.hB.1 _) (by rw [freeze_size]; exact h.size) (freeze_at w d.b _ hcur)
            exact ⟨_, _, hrun, F, _, .p (.v _ rfl), q1, Fz.le_refl F, q2⟩
          · cases hr
        · cases hr
      · cases hr
    · cases hr
  · cases hr
theorem liesAt_head {e : TypeId} (h0 : 0 < P.cellsOf e) (count : Nat) (hn : 1 ≤ count) : liesAt P P.depth e count 0 e 1 = true := by
  have hd : P.depth = (2 * (P.types.size + Made.depth) + 1) + 1 := rfl
  rw [hd]
  simp only [liesAt, Bool.or_eq_true]
  left
  rw [hd]
  have h1 : P.cellsOf e ≠ 0 := by omega
  simp [rowAt, h1, hn, sameLayout]
theorem cup_run (h : Own B w0 F0 F O H w) {x : Value} {xa r : AV} (hx : VR F O x xa) {src dst t : TypeId} {j : TypeInfo} (hs : P.underlying src = some (.pointer t)) (hd : P.underlying dst = some .unsafePointer) (ht : P.info? t = some j) (hj : j.size ≠ 0) (hr : cupA H xa = some r) :
    ∃ y, (convert src dst x).run P w = .ok y w ∧ VR F O y r := by
  unfold cupA at hr
  split at hr
  · cases hr
    obtain rfl : x = .pointer none := by
      cases hx with
      | p h => cases h; rfl
    refine ⟨.pointer none, ?_, .p (.v _ rfl)⟩
    simp [convert, run_underlying hs, run_underlying hd, Conv.unsafePointer]
  · rename_i i g e off
    split at hr
    · rename_i ob hl
      split at hr
      · rename_i hc
        cases hr
        obtain ⟨d, hdd, hio, rr, rfl⟩ := h.oa hx hl
        obtain ⟨cur, hcur, hcsz, _⟩ := rr.curc (live_ne hl)
        have hsh : w.shape? d.b = some (ob.e, cur.size) := by simp [World.shape?, hcur]
        have hlC := rr.hl (live_ne hl)
        have hm : (e + 1) * ob.k ≤ d.C * ob.k := Nat.mul_le_mul_right _ (by omega)
        rw [Nat.add_mul, Nat.one_mul] at hm
        exact ⟨_, Go.Lib.run_to_unsafe (P := P) w _ hs hd ht hj hsh (by rw [hcsz]; dsimp only; omega), hx⟩
      · cases hr
    · cases hr
  · cases hr
theorem cpu_run (h : Own B w0 F0 F O H w) {x : Value} {xa r : AV} (hx : VR F O x xa) {src dst u : TypeId} {j : TypeInfo} (hs : P.underlying src = some .unsafePointer) (hd : P.underlying dst = some (.pointer u)) (hu : P.info? u = some j) (hr : cpuA P u H xa = some r) :
    ∃ y, (convert src dst x).run P w = .ok y w ∧ VR F O y r := by
  unfold cpuA at hr
  split at hr
  · cases hr
    obtain rfl : x = .pointer none := by
      cases hx with
      | p h => cases h; rfl
    refine ⟨.pointer none, ?_, .p (.v _ rfl)⟩
    simp [convert, run_underlying hs, run_underlying hd, Conv.unsafePointer]
  · rename_i i g
    split at hr
    · rename_i ob hl
      split at hr
      · rename_i hc
        obtain ⟨hc1, hc2, hc3, hc4⟩ := hc
        cases hr
        obtain ⟨d, hdd, hio, rr, hxe⟩ := h.oa hx hl
        obtain ⟨cur, hcur, hcsz, _⟩ := rr.curc (live_ne hl)
        have hsh : w.shape? d.b = some (ob.e, cur.size) := by simp [World.shape?, hcur]
        have hlC := rr.hl (live_ne hl)
        have hx0 : x = .pointer (some ⟨d.b, 0, none⟩) := by simpa using hxe
        rw [hx0] at hx ⊢
        refine ⟨_, Go.Lib.run_from_unsafe (P := P) w ⟨d.b, 0, none⟩ hs hd hu hsh ?_, hx⟩
        rw [hc1]
        refine liesAt_head (by omega) _ ?_
        rw [hcsz, hc4]
        exact (Nat.le_div_iff_mul_le hc3).2 (Nat.mul_le_mul_right _ (by omega))
      · cases hr
    · cases hr
  · cases hr
theorem run_clear_k {P : Program} (w : World) (t e e2 ty : TypeId) (z : Value) (ht : P.underlying t = some (.slice e)) (hv : (zeroValue e).run P w = .ok z w) (b n c : Nat) (hn : 0 < n) (cur : Array Value) (hrow : w.heap[b]? = some (.cells cur e2 (0, 0))) (vs : List Value) (hvs : (Builtin.zeroCells z.cells n).toList = vs) (hfit : vs.length ≤ cur.size) (h1 : ∀ u ∈ vs, u.oneCell' = true) :
    (Builtin.clear_ #[t] ty #[.slice (some ⟨b, 0, none⟩) n c]).run P w = .ok (.tuple #[]) (w.setRow b (vs ++ cur.toList.drop vs.length).toArray) := by
  have hst := run_storeCells_at P b 0 e2 vs 0 cur w hrow (by simpa using hfit) h1
  simp only [Nat.add_zero, Nat.zero_add, List.take_zero, List.nil_append] at hst
  obtain ⟨m, rfl⟩ : ∃ m, n = m + 1 := ⟨n - 1, by omega⟩
  simp [Builtin.clear_, run_underlying ht, hv, hvs, hst]
theorem clr_run (h : Own B w0 F0 F O H w) {x z : Value} {xa za : AV} (hx : VR F O x xa) (hz : VR F O z za) {t ty e : TypeId} {i : TypeInfo} {k : Nat} (ht : P.underlying t = some (.slice e)) (hi : P.info? e = some i) (hzr : i.zero = some z)
    (hk : za.cells.length = k) (hf : za.fine = true) (h0 : 0 < k) {H' : Hp} (hr : clrA k za H xa = some H') :
    ∃ w' F' O', (Builtin.clear_ #[t] ty #[x]).run P w = .ok (.tuple #[]) w' ∧ Own B w0 F0 F' O' H' w' ∧ F.le F' ∧ O.le O' := by
  cases xa with
  | ol i' g n =>
    simp only [clrA] at hr
    split at hr
    · rename_i ob hl
      split at hr
      · rename_i hcnd
        obtain ⟨rfl, hfz, hn, hnl⟩ := hcnd
        cases hr
        obtain ⟨dd, hdd, hio, r, hnC, rfl⟩ := h.ol hx hl
        obtain ⟨cur, hcur, hcsz, hcc0⟩ := r.curc (live_ne hl)
        have hzc : z.cells.size = ob.k := by rw [(hz.cells (fine_or hf)).1]; exact hk
        have zl : (Builtin.zeroCells z.cells n).toList.length = n * ob.k := by rw [Array.length_toList, size_zeroCells, hzc]
        have hmC : n * ob.k ≤ cur.size := by rw [hcsz]; exact Nat.mul_le_mul_right _ (by omega)
        obtain ⟨c1, c2, c3⟩ := hz.cells (fine_or hf)
        have hone : ∀ u ∈ (Builtin.zeroCells z.cells n).toList, u.oneCell' = true := fun u hu => by
          obtain ⟨x, hx⟩ := List.getElem?_of_mem hu
          have hxl := (List.getElem?_eq_some_iff.1 hx).1
          rw [zl] at hxl
          rw [Array.getElem?_toList, zeroCells_at _ _ _ (by rw [hzc]; exact hxl), hzc] at hx
          have hm : x % ob.k < za.cells.length := by rw [hk]; exact Nat.mod_lt _ h0
          obtain ⟨c, q1, q2⟩ := c3 (x % ob.k) za.cells[x % ob.k] (List.getElem?_eq_getElem hm)
          rw [hx] at q1
          cases q1
          exact q2.oneCell (c2 _ (List.getElem_mem hm))
        have hrun := run_clear_k (P := P) w t e ob.e ty z ht (run_zero hi hzr w) dd.b n dd.C hn cur hcur _ rfl (by rw [zl]; exact hmC) hone
        have tn : ∀ x ∈ List.replicate n za ++ ob.es.drop n, x.cells.length = ob.k := fun x hx => by
          rcases List.mem_append.1 hx with hx | hx
          · rw [List.eq_of_mem_replicate hx]; exact hk
          · exact r.hn x (List.mem_of_mem_drop hx)
        have t1 : ∀ x ∈ List.replicate n za ++ ob.es.drop n, ∀ a ∈ x.cells, AV.one a = true := fun x hx => by
          rcases List.mem_append.1 hx with hx | hx
          · rw [List.eq_of_mem_replicate hx]; exact c2
          · exact r.h1 x (List.mem_of_mem_drop hx)
        have tl : (List.replicate n za ++ ob.es.drop n).length = ob.es.length := by simp; omega
        obtain ⟨q1, q2⟩ := h.write (i := i') (ob := ob) (d := dd) hio (live_ne hl) hdd (new := ((Builtin.zeroCells z.cells n).toList ++ cur.toList.drop (Builtin.zeroCells z.cells n).toList.length).toArray) (g' := ob.g) (es' := List.replicate n za ++ ob.es.drop n) (Nat.le_refl _) (by rw [tl]; exact r.hl (live_ne hl))
          (by simp only [List.size_toArray, List.length_append, List.length_drop, zl, Array.length_toList]; omega) tn t1 (by omega) (fun p j x a hx ha => by
            have hjk : j < ob.k := by rw [← tn x (List.mem_of_getElem? hx)]; exact (List.getElem?_eq_some_iff.1 ha).1
            simp only [List.getElem?_toArray]
            by_cases hp : p < n
            · rw [List.getElem?_append_left (by simpa using hp), List.getElem?_replicate, if_pos hp] at hx
              cases hx
              have hlt : p * ob.k + j < n * ob.k := by
                have := Nat.mul_le_mul_right ob.k (show p + 1 ≤ n by omega)
                rw [Nat.add_mul, Nat.one_mul] at this
                omega
              rw [List.getElem?_append_left (by rw [zl]; exact hlt), Array.getElem?_toList, zeroCells_at _ _ _ (by rw [hzc]; exact hlt), hzc, Nat.add_comm, Nat.add_mul_mod_self_right, Nat.mod_eq_of_lt hjk]
              exact c3 j a ha
            · rw [List.getElem?_append_right (by simpa using hp), List.length_replicate, List.getElem?_drop] at hx
              obtain ⟨c', g1, g2⟩ := hcc0 p j x a (by rw [← hx]; congr 1; omega) ha
              have hle : n * ob.k ≤ p * ob.k := Nat.mul_le_mul_right _ (by omega)
              refine ⟨c', ?_, g2⟩
              rw [List.getElem?_append_right (by rw [zl]; omega), zl, List.getElem?_drop, ← g1, ← Array.getElem?_toList]
              congr 1; omega) (fun o u hu => by
            have ho := r.hf o u hu
            rw [hfz] at ho
            omega)
        exact ⟨_, F, _, hrun, q1, Fz.le_refl F, q2⟩
      · cases hr
    · cases hr
  | nl kk =>
    cases hr
    have : x = .slice none 0 0 := by
      cases hx with
      | p h => cases h
      | nl => rfl
    subst this
    exact ⟨w, F, O, by simp [Builtin.clear_, run_underlying ht], h, Fz.le_refl F, Ow.le_refl O⟩
  | sl kk es =>
    cases es with
    | nil =>
      cases hr
      have hx := hx.pvC rfl
      cases hx with
      | sl A m cap _ _ hn hc hm hkk h1 b o hA f hff hvv =>
        simp at hn
        subst hn
        cases A <;> exact ⟨w, F, O, by simp [Builtin.clear_, run_underlying ht], h, Fz.le_refl F, Ow.le_refl O⟩
    | cons _ _ => cases hr
  | _ => cases hr
theorem apz_run (h : Own B w0 F0 F O H w) {e : TypeId} (ne : e ≠ mapE) {z : Value} {za : AV} (hz : VR F O z za) {t tn ty : TypeId} {i : TypeInfo} {kn k : IntKind} (ht : P.underlying t = some (.slice e)) (htn : P.underlying tn = some (.int kn)) (hi : P.info? e = some i) (hiz : i.zero = some z)
    (hk : za.cells.length = i.size) (hf : za.fine = true) (h0 : 0 < i.size) {m : Int} (hm : 0 < m) (hb : m.toNat * i.bytes ≤ 140737488355328) (hml : m.toNat ≤ maxLen) :
    ∃ y w', (Builtin.append_ #[t, tn] ty #[.slice none 0 0, .int k m]).run P w = .ok y w' ∧ Out B w0 F0 F O (.ol H.length 0 m.toNat) (H ++ [⟨e, i.size, List.replicate m.toNat za, 0, 0⟩]) y w' := by
  have hmn : ((m.toNat : Nat) : Int) = m := by omega
  have hrun := Lib.run_append_nil_zeros (P := P) w t tn ty e i z k kn ht htn hi hiz m.toNat (by omega) h0 (by have := hml; simp only [maxLen] at this; omega) (by omega)
  rw [hmn] at hrun
  have h' : Own B w0 F0 F O H w.drew := h.keep (Below.refl _ w).drew
  have hzc : z.cells.size = i.size := by rw [(hz.cells (fine_or hf)).1]; exact hk
  have hge := grownCap_ge w m.toNat 0 e
  have hcm := grownCap_le_maxLen w m.toNat 0 e hml
  have hsz : (Builtin.zeroCells z.cells m.toNat ++ Builtin.zeroCells z.cells (grownCap w m.toNat 0 e - m.toNat)).size = grownCap w m.toNat 0 e * i.size := by
    simp only [Array.size_append, size_zeroCells, hzc]
    rw [← Nat.add_mul]
    congr 1
    omega
  refine ⟨_, _, hrun, mks_run (w := w.drew) h' ne hz hk hf hge hcm hsz fun x hx => ?_⟩
  by_cases hxl : x < m.toNat * i.size
  · rw [Array.getElem?_append_left (by rw [size_zeroCells, hzc]; exact hxl), zeroCells_at _ _ _ (by rw [hzc]; exact hxl), hzc]
  · have hle : m.toNat * i.size ≤ x := by omega
    have hlt : x - m.toNat * i.size < (grownCap w m.toNat 0 e - m.toNat) * i.size := by
      rw [Nat.sub_mul]; omega
    rw [Array.getElem?_append_right (by rw [size_zeroCells, hzc]; exact hle), size_zeroCells, hzc, zeroCells_at _ _ _ (by rw [hzc]; exact hlt), hzc]
    congr 1
    have : x = x - m.toNat * i.size + i.size * m.toNat := by rw [Nat.mul_comm i.size]; omega
    rw [show x % i.size = (x - m.toNat * i.size + i.size * m.toNat) % i.size from by rw [← this], Nat.add_mul_mod_self_left]
theorem fold_set (l : List Value) : ∀ (s off : Nat) (cells : Array Value), off + s + l.length ≤ cells.size →
    ((l.zipIdx s).foldl (fun cs (p : Value × Nat) => cs.setIfInBounds (off + p.2) p.1) cells).size = cells.size ∧
    ∀ x, ((l.zipIdx s).foldl (fun cs (p : Value × Nat) => cs.setIfInBounds (off + p.2) p.1) cells)[x]? = if off + s ≤ x ∧ x < off + s + l.length then l[x - (off + s)]? else cells[x]? := by
  induction l with
  | nil => intro s off cells h; exact ⟨rfl, fun x => by simp; intro h1 h2; omega⟩
  | cons v l ih =>
    intro s off cells h
    simp only [List.length_cons] at h
    obtain ⟨q1, q2⟩ := ih (s + 1) off (cells.setIfInBounds (off + s) v) (by simp; omega)
    simp only [List.zipIdx_cons, List.foldl_cons]
    refine ⟨by rw [q1]; simp, fun x => ?_⟩
    rw [q2 x]
    by_cases hx : off + (s + 1) ≤ x ∧ x < off + (s + 1) + l.length
    · rw [if_pos hx, if_pos (by simp only [List.length_cons]; omega)]
      rw [show x - (off + s) = (x - (off + (s + 1))) + 1 from by omega]
      simp
    · rw [if_neg hx]
      by_cases hx2 : x = off + s
      · subst hx2
        rw [if_pos (by simp only [List.length_cons]; omega)]
        simp [Array.getElem?_setIfInBounds]
        omega
      · rw [if_neg (by simp only [List.length_cons]; omega), Array.getElem?_setIfInBounds_ne (by omega)]
theorem fold_arr (v : Value) (off : Nat) (cells : Array Value) (h : off + v.cells.size ≤ cells.size) :
    (v.cells.zipIdx.foldl (fun cs (c, j) => cs.setIfInBounds (off + j) c) cells).size = cells.size ∧
    ∀ x, (v.cells.zipIdx.foldl (fun cs (c, j) => cs.setIfInBounds (off + j) c) cells)[x]? = if off ≤ x ∧ x < off + v.cells.size then v.cells[x - off]? else cells[x]? := by
  obtain ⟨q1, q2⟩ := fold_set v.cells.toList 0 off cells (by simpa using h)
  have e : v.cells.zipIdx.foldl (fun cs (c, j) => cs.setIfInBounds (off + j) c) cells = (v.cells.toList.zipIdx 0).foldl (fun cs (p : Value × Nat) => cs.setIfInBounds (off + p.2) p.1) cells := by
    rw [← Array.foldl_toList, Array.toList_zipIdx]
  rw [e]
  refine ⟨q1, fun x => ?_⟩
  rw [q2 x]
  simp
/-- The parts of a struct. -/
theorem fill_ok (place : Nat → Option (Nat × Nat)) : ∀ (ps : List (Nat × Value)) (qs : List (Nat × Nat × AV)) (cells : Array Value) (as cs' : List AV), ps.length = qs.length →
    (∀ (i : Nat) (p : Nat × Value) (q : Nat × Nat × AV), ps[i]? = some p → qs[i]? = some q → place p.1 = some (q.1, q.2.1) ∧ VR F O p.2 q.2.2) →
    cells.size = as.length → (∀ a ∈ as, a.one = true) → (∀ (i : Nat) (c : Value) (a : AV), cells[i]? = some c → as[i]? = some a → VR F O c a) → fillA as qs = some cs' →
    ∃ out, Instr.fill place cells ps = some out ∧ out.size = cs'.length ∧ (∀ a ∈ cs', a.one = true) ∧ ∀ (i : Nat) (c : Value) (a : AV), out[i]? = some c → cs'[i]? = some a → VR F O c a
  | [], [], cells, as, cs', _, _, hl, h1, hv, hf => by
    cases hf
    exact ⟨cells, rfl, hl, h1, hv⟩
  | [], _ :: _, _, _, _, h, _, _, _, _, _ => by simp at h
  | _ :: _, [], _, _, _, h, _, _, _, _, _ => by simp at h
  | (pi, v) :: ps, (off, n, va) :: qs, cells, as, cs', hlen, hp, hl, h1, hv, hf => by
    obtain ⟨g1, g2⟩ := hp 0 _ _ rfl rfl
    simp only at g1 g2
    simp only [fillA] at hf
    split at hf
    · rename_i hc
      obtain ⟨c1, c2, c3⟩ := hc
      obtain ⟨z1, z2, z3⟩ := g2.cells (fine_or c3)
      have hvs : v.cells.size = n := by rw [z1, c1]
      obtain ⟨s1, s2⟩ := fold_arr v off cells (by rw [hvs, hl]; exact c2)
      have hbig : ¬ (v.cells.size ≠ n ∨ off + v.cells.size > cells.size) := by rw [hvs, hl]; omega
      have l1 : (as.take off).length = off := by simp; omega
      obtain ⟨out, o1, o2⟩ := fill_ok place ps qs _ (as.take off ++ va.cells ++ as.drop (off + n)) cs' (by simpa using hlen) (fun i p q hpi hqi => hp (i + 1) p q hpi hqi) (by rw [s1, hl]; simp; omega) (fun a ha => by
          rcases List.mem_append.1 ha with ha | ha
          · rcases List.mem_append.1 ha with ha | ha
            · exact h1 a (List.mem_of_mem_take ha)
            · exact z2 a ha
          · exact h1 a (List.mem_of_mem_drop ha)) (fun i c a hci hai => by
          rw [s2 i] at hci
          by_cases hi : i < off
          · rw [if_neg (by omega)] at hci
            rw [List.append_assoc, List.getElem?_append_left (by omega), List.getElem?_take, if_pos hi] at hai
            exact hv i c a hci hai
          · by_cases hi2 : i < off + n
            · rw [if_pos ⟨by omega, by omega⟩] at hci
              rw [List.getElem?_append_left (by simp; omega), List.getElem?_append_right (by omega), l1] at hai
              obtain ⟨c', e1, e2⟩ := z3 _ _ hai
              rw [e1] at hci
              cases hci
              exact e2
            · rw [if_neg (by omega)] at hci
              rw [List.getElem?_append_right (by simp; omega), List.getElem?_drop] at hai
              simp only [List.length_append, l1, c1] at hai
              rw [show off + n + (i - (off + n)) = i from by omega] at hai
              exact hv i c a hci hai) hf
      refine ⟨out, ?_, o2⟩
      simp only [Instr.fill, g1]
      have hb : (decide (v.cells.size ≠ n) || decide (off + v.cells.size > cells.size)) = false := by simp; omega
      simp only [hb, Bool.false_eq_true, if_false]
      exact o1
    · cases hf
/-- The elements of a slice that is written out. -/
theorem fill_row {k : Nat} : ∀ (vs : List Value) (s : Nat) (cells : Array Value), (∀ v ∈ vs, v.cells.size = k) → (s + vs.length) * k ≤ cells.size →
    ∃ out, Instr.fill (fun i => some (i * k, k)) cells ((vs.zipIdx s).map fun p => (p.2, p.1)) = some out ∧ out.size = cells.size ∧ (∀ x, x < s * k → out[x]? = cells[x]?) ∧ ∀ (i : Nat) (v : Value), vs[i]? = some v → ∀ j, j < k → out[(s + i) * k + j]? = v.cells[j]?
  | [], s, cells, _, _ => ⟨cells, rfl, rfl, fun _ _ => rfl, fun i v hv => by simp at hv⟩
  | v :: vs, s, cells, hk, hs => by
    have hv := hk v (by simp)
    have hs' : s * k + k ≤ cells.size := by
      have := Nat.mul_le_mul_right k (show s + 1 ≤ s + (v :: vs).length by simp)
      rw [Nat.add_mul, Nat.one_mul] at this
      omega
    obtain ⟨f1, f2⟩ := fold_arr v (s * k) cells (by rw [hv]; exact hs')
    obtain ⟨out, o1, o2, o3, o4⟩ := fill_row vs (s + 1) _ (fun u hu => hk u (by simp [hu])) (by rw [f1]; rw [show s + 1 + vs.length = s + (v :: vs).length from by simp; omega]; exact hs)
    refine ⟨out, ?_, o2.trans f1, fun x hx => ?_, fun i u hu j hj => ?_⟩
    · simp only [List.zipIdx_cons, List.map_cons, Instr.fill]
      have hb : (decide (v.cells.size ≠ k) || decide (s * k + v.cells.size > cells.size)) = false := by simp; omega
      simp only [hb, Bool.false_eq_true, if_false]
      exact o1
    · rw [o3 x (by rw [Nat.add_mul]; omega), f2 x, if_neg (by omega)]
    · cases i with
      | zero =>
        simp at hu
        subst hu
        rw [Nat.add_zero, o3 _ (by rw [Nat.add_mul]; omega), f2, if_pos (by omega)]
        congr 1
        omega
      | succ i =>
        have := o4 i u (by simpa using hu) j hj
        rw [show s + (i + 1) = s + 1 + i from by omega]
        exact this
theorem bsl_run (h : Own B w0 F0 F O H w) {e : TypeId} (ne : e ≠ mapE) {vs : List Value} {as : List AV} (hl : vs.length = as.length) (hv : ∀ (i : Nat) (c : Value) (a : AV), vs[i]? = some c → as[i]? = some a → VR F O c a) {k : Nat} (hk : ∀ a ∈ as, a.cells.length = k ∧ a.fine = true)
    (hm : as.length ≤ maxLen) {cs : Array Value} (hs : cs.size = as.length * k) (hcs : ∀ (i : Nat) (v : Value), vs[i]? = some v → ∀ j, j < k → cs[i * k + j]? = v.cells[j]?) :
    Out B w0 F0 F O (.ol H.length 0 as.length) (H ++ [⟨e, k, as, 0, 0⟩]) (.slice (some ⟨w.heap.size, 0, none⟩) as.length as.length) (w.alloc (.cells cs e)) := by
  refine ⟨F, O ++ [⟨w.heap.size, as.length, 0, k⟩], ?_, h.push (w1 := w) (Below.refl _ w) rfl ne hm (Nat.le_refl _) hs (fun y hy => (hk y hy).1) (fun y hy => fine_one (hk y hy).2) ?_, Fz.le_refl F, Ow.le_push O _⟩
  · exact .ol _ H.length 0 as.length ⟨w.heap.size, as.length, 0, k⟩ (by rw [← h.len]; simp) (Nat.le_refl _) ⟨_, _, rfl⟩ fun _ => ⟨Nat.le_refl _, rfl⟩
  · intro n j y u hy hu
    have hn := (List.getElem?_eq_some_iff.1 hy).1
    have hmem := hk y (List.mem_of_getElem? hy)
    have hj : j < k := by rw [← hmem.1]; exact (List.getElem?_eq_some_iff.1 hu).1
    have hvn : vs[n]? = some (vs[n]'(by omega)) := List.getElem?_eq_getElem (by omega)
    obtain ⟨z1, z2, z3⟩ := (hv n _ y hvn hy).cells (fine_or hmem.2)
    obtain ⟨c, g1, g2⟩ := z3 j u hu
    exact ⟨c, by rw [hcs n _ hvn j hj]; exact g1, g2⟩
end
end Go.Proofs.YtgcnbbjapapnjaaDoor.Sim
