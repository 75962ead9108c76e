/- Arenas: what was freed is never live again; plain mathematics. -/
import Derived.Test.YtjaohiakpajgkaaArnG
namespace Go.Proofs.Ytjaohiakpajgkaa.Sim
open Go.RowKit
set_option maxRecDepth 100000
set_option linter.unusedSimpArgs false
set_option linter.unusedVariables false
/-- The reference to a slot in an incarnation. -/
def mkR (i c : Nat) : Int := ((1024 * c + (i + 1) : Nat) : Int)
theorem mkR_mod {i c : Nat} (hi : i < 1000) : (mkR i c).tmod 1024 = (i : Nat) + 1 := by
  unfold mkR; rw [Int.tmod_eq_emod_of_nonneg (by omega)]; omega
theorem mkR_div {i c : Nat} (hi : i < 1000) : (mkR i c).tdiv 1024 = (c : Nat) := by
  unfold mkR; rw [Int.tdiv_eq_ediv_of_nonneg (by omega)]; omega
theorem mkR_ok {i c : Nat} (hi : i < 1000) (h1 : 1 ≤ c) (h2 : c ≤ 1000000) : okR (mkR i c) := by
  unfold okR
  rw [mkR_mod hi, mkR_div hi]
  unfold mkR; omega
theorem slot_mkR {i c : Nat} (hi : i < 1000) (h1 : 1 ≤ c) (h2 : c ≤ 1000000) : slotN (mkR i c) = (i : Nat) + 1 := by
  rw [slotN, if_pos (mkR_ok hi h1 h2), mkR_mod hi]
theorem inc_mkR {i c : Nat} (hi : i < 1000) (h1 : 1 ≤ c) (h2 : c ≤ 1000000) : incN (mkR i c) = (c : Nat) := by
  rw [incN, if_pos (mkR_ok hi h1 h2), mkR_div hi]
theorem mkR_i64 {i c : Nat} (hi : i < 1000) (h2 : c ≤ 1000000) : i64 (mkR i c) := by unfold mkR i64; omega
theorem fnd_mkR {s : List Sl} {i c : Nat} {x : Sl} (hx : s[i]? = some x) (hi : i < 1000) (h1 : 1 ≤ c) (h2 : c ≤ 1000000) : fnd s (mkR i c) = if x.2.2 = true ∧ x.2.1 = c then some i else none := by
  unfold fnd
  rw [slot_mkR hi h1 h2, inc_mkR hi h1 h2]
  have e : (((i : Nat) : Int) + 1 - 1).toNat = i := by omega
  rw [e, hx]
  simp only
  by_cases h : x.2.2 = true ∧ x.2.1 = c
  · rw [if_pos h, if_pos ⟨by omega, h.1, by rw [h.2]⟩]
  · rw [if_neg h, if_neg (fun hh => h ⟨hh.2.1, by omega⟩)]
/-- Live references: of each its slot, that is taken; each slot once; and all that are taken. -/
structure LvOk (s : List Sl) (lv : List Nat) : Prop where
  at' : ∀ i ∈ lv, ∃ x, s[i]? = some x ∧ x.2.2 = true
  nd : lv.Nodup
  cn : lv.length = cnt s
def lvR (s : List Sl) (lv : List Nat) : List Int := lv.map fun i => mkR i ((s[i]?).getD (0, 0, false)).2.1
/-- References that were freed: such an incarnation is gone. -/
def GnOk (s : List Sl) (gn : List (Nat × Nat)) : Prop := ∀ p ∈ gn, 1 ≤ p.2 ∧ ∃ x, s[p.1]? = some x ∧ (p.2 < x.2.1 ∨ (p.2 = x.2.1 ∧ x.2.2 = false))
def gnR (gn : List (Nat × Nat)) : List Int := gn.map fun p => mkR p.1 p.2
theorem GnOk.gone {n c : Nat} {s : List Sl} {fr : List Nat} {gn : List (Nat × Nat)} (hi : Inv n c s fr) (hn : n ≤ 1000) (hc : c ≤ 1000000) (h : GnOk s gn) {k : Nat} {p : Nat × Nat} (hk : gn[k]? = some p) : fnd s (mkR p.1 p.2) = none ∧ i64 (mkR p.1 p.2) := by
  obtain ⟨h1, x, hx, h2⟩ := h p (List.mem_of_getElem? hk)
  obtain ⟨hl, _⟩ := List.getElem?_eq_some_iff.1 hx
  have := hi.len
  have h3 := (hi.inc _ _ hx).2
  refine ⟨?_, mkR_i64 (by omega) (by omega)⟩
  rw [fnd_mkR hx (by omega) h1 (by omega), if_neg]
  rintro ⟨a, b⟩
  rcases h2 with h2 | ⟨h2, h4⟩
  · omega
  · rw [a] at h4; cases h4
theorem lv_set {s : List Sl} {lv : List Nat} {i : Nat} {y : Sl} (h : i ∉ lv) : lvR (s.set i y) lv = lvR s lv := by
  unfold lvR
  refine List.map_congr_left fun j hj => ?_
  rw [List.getElem?_set, if_neg (fun e => h (by rw [e]; exact hj))]
theorem lv_snoc {s : List Sl} {lv : List Nat} (h : ∀ i ∈ lv, i < s.length) {y : Sl} : lvR (s ++ [y]) lv = lvR s lv := by
  unfold lvR
  refine List.map_congr_left fun j hj => ?_
  rw [List.getElem?_append_left (h j hj)]
theorem LvOk.lt {s : List Sl} {lv : List Nat} (h : LvOk s lv) : ∀ i ∈ lv, i < s.length := fun i hi => by
  obtain ⟨x, hx, _⟩ := h.at' i hi
  exact (List.getElem?_eq_some_iff.1 hx).1
/-- A new slot. -/
theorem LvOk.new {s : List Sl} {lv : List Nat} (h : LvOk s lv) (v : Int) : LvOk (s ++ [(v, 1, true)]) (lv ++ [s.length]) ∧ lvR (s ++ [(v, 1, true)]) (lv ++ [s.length]) = lvR s lv ++ [mkR s.length 1] := by
  refine ⟨⟨fun i hi => ?_, ?_, by rw [cnt_snoc, List.length_append, h.cn]; simp⟩, ?_⟩
  · rcases List.mem_append.1 hi with hi | hi
    · obtain ⟨x, hx, ht⟩ := h.at' i hi
      exact ⟨x, by rw [List.getElem?_append_left (h.lt i hi)]; exact hx, ht⟩
    · obtain rfl := List.mem_singleton.1 hi
      exact ⟨(v, 1, true), by simp, rfl⟩
  · rw [List.nodup_append]
    exact ⟨h.nd, by simp, fun a ha b hb e => by simp at hb; subst hb; subst e; have := h.lt _ ha; omega⟩
  · unfold lvR
    rw [List.map_append]
    congr 1
    · exact lv_snoc h.lt
    · simp
theorem GnOk.new {s : List Sl} {gn : List (Nat × Nat)} (h : GnOk s gn) (y : Sl) : GnOk (s ++ [y]) gn := fun p hp => by
  obtain ⟨h1, x, hx, h2⟩ := h p hp
  exact ⟨h1, x, by rw [List.getElem?_append_left (List.getElem?_eq_some_iff.1 hx).1]; exact hx, h2⟩
/-- A slot that was free is taken again. -/
theorem LvOk.pop {s : List Sl} {lv : List Nat} (h : LvOk s lv) {i : Nat} {x : Sl} (hx : s[i]? = some x) (hf : x.2.2 = false) (v : Int) :
    LvOk (s.set i (v, x.2.1 + 1, true)) (lv ++ [i]) ∧ lvR (s.set i (v, x.2.1 + 1, true)) (lv ++ [i]) = lvR s lv ++ [mkR i (x.2.1 + 1)] := by
  have hni : i ∉ lv := fun hi => by obtain ⟨y, h1, h2⟩ := h.at' i hi; rw [hx] at h1; cases h1; rw [hf] at h2; cases h2
  obtain ⟨hil, _⟩ := List.getElem?_eq_some_iff.1 hx
  refine ⟨⟨fun j hj => ?_, ?_, ?_⟩, ?_⟩
  · by_cases e : i = j
    · subst e; exact ⟨_, by rw [List.getElem?_set, if_pos rfl, if_pos hil], rfl⟩
    · rcases List.mem_append.1 hj with hj | hj
      · obtain ⟨y, hy, ht⟩ := h.at' j hj
        exact ⟨y, by rw [List.getElem?_set, if_neg e]; exact hy, ht⟩
      · exact absurd (List.mem_singleton.1 hj).symm e
  · rw [List.nodup_append]
    exact ⟨h.nd, by simp, fun a ha b hb e => by simp at hb; subst hb; subst e; exact hni ha⟩
  · have h3 := cnt_set (y := (v, x.2.1 + 1, true)) hx
    rw [hf] at h3
    rw [List.length_append, h.cn]; simp at h3 ⊢; omega
  · have := lv_set (s := s) (y := (v, x.2.1 + 1, true)) hni
    unfold lvR at this ⊢
    rw [List.map_append, this]
    congr 1
    simp [hil]
theorem GnOk.pop {s : List Sl} {gn : List (Nat × Nat)} (h : GnOk s gn) {i : Nat} {x : Sl} (hx : s[i]? = some x) (v : Int) : GnOk (s.set i (v, x.2.1 + 1, true)) gn := fun p hp => by
  obtain ⟨h1, y, hy, h2⟩ := h p hp
  obtain ⟨hil, _⟩ := List.getElem?_eq_some_iff.1 hx
  by_cases e : i = p.1
  · rw [← e] at hy; rw [hx] at hy; cases hy
    exact ⟨h1, (v, x.2.1 + 1, true), by rw [← e, List.getElem?_set, if_pos rfl, if_pos hil], .inl (by simp; omega)⟩
  · exact ⟨h1, y, by rw [List.getElem?_set, if_neg e]; exact hy, h2⟩
/-- One of the live ones is freed. -/
theorem LvOk.put {s : List Sl} {lv : List Nat} (h : LvOk s lv) {k i : Nat} (hk : lv[k]? = some i) {x : Sl} (hx : s[i]? = some x) (ht : x.2.2 = true) :
    LvOk (s.set i (0, x.2.1, false)) (lv.take k ++ lv.drop (k + 1)) ∧ lvR (s.set i (0, x.2.1, false)) (lv.take k ++ lv.drop (k + 1)) = (lvR s lv).take k ++ (lvR s lv).drop (k + 1) := by
  obtain ⟨hkl, he⟩ := List.getElem?_eq_some_iff.1 hk
  obtain ⟨hil, _⟩ := List.getElem?_eq_some_iff.1 hx
  have hsp : lv = lv.take k ++ i :: lv.drop (k + 1) := by rw [← he, List.getElem_cons_drop, List.take_append_drop]
  have hnd := h.nd
  rw [hsp] at hnd
  have hnd2 := List.nodup_append.1 hnd
  have hnd3 := List.nodup_cons.1 hnd2.2.1
  have hni : i ∉ lv.take k ++ lv.drop (k + 1) := fun hi => by
    rcases List.mem_append.1 hi with hi | hi
    · exact hnd2.2.2 i hi i (List.mem_cons_self ..) rfl
    · exact hnd3.1 hi
  have hsub : ∀ j ∈ lv.take k ++ lv.drop (k + 1), j ∈ lv := fun j hj => by
    rcases List.mem_append.1 hj with hj | hj
    · exact List.mem_of_mem_take hj
    · exact List.mem_of_mem_drop hj
  refine ⟨⟨fun j hj => ?_, ?_, ?_⟩, ?_⟩
  · obtain ⟨y, hy, hyt⟩ := h.at' j (hsub j hj)
    exact ⟨y, by rw [List.getElem?_set, if_neg (fun e => hni (by rw [e]; exact hj))]; exact hy, hyt⟩
  · rw [List.nodup_append]
    exact ⟨hnd2.1, hnd3.2, fun a ha b hb => hnd2.2.2 a ha b (List.mem_cons_of_mem _ hb)⟩
  · have h3 := cnt_set (y := (0, x.2.1, false)) hx
    rw [ht] at h3
    have h4 := h.cn
    simp at h3 ⊢; omega
  · rw [lv_set hni]
    unfold lvR
    rw [List.map_append, List.map_take, List.map_drop]
theorem GnOk.put {s : List Sl} {gn : List (Nat × Nat)} (h : GnOk s gn) {i : Nat} {x : Sl} (hx : s[i]? = some x) (h1 : 1 ≤ x.2.1) : GnOk (s.set i (0, x.2.1, false)) (gn ++ [(i, x.2.1)]) := fun p hp => by
  obtain ⟨hil, _⟩ := List.getElem?_eq_some_iff.1 hx
  by_cases e : i = p.1
  · rcases List.mem_append.1 hp with hp | hp
    · obtain ⟨q1, y, hy, h2⟩ := h p hp
      rw [← e, hx] at hy; cases hy
      refine ⟨q1, (0, x.2.1, false), by rw [← e, List.getElem?_set, if_pos rfl, if_pos hil], ?_⟩
      rcases h2 with h2 | ⟨h2, _⟩
      · exact .inl h2
      · exact .inr ⟨h2, rfl⟩
    · obtain rfl := List.mem_singleton.1 hp
      exact ⟨h1, (0, x.2.1, false), by simp [hil], .inr ⟨rfl, rfl⟩⟩
  · rcases List.mem_append.1 hp with hp | hp
    · obtain ⟨q1, y, hy, h2⟩ := h p hp
      exact ⟨q1, y, by rw [List.getElem?_set, if_neg e]; exact hy, h2⟩
    · obtain rfl := List.mem_singleton.1 hp
      exact absurd rfl e
theorem lv_at {s : List Sl} {lv : List Nat} {k i : Nat} {x : Sl} (hk : lv[k]? = some i) (hx : s[i]? = some x) : (lvR s lv)[k]? = some (mkR i x.2.1) := by simp [lvR, hk, hx]
theorem lvR_len (s : List Sl) (lv : List Nat) : (lvR s lv).length = lv.length := by simp [lvR]
theorem gn_at {gn : List (Nat × Nat)} {k : Nat} {p : Nat × Nat} (h : gn[k]? = some p) : (gnR gn)[k]? = some (mkR p.1 p.2) := by simp [gnR, h]
theorem gnR_len (gn : List (Nat × Nat)) : (gnR gn).length = gn.length := by simp [gnR]
theorem gnR_snoc {gn : List (Nat × Nat)} {i c : Nat} : gnR gn ++ [mkR i c] = gnR (gn ++ [(i, c)]) := by simp [gnR]
/-- Two live references have not one slot. -/
theorem lv_ne {n c : Nat} {s : List Sl} {fr lv : List Nat} (hv : Inv n c s fr) (hn : n ≤ 1000) (h : LvOk s lv) {k j : Nat} (hjk : j < k) {a b : Nat} (hk : lv[k]? = some a) (hj : lv[j]? = some b) {x y : Nat} : (mkR b y).tmod 1024 ≠ (mkR a x).tmod 1024 := by
  have ha := h.lt a (List.mem_of_getElem? hk)
  have hb := h.lt b (List.mem_of_getElem? hj)
  have := hv.len
  rw [mkR_mod (by omega), mkR_mod (by omega)]
  obtain ⟨hkl, e1⟩ := List.getElem?_eq_some_iff.1 hk
  obtain ⟨hjl, e2⟩ := List.getElem?_eq_some_iff.1 hj
  have hne : lv[j] ≠ lv[k] := List.pairwise_iff_getElem.1 h.nd j k hjl hkl hjk
  rw [e1, e2] at hne
  omega
end Go.Proofs.Ytjaohiakpajgkaa.Sim
