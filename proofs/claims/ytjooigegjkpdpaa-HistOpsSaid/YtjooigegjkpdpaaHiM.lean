/- Histories: the library's sort of an own row of numbers. -/
import Derived.Test.YtjooigegjkpdpaaAc32
import Derived.Shelf.Sort.Plain
import Derived.Shelf.Slices.In.SortNone
namespace Go.Proofs.Ytjooigegjkpdpaa.Sim
open Go.RowKit Go.Shelf Go.Sort
set_option linter.unusedSimpArgs false
set_option linter.unusedVariables false
def renS : Ren :=
{ f := fun x => match x with | 189 => 25 | 125 => 29 | 257 => 28 | 128 => 40 | 129 => 41 | 294 => 31 | 295 => 32 | 296 => 33 | 297 => 34 | 298 => 35 | 299 => 36 | 216 => 37 | 300 => 38 | 301 => 39 | 328 => 42 | 329 => 43 | 330 => 44 | 331 => 45 | 332 => 46 | 215 => 47 | 343 => 48 | n => n,
  t := fun x => match x with | 28 => 29 | 3 => 3 | 46 => 68 | 0 => 0 | 51 => 78 | 53 => 80 | 4 => 4 | 183 => 71 | 182 => 70 | 131 => 65 | 5 => 5 | 9 => 9 | 218 => 81 | 222 => 85 | 228 => 88 | 229 => 89 | n => n,
  g := fun n => n }
theorem laysS : Lays.n189 Try.prog renS :=
{ mixed := Eq.refl true, f125 := Eq.trans Try.func29 (congrArg some (Eq.refl (Body.n125 renS))),
  f128 := Eq.trans Try.func40 (congrArg some (Eq.refl (Body.n128 renS))),
  f129 := Eq.trans Try.func41 (congrArg some (Eq.refl (Body.n129 renS))),
  f189 := Eq.trans Try.func25 (congrArg some (Eq.refl (Body.n189 renS))),
  f215 := Eq.trans Try.func47 (congrArg some (Eq.refl (Body.n215 renS))),
  f216 := Eq.trans Try.func37 (congrArg some (Eq.refl (Body.n216 renS))),
  f257 := Eq.trans Try.func28 (congrArg some (Eq.refl (Body.n257 renS))),
  f294 := Eq.trans Try.func31 (congrArg some (Eq.refl (Body.n294 renS))),
  f295 := Eq.trans Try.func32 (congrArg some (Eq.refl (Body.n295 renS))),
  f296 := Eq.trans Try.func33 (congrArg some (Eq.refl (Body.n296 renS))),
  f297 := Eq.trans Try.func34 (congrArg some (Eq.refl (Body.n297 renS))),
  f298 := Eq.trans Try.func35 (congrArg some (Eq.refl (Body.n298 renS))),
  f299 := Eq.trans Try.func36 (congrArg some (Eq.refl (Body.n299 renS))),
  f300 := Eq.trans Try.func38 (congrArg some (Eq.refl (Body.n300 renS))),
  f301 := Eq.trans Try.func39 (congrArg some (Eq.refl (Body.n301 renS))),
  f328 := Eq.trans Try.func42 (congrArg some (Eq.refl (Body.n328 renS))),
  f329 := Eq.trans Try.func43 (congrArg some (Eq.refl (Body.n329 renS))),
  f330 := Eq.trans Try.func44 (congrArg some (Eq.refl (Body.n330 renS))),
  f331 := Eq.trans Try.func45 (congrArg some (Eq.refl (Body.n331 renS))),
  f332 := Eq.trans Try.func46 (congrArg some (Eq.refl (Body.n332 renS))),
  f343 := Eq.trans Try.func48 (congrArg some (Eq.refl (Body.n343 renS))), t0 := Try.underlying0,
  a0 := Try.isAgg0, z0 := Try.sizeOf0, v0 := Try.zeroValue0, t3 := Try.underlying3, a3 := Try.isAgg3, z3 := Try.sizeOf3,
  v3 := Try.zeroValue3, t4 := Try.underlying4, a4 := Try.isAgg4, z4 := Try.sizeOf4, v4 := Try.zeroValue4,
  t5 := Try.underlying5, a5 := Try.isAgg5, z5 := Try.sizeOf5, v5 := Try.zeroValue5, t9 := Try.underlying9,
  a9 := Try.isAgg9, z9 := Try.sizeOf9, v9 := Try.zeroValue9, t28 := Try.underlying29, a28 := Try.isAgg29,
  z28 := Try.sizeOf29, v28 := Try.zeroValue29, t46 := Try.underlying68, a46 := Try.isAgg68, z46 := Try.sizeOf68,
  v46 := Try.zeroValue68, t51 := Try.underlying78, a51 := Try.isAgg78, z51 := Try.sizeOf78, v51 := Try.zeroValue78,
  t53 := Try.underlying80, a53 := Try.isAgg80, z53 := Try.sizeOf80, v53 := Try.zeroValue80, t131 := Try.underlying65,
  a131 := Try.isAgg65, z131 := Try.sizeOf65, v131 := Try.zeroValue65, t182 := Try.underlying70, a182 := Try.isAgg70,
  z182 := Try.sizeOf70, v182 := Try.zeroValue70, t183 := Try.underlying71, a183 := Try.isAgg71, z183 := Try.sizeOf71,
  v183 := Try.zeroValue71, t218 := Try.underlying81, a218 := Try.isAgg81, z218 := Try.sizeOf81, v218 := Try.zeroValue81,
  t222 := Try.underlying85, a222 := Try.isAgg85, z222 := Try.sizeOf85, v222 := Try.zeroValue85,
  t228 := Try.underlying88, a228 := Try.isAgg88, z228 := Try.sizeOf88, v228 := Try.zeroValue88,
  t229 := Try.underlying89, a229 := Try.isAgg89, z229 := Try.sizeOf89, v229 := Try.zeroValue89 }
theorem mapBlock_setRow (w : World) (b : Nat) (f : Array Value → Array Value) {c : Array Value} {e : TypeId} {fr : Nat × Nat} (h : w.heap[b]? = some (.cells c e fr)) : mapBlock w b f = w.setRow b (f c) := by
  unfold mapBlock World.setRow
  congr 1
  apply Array.ext_getElem?
  intro k
  simp only [Array.getElem?_modify]
  by_cases hk : b = k
  · subst hk
    simp only [if_true, h, Option.map_some, onCells]
  · simp [hk]
def lei (x y : Int) : Bool := decide (x ≤ y)
def srt (zs : List Int) : List Int := zs.mergeSort fun x y => decide (x ≤ y)
theorem srt_len (zs : List Int) : (srt zs).length = zs.length := List.length_mergeSort zs
theorem sort25 (G : Nat → AV) (H : Hp) (i g : Nat) (zs : List Int) (hi : H[i]? = some ⟨3, 1, zs.map (fun z => I z), g, 0⟩) (hn : zs.length ≤ 1000000) :
    HC Try.prog G 25 [.ol i g zs.length] H (.tup []) (H.set i ⟨3, 1, (srt zs).map (fun z => I z), g, 0⟩) := by
  intro B w0 F0 F O w xs hO hG hl hv
  obtain ⟨x0, rfl⟩ : ∃ x0, xs = [x0] := by
    match xs, hl with
    | [x0], _ => exact ⟨x0, rfl⟩
  have v0 := hv 0 x0 _ rfl rfl
  have hlv : Sim.live H i g = some ⟨3, 1, zs.map (fun z => I z), g, 0⟩ := by
    simp [Sim.live, hi]
  obtain ⟨d, hd, hi', r, hnC, rfl⟩ := hO.ol v0 hlv
  have ne : (3 : TypeId) ≠ mapE := by decide
  obtain ⟨cur, hcur, hsz, hcc⟩ := r.curc ne
  dsimp only at hcur hsz hcc
  have cc : ∀ (j : Nat) (z : Int), zs[j]? = some z → cur[j]? = some (.int .i64 z) := fun j z hz => by
    obtain ⟨c, g1, g2⟩ := hcc j 0 (I z) (I z) (by simp [hz]) rfl
    cases g2 with
    | p h => cases h; simpa using g1
  have hH : Holds (Value.int .i64) w d.b 0 zs.toArray := fun j hj => by
    have hj' : j < zs.length := by simpa using hj
    have q := cc j zs[j] (List.getElem?_eq_getElem hj')
    constructor
    · have e : zs.toArray[j]! = zs[j] := by rw [getElem!_pos zs.toArray j hj]; simp
      rw [e]
      simp only [World.cell?, hcur, Nat.zero_add]
      exact q
    · simp [World.frozen?, hcur]
  have hblk : d.b < w.heap.size := (Array.getElem?_eq_some_iff.1 hcur).1
  refine (Any.slices_Sort_int laysS d.b 0 d.C zs w hH hblk (by omega)).mono ?_
  rintro e w' ⟨rfl, n, os, rfl⟩
  have hO1 : Own B w0 F0 F O H (Go.Sort.ahead w n) := hO.keep ⟨rfl, rfl, rfl, Nat.le_refl _, fun _ _ => rfl⟩
  have eR : putRow (Value.int .i64) (Go.Sort.ahead w n) d.b 0 (srt zs).toArray = (Go.Sort.ahead w n).setRow d.b (putCells (Value.int .i64) 0 (srt zs).toArray cur) := mapBlock_setRow _ _ _ (show (Go.Sort.ahead w n).heap[d.b]? = _ from hcur)
  have sl := srt_len zs
  obtain ⟨q1, q2⟩ := hO1.write (i := i) (ob := ⟨3, 1, zs.map (fun z => I z), g, 0⟩) (d := d) hi' ne hd (new := putCells (Value.int .i64) 0 (srt zs).toArray cur) (g' := g) (es' := (srt zs).map (fun z => I z)) (Nat.le_refl _) (by simpa [sl] using hnC) (by simp only [putCells, Array.size_mapIdx]; exact hsz)
    (fun x hx => by obtain ⟨z, _, rfl⟩ := List.mem_map.1 hx; rfl) (fun x hx a ha => by obtain ⟨z, _, rfl⟩ := List.mem_map.1 hx; simp [AV.cells] at ha; subst ha; rfl) (Nat.zero_le _)
    (fun p q x u hx hu => by
      rw [List.getElem?_map] at hx
      obtain ⟨z, hz, rfl⟩ := Option.map_eq_some_iff.1 hx
      have hq : q = 0 ∧ u = I z := by
        cases q with
        | zero => exact ⟨rfl, by simpa [AV.cells] using hu.symm⟩
        | succ q => simp [AV.cells] at hu
      obtain ⟨rfl, rfl⟩ := hq
      have hp : p < (srt zs).length := (List.getElem?_eq_some_iff.1 hz).1
      obtain ⟨y, hy⟩ : ∃ y, zs[p]? = some y := ⟨zs[p]'(by omega), List.getElem?_eq_getElem (by omega)⟩
      refine ⟨.int .i64 z, ?_, .p (.v _ rfl)⟩
      have e : (srt zs).toArray[p]! = z := by
        rw [getElem!_pos (srt zs).toArray p (by simpa using hp)]
        have := (List.getElem?_eq_some_iff.1 hz).2
        simpa using this
      simp only [putCells, Array.getElem?_mapIdx, Nat.mul_one, Nat.add_zero, cc p y hy, Option.map_some, Nat.sub_zero, e]
      rw [if_pos ⟨Nat.zero_le _, by simpa using hp⟩])
    (fun o u hu => by
      have := r.hf o u hu
      dsimp only at this
      omega)
  have hd' : (O.set i ⟨d.b, d.C, g, d.k⟩)[i]? = some ⟨d.b, d.C, g, d.k⟩ := by
    rw [List.getElem?_set_self (List.getElem?_eq_some_iff.1 hd).1]
  rw [show (putRow (Value.int .i64) (Go.Sort.ahead w n) d.b 0 (zs.mergeSort fun x y => decide (x ≤ y)).toArray) = _ from eR]
  refine ⟨_, rfl, F, _, .tup [] [] rfl (fun i c a hc _ => by simp at hc), q1.keep ⟨rfl, rfl, rfl, by rw [size_grow]; exact Nat.le_add_right _ _, fun k hk => heap_grow_old _ _ hk⟩, Fz.le_refl F, q2⟩
/-- .. of no numbers. -/
theorem sort25n (G : Nat → AV) (H : Hp) : HC Try.prog G 25 [.nl 1] H (.tup []) H := by
  intro B w0 F0 F O w xs hO hG hl hv
  obtain ⟨x0, rfl⟩ : ∃ x0, xs = [x0] := by
    match xs, hl with
    | [x0], _ => exact ⟨x0, rfl⟩
  have v0 := hv 0 x0 _ rfl rfl
  obtain rfl : x0 = .slice none 0 0 := by
    cases v0 with
    | p h => cases h
    | nl k => rfl
  refine (Any.slices_Sort_int_none laysS none 0 w).mono ?_
  rintro e w' ⟨rfl, rfl⟩
  exact ⟨_, rfl, F, O, .tup [] [] rfl (fun i c a hc _ => by simp at hc), hO, Fz.le_refl F, Ow.le_refl O⟩
end Go.Proofs.Ytjooigegjkpdpaa.Sim
