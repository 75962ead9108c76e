/- The text above all, by the document. -/
import Derived.Test.YtmoibknnkkaghaaPriTop
namespace Go.Proofs.Ytmoibknnkkaghaa.Pri
open Go.RowKit
open Go.Proofs.Ytmoibknnkkaghaa.Hash (fnv fnv_lt I64 cl)
open Go.Proofs.Ytmoibknnkkaghaa.Ord (cmp less ext_list)
set_option linter.unusedVariables false

theorem abv_irrefl (a : ByteArray) : abv a a = false := by
  unfold abv less; rw [Ord.cmp_self]; simp
theorem abv_total (a b : ByteArray) (h : a ≠ b) : abv a b = !abv b a := by
  unfold abv less
  generalize prio (fnv a.data.toList) = x
  generalize prio (fnv b.data.toList) = y
  have hc := Ord.cmp_anti a.data.toList b.data.toList
  have hz : cmp a.data.toList b.data.toList ≠ 0 := fun e => h (ext_list ((Ord.cmp_zero _ _).1 e))
  rw [hc]
  rcases Ord.cmp_cases a.data.toList b.data.toList with e | e | e
  · rw [e]; rw [Bool.eq_iff_iff]; simp; omega
  · exact absurd e hz
  · rw [e]; rw [Bool.eq_iff_iff]; simp; omega
theorem abv_trans (a b c : ByteArray) (h1 : abv a b = true) (h2 : abv b c = true) : abv a c = true := by
  unfold abv less at *
  generalize prio (fnv a.data.toList) = x at *
  generalize prio (fnv b.data.toList) = y at *
  generalize prio (fnv c.data.toList) = z at *
  simp only [Bool.or_eq_true, Bool.and_eq_true, decide_eq_true_eq, beq_iff_eq] at *
  rcases h1 with h1 | ⟨h1, g1⟩
  · rcases h2 with h2 | ⟨h2, g2⟩
    · left; omega
    · left; omega
  · rcases h2 with h2 | ⟨h2, g2⟩
    · left; omega
    · right
      refine ⟨by omega, ?_⟩
      have := (Ord.cmp_trans a.data.toList b.data.toList c.data.toList (by omega) (by omega)).2 (Or.inl (by omega))
      rcases Ord.cmp_cases a.data.toList c.data.toList with e | e | e <;> omega
theorem topF_mem (t : ByteArray) (l : List ByteArray) : topF t l = t ∨ topF t l ∈ l := by
  induction l generalizing t with
  | nil => left; rfl
  | cons s l ih =>
    unfold topF
    by_cases h : abv s t = true
    · rw [if_pos h]
      rcases ih s with e | e
      · right; rw [e]; simp
      · right; simp [e]
    · rw [if_neg h]
      rcases ih t with e | e
      · left; exact e
      · right; simp [e]
theorem topF_top (t : ByteArray) (l : List ByteArray) : abv t (topF t l) = false ∧ ∀ s ∈ l, abv s (topF t l) = false := by
  induction l generalizing t with
  | nil => exact ⟨abv_irrefl t, fun s h => by cases h⟩
  | cons s l ih =>
    unfold topF
    by_cases h : abv s t = true
    · rw [if_pos h]
      obtain ⟨h1, h2⟩ := ih s
      refine ⟨?_, fun u hu => ?_⟩
      · cases h3 : abv t (topF s l)
        · rfl
        · rw [abv_trans s t _ h h3] at h1; cases h1
      · rcases List.mem_cons.1 hu with rfl | hu
        · exact h1
        · exact h2 u hu
    · rw [if_neg h]
      obtain ⟨h1, h2⟩ := ih t
      refine ⟨h1, fun u hu => ?_⟩
      rcases List.mem_cons.1 hu with rfl | hu
      · cases h3 : abv u (topF t l)
        · rfl
        · exfalso
          by_cases e : u = t
          · subst e; rw [h3] at h1; cases h1
          · have h4 : abv t u = true := by
              have := abv_total t u (fun x => e x.symm)
              rw [this]; simpa using h
            rw [abv_trans t u _ h4 h3] at h1; cases h1
      · exact h2 u hu
theorem topOf_unique (l : List ByteArray) (x : ByteArray) (hx : x ∈ l) (h : ∀ s ∈ l, abv s x = false) : topOf l = (x, true) := by
  cases l with
  | nil => cases hx
  | cons t l =>
    show (topF t l, true) = (x, true)
    obtain ⟨h1, h2⟩ := topF_top t l
    have hT : topF t l ∈ t :: l := by
      rcases topF_mem t l with e | e
      · rw [e]; simp
      · simp [e]
    have hxT : abv x (topF t l) = false := by
      rcases List.mem_cons.1 hx with rfl | hx
      · exact h1
      · exact h2 x hx
    by_cases e : x = topF t l
    · rw [← e]
    · have := abv_total x (topF t l) e
      rw [hxT, h _ hT] at this
      cases this
theorem topOf_exists (l : List ByteArray) (hl : l ≠ []) : ∃ j, ∃ h : j < l.length, ∀ s ∈ l, abv s l[j] = false := by
  cases l with
  | nil => exact absurd rfl hl
  | cons t l =>
    obtain ⟨h1, h2⟩ := topF_top t l
    have hT : topF t l ∈ t :: l := by
      rcases topF_mem t l with e | e
      · rw [e]; simp
      · simp [e]
    obtain ⟨j, hj, e⟩ := List.mem_iff_getElem.1 hT
    refine ⟨j, hj, fun s hs => ?_⟩
    rw [e]
    rcases List.mem_cons.1 hs with rfl | hs
    · exact h1
    · exact h2 s hs

/-- T says whether none of the first j texts is above x. -/
def AllBelow (l : List ByteArray) (x : ByteArray) (j : Nat) (T : Bool) : Prop := T = true ↔ ∀ (m : Nat) (hm : m < l.length), m < j → abv l[m] x = false
theorem AllBelow.no {l : List ByteArray} {x : ByteArray} {j : Nat} (h : AllBelow l x j false) : AllBelow l x (j + 1) false :=
  ⟨(fun e => by cases e), fun hh => h.2 (fun m hm hmj => hh m hm (by omega))⟩
theorem AllBelow.next {l : List ByteArray} {x : ByteArray} {j : Nat} (h : AllBelow l x j true) (hj : j < l.length) : AllBelow l x (j + 1) (!abv l[j] x) := by
  constructor
  · intro e m hm hmj
    by_cases em : m = j
    · subst em; simpa using e
    · exact h.1 rfl m hm (by omega)
  · intro hh
    rw [hh j hj (by omega)]; rfl
theorem AllBelow.all {l : List ByteArray} {x : ByteArray} {j : Nat} (h : AllBelow l x j true) (hj : j = l.length) : ∀ s ∈ l, abv s x = false := fun s hs => by
  obtain ⟨m, hm, rfl⟩ := List.mem_iff_getElem.1 hs
  exact h.1 rfl m hm (by omega)
theorem AllBelow.some {l : List ByteArray} {x : ByteArray} {j : Nat} (h : AllBelow l x j false) (hj : j = l.length) : ∃ s ∈ l, abv s x = true := by
  by_cases hh : ∃ s ∈ l, abv s x = true
  · exact hh
  · have := h.2 (fun m hm _ => by
      cases e : abv l[m] x
      · rfl
      · exact absurd ⟨l[m], List.getElem_mem hm, e⟩ hh)
    cases this
set_option maxHeartbeats 1000000 in
theorem RefTop_calls (A : Option Addr) (cap : Nat) (l : List ByteArray) (w : World) (hr : Rd w w.heap.size A (sv l)) (hn : l.length ≤ 1000) (hs : ∀ s ∈ l, s.size ≤ 100000) :
    Calls Try.prog 14 #[.slice A l.length cap] w (Quiet (.tuple #[.string (topOf l).1, .bool (topOf l).2]) w) := by
  go_enter Try.func14, Try.ntmps14
  go_wp2_with fail
  go_loopw [2, 3, 4] (fun a c i wr => ∃ k : Nat, a = .string ⟨#[]⟩ ∧ c = .bool false ∧ i = .int .i64 (k : Int) ∧ k ≤ l.length ∧ Hid (∀ j (hj : j < l.length), j < k → ∃ s ∈ l, abv s l[j] = true) ∧ Drawn w wr) (fun _ _ i _ => l.length - (intOf i).toNat)
  case atStart => exact ⟨0, rfl, rfl, rfl, by omega, hide (fun j _ h => by omega), Drawn.refl _⟩
  case round =>
    obtain ⟨k, rfl, rfl, rfl, hk, HJ, q, rfl⟩ := hrel
    by_cases hlt : k < l.length
    · obtain ⟨b, off, rfl, hb0, hc0⟩ := hr.spot (by intro e; have := congrArg List.length e; simp [sv] at this; subst this; simp at hlt)
      have g3 : (k : Int) < (l.length : Int) := by omega
      have HC : Hid (∀ (k : Nat) (hk : k < l.length), w.cell? ⟨b, off + k, none⟩ = some (.string l[k])) := hide (fun k hk => by
        rw [hc0 k (by simpa [sv] using hk)]; simp [sv])
      have hck := HC.out k hlt
      have hsk := hs l[k] (List.getElem_mem hlt)
      have HK : Hid ((∀ s ∈ l, abv s l[k] = false) → topOf l = (l[k], true)) := hide (fun h => topOf_unique l l[k] (List.getElem_mem hlt) h)
      have HJ2 : Hid ((∃ s ∈ l, abv s l[k] = true) → ∀ j (hj : j < l.length), j < k + 1 → ∃ s ∈ l, abv s l[j] = true) := hide (fun h j hj hjk => by
        by_cases e : j = k
        · subst e; exact h
        · exact HJ.out j hj (by omega))
      clear HJ hc0
      generalize l[k] = x at *
      go_wp2_with fail
      go_loopw [5, 6] (fun t i wr => ∃ (j : Nat) (T : Bool), i = .int .i64 (j : Int) ∧ t = .bool T ∧ j ≤ l.length ∧ Hid (AllBelow l x j T) ∧ Drawn w wr) (fun _ i _ => l.length - (intOf i).toNat)
      case atStart => exact ⟨0, true, rfl, rfl, by omega, hide ⟨fun _ j hj h => by omega, fun _ => rfl⟩, _, rfl⟩
      case round =>
        obtain ⟨j, T, rfl, rfl, hj, HT, q, rfl⟩ := hrel
        by_cases hjl : j < l.length
        · have g4 : (j : Int) < (l.length : Int) := by omega
          have hcj := HC.out j hjl
          have hsj := hs l[j] (List.getElem_mem hjl)
          cases T
          · have HT2 : Hid (AllBelow l x (j + 1) false) := hide (HT.out.no)
            go_wp2_with fail
            go_quiet (fail)
            go_wp2_with fail
            go_roundw
            case rel => exact ⟨j + 1, false, by go_num, rfl, by omega, HT2, _, rfl⟩
            case measure => simp [intOf]; omega
          · have HT2 : Hid (AllBelow l x (j + 1) (!abv l[j] x)) := hide (HT.out.next hjl)
            have kab := fun w => Lib.hid (RefAbove_calls l[j] x w hsj hsk)
            generalize abv l[j] x = v at *
            generalize l[j] = y at *
            go_wp2_with fail
            go_quiet ((go_at_call 10; first | exact quiet_one (kab _).out | exact quiet_add (kab _).out))
            go_wp2_with fail
            go_roundw
            case rel => exact ⟨j + 1, !v, by go_num, rfl, by omega, HT2, _, rfl⟩
            case measure => simp [intOf]; omega
        · have e : j = l.length := by omega
          cases T
          · have HJ3 := Lib.hid (HJ2.out (HT.out.some e))
            go_wp2_with fail
            go_roundw
            case rel => exact ⟨k + 1, rfl, rfl, by go_num, by omega, HJ3, _, rfl⟩
            case measure => simp [intOf]; omega
          · have HE := Lib.hid (HK.out (HT.out.all e))
            go_wp2_with fail
            go_ret2
            exact ⟨(congrArg (fun p : ByteArray × Bool => Ending.returned (.tuple #[.string p.1, .bool p.2])) HE.out).symm, ⟨_, rfl⟩⟩
    · have HE : Hid (topOf l = (⟨#[]⟩, false)) := hide (by
        by_cases e : l = []
        · rw [e]; rfl
        · exfalso
          obtain ⟨j, hj, h⟩ := topOf_exists l e
          obtain ⟨s, hsm, h2⟩ := HJ.out j hj (by omega)
          rw [h s hsm] at h2
          cases h2)
      go_wp2_with fail
      go_ret2
      exact ⟨(congrArg (fun p : ByteArray × Bool => Ending.returned (.tuple #[.string p.1, .bool p.2])) HE.out).symm, ⟨_, rfl⟩⟩
theorem string_info : (Try.prog.info? 9).map (fun i => (i.zero, i.size, i.bytes)) = some (some (.string ⟨#[]⟩), 1, 16) := by kernel_rfl
set_option maxHeartbeats 800000 in
theorem Texts_calls (A : Option Addr) (cap : Nat) (l : List ByteArray) (w : World) (hr : Rd w w.heap.size A (sv l)) (hl : l.length ≤ 1000) :
    Calls Try.prog 13 #[.slice A l.length cap] w fun e w' => ∃ v, e = .returned v ∧ w'.ownsRow w.heap.size 9 1 v l.length (sv l) ∧ Below w.heap.size w w' := by
  obtain ⟨i0, hi0, hz0, hz1, hz2⟩ := info_parts string_info
  have h63 : 0 + l.length ≤ maxLen := by simp only [maxLen]; omega
  have h64 : (0 + l.length) * 16 ≤ 140737488355328 := by omega
  have own0 := World.ownsRow_made (base := w.heap.size) (e := 9) (size := 1) w #[] 0 (Nat.le_refl _) (by simp) rfl
  have hr1 := hr.alloc (Nat.le_refl _) (.cells #[] 9)
  have hb0 : Below w.heap.size w (w.alloc (.cells #[] 9)) := (Below.refl _ _).alloc (Nat.le_refl _) _
  have h1 : ∀ u ∈ sv l, u.oneCell' = true := fun u hu => by
    obtain ⟨s, _, rfl⟩ := List.mem_map.1 hu
    rfl
  go_enter Try.func13, Try.ntmps13
  go_wp2_with (at_builtin; refine append_rd _ rfl (.tmp 3) (.tmp 4) 27 rfl w.heap.size 9 i0 _ 1 16 Try.underlying27 hi0 hz0 hz1 hz2 rfl (by omega) (.slice (some ⟨w.heap.size, 0, none⟩) 0 0) 0 [] rfl own0 w.heap.size A l.length cap (sv l) rfl (by simp [sv]) hr1 h1 h63 h64 (by simp) ?_; intro v1 w1 hown1 hg1 hat1)
  go_ret
  refine ⟨v1, rfl, by simpa using hown1, hb0.grown hg1 (by simp) (fun k hk => by simp [Value.ownBlock] at hk; omega)⟩
end Go.Proofs.Ytmoibknnkkaghaa.Pri
