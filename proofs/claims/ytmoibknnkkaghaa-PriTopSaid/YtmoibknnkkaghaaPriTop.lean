/- The text above all. -/
import Derived.Test.YtmoibknnkkaghaaPri
import Derived.Test.YtmoibknnkkaghaaMem
namespace Go.Proofs.Ytmoibknnkkaghaa.Pri
open Go.RowKit
open Go.Proofs.Ytmoibknnkkaghaa.Hash (fnv fnv_lt I64 cl)
open Go.Proofs.Ytmoibknnkkaghaa.Ord (cmp less)
set_option linter.unusedVariables false

def topF : ByteArray → List ByteArray → ByteArray
  | t, [] => t
  | t, s :: l => topF (if abv s t then s else t) l
def topOf : List ByteArray → ByteArray × Bool
  | [] => (⟨#[]⟩, false)
  | t :: l => (topF t l, true)
/-- A row of texts. -/
def sv (l : List ByteArray) : List Value := l.map Value.string
theorem sv_len (l : List ByteArray) : (sv l).length = l.length := by simp [sv]
theorem sv_at (l : List ByteArray) (k : Nat) (h : k < l.length) : (sv l)[k]'(by simpa [sv] using h) = .string l[k] := by simp [sv]

set_option maxHeartbeats 1000000 in
theorem Top_calls (A : Option Addr) (cap : Nat) (l : List ByteArray) (w : World) (hr : Rd w w.heap.size A (sv l)) (hl : l.length ≤ cap) (hc : cap ≤ maxLen) (hn : l.length ≤ 1000) (hs : ∀ s ∈ l, s.size ≤ 100000) :
    Calls Try.prog 12 #[.slice A l.length cap] w (Quiet (.tuple #[.string (topOf l).1, .bool (topOf l).2]) w) := by
  unfold maxLen at hc
  rcases l with _ | ⟨t, l⟩
  · go_enter Try.func12, Try.ntmps12
    go_wp2_with fail
    go_ret2
    exact ⟨rfl, Drawn.refl _⟩
  · obtain ⟨b, off, rfl, hb0, hc0⟩ := hr.spot (by simp [sv])
    have hc1 : w.cell? ⟨b, off, none⟩ = some (.string t) := hc0 0 (by simp [sv])
    have hc2 : ∀ (k : Nat) (hk : k < l.length), w.cell? ⟨b, off + 1 + k, none⟩ = some (.string l[k]) := fun k hk => by
      have := hc0 (k + 1) (by simp [sv]; omega)
      rw [show off + (k + 1) = off + 1 + k by omega] at this
      rw [this]; simp [sv]
    have k1 := fun w => Lib.hid (Of_calls t w (hs t (by simp)))
    have g0 : (0 : Int) < (l.length : Int) + 1 := by omega
    have g1 : ((l.length : Int) + 1 == 0) = false := by simp; omega
    clear hc0
    go_enter Try.func12, Try.ntmps12
    go_wp2_with fail
    go_quiet ((go_at_call 7; exact quiet_one (k1 _).out))
    by_cases hcap : cap = 1
    · have hl0 : l = [] := List.eq_nil_of_length_eq_zero (by simp at hl; omega)
      subst hl0
      subst hcap
      go_wp2_with fail
      refine wp_loop_rounds 1 ?_
      rw [rounds_succ]
      go_wp2_with fail
      go_ret2
      exact ⟨rfl, ⟨_, rfl⟩⟩
    · have HC := Lib.hid hc2
      clear hc2
      have hl2 : l.length ≤ 999 := by simp at hn; omega
      have hs2 : ∀ s ∈ l, s.size ≤ 100000 := fun s hm => hs s (by simp [hm])
      have ht2 : t.size ≤ 100000 := hs t (by simp)
      have hl3 : l.length + 1 ≤ cap := by simpa using hl
      have ht : Hid (topOf (t :: l) = (topF t l, true)) := hide rfl
      generalize topOf (t :: l) = m at *
      clear hr hs hn hl
      go_wp2_with fail
      go_loopw [4, 5, 22] (fun a b i wr => ∃ (k : Nat) (T : ByteArray), i = .int .i64 (k : Int) ∧ a = .string T ∧ b = .int .u64 ((prio (fnv T.data.toList) : Nat) : Int) ∧ k ≤ l.length ∧ T.size ≤ 100000 ∧ Hid (topF t l = topF T (l.drop k)) ∧ Drawn w wr) (fun _ _ i _ => l.length - (intOf i).toNat)
      case atStart => exact ⟨0, t, rfl, rfl, rfl, by omega, ht2, hide rfl, _, rfl⟩
      case round =>
        obtain ⟨k, T, rfl, rfl, rfl, hk, hT, HT, q, rfl⟩ := hrel
        by_cases hlt : k < l.length
        · have hc2 := HC.out k hlt
          have g3 : (k : Int) < (l.length : Int) := by omega
          have hss := hs2 l[k] (List.getElem_mem hlt)
          have hstep : topF T (l.drop k) = topF (if abv l[k] T then l[k] else T) (l.drop (k + 1)) := by
            rw [List.drop_eq_getElem_cons hlt, topF]
          have HS := Lib.hid (HT.out.trans hstep)
          have k2 := fun w => Lib.hid (Of_calls l[k] w hss)
          have hm1 : ∀ s : ByteArray, s.size ≤ 100000 → s.size ≤ maxLen := fun s h => by simp only [maxLen]; omega
          have k3 : ∀ w, Hid (Calls Try.prog 18 #[.int .u64 ((prio (fnv l[k].data.toList) : Nat) : Int), .string l[k], .int .u64 ((prio (fnv T.data.toList) : Nat) : Int), .string T] w (Quiet (.bool (abv l[k] T)) w)) := fun w => hide (above_calls _ _ _ _ w (hm1 _ hss) (hm1 _ hT) (prio_lt _) (prio_lt _))
          clear hm1 hstep HT
          generalize hv : abv l[k] T = v at *
          clear hv
          generalize l[k] = x at *
          cases v
          · have HS2 : Hid (topF t l = topF T (l.drop (k + 1))) := HS
            clear HS
            go_wp2_with (first | (go_at_call 7; (with_reducible refine (k2 _).out.mono ?_); rintro e w' ⟨rfl, q, rfl⟩) | (go_at_call 18; (with_reducible refine (k3 _).out.mono ?_); rintro e w' ⟨rfl, q, rfl⟩))
            go_roundw
            case rel => exact ⟨k + 1, T, by go_num, rfl, rfl, by omega, hT, HS2, _, rfl⟩
            case measure => simp [intOf]; omega
          · have HS2 : Hid (topF t l = topF x (l.drop (k + 1))) := HS
            clear HS
            go_wp2_with (first | (go_at_call 7; (with_reducible refine (k2 _).out.mono ?_); rintro e w' ⟨rfl, q, rfl⟩) | (go_at_call 18; (with_reducible refine (k3 _).out.mono ?_); rintro e w' ⟨rfl, q, rfl⟩))
            go_roundw
            case rel => exact ⟨k + 1, x, by go_num, rfl, rfl, by omega, hss, HS2, _, rfl⟩
            case measure => simp [intOf]; omega
        · have HE : Hid (m = (T, true)) := hide (by
            rw [ht.out, HT.out, List.drop_of_length_le (by omega)]; rfl)
          go_wp2_with fail
          go_ret2
          exact ⟨(congrArg (fun p : ByteArray × Bool => Ending.returned (.tuple #[.string p.1, .bool p.2])) HE.out).symm, ⟨_, rfl⟩⟩
end Go.Proofs.Ytmoibknnkkaghaa.Pri
