/- The law PriTop. -/
import Derived.Test.YtmoibknnkkaghaaLaw05
import Derived.Deep.LoopGhost
namespace Go.Proofs.Ytmoibknnkkaghaa.Pri
open Go.RowKit
open Go.Proofs.Ytmoibknnkkaghaa.Hash (fnv fnv_lt I64 cl)
open Go.Proofs.Ytmoibknnkkaghaa.Ord (cmp less ext_list)
set_option linter.unusedVariables false

/-- The first k texts, cut. -/
def cuts (l : List ByteArray) (k : Nat) : List ByteArray := (l.take k).map fun s => s.extract 0 100
theorem cuts_len (l : List ByteArray) (k : Nat) (h : k ≤ l.length) : (cuts l k).length = k := by simp [cuts]; omega
theorem cuts_succ (l : List ByteArray) (k : Nat) (h : k < l.length) : cuts l (k + 1) = cuts l k ++ [l[k].extract 0 100] := by
  unfold cuts; rw [List.take_succ_eq_append_getElem h, List.map_append]; rfl
theorem cuts_size (l : List ByteArray) (k : Nat) : ∀ s ∈ cuts l k, s.size ≤ 100000 := fun s hs => by
  obtain ⟨t, _, rfl⟩ := List.mem_map.1 hs
  have := cut_size t 100
  omega
set_option maxHeartbeats 1600000 in
theorem PriTop_calls (A : Option Addr) (cap : Nat) (l : List ByteArray) (w : World) (hs : ∀ s ∈ l, s.size ≤ maxLen) (hr : Rd w w.heap.size A (sv l)) (hl : l.length ≤ cap) (hc : cap ≤ maxLen) :
    Calls Try.prog 4 #[.slice A l.length cap] w fun e w' => e = .returned (.bool true) ∧ Below w.heap.size w w' := by
  obtain ⟨i0, hi0, hz0, hz1, hz2⟩ := info_parts string_info
  unfold maxLen at hc
  go_enter Try.func4, Try.ntmps4
  go_wp2_with fail
  go_loopw [3, 4] (fun v i wr => ∃ k : Nat, i = .int .i64 (k : Int) ∧ k ≤ l.length ∧ k ≤ 30 ∧ wr.ownsRow w.heap.size 9 1 v k (sv (cuts l k)) ∧ Below w.heap.size w wr) (fun _ i _ => l.length - (intOf i).toNat)
  case atStart => exact ⟨0, rfl, by omega, by omega, World.ownsRow_made w #[] 0 (Nat.le_refl _) (by simp) rfl, (Below.refl _ _).alloc (Nat.le_refl _) _⟩
  case round =>
    obtain ⟨k, rfl, hk, hk3, hown, hbel⟩ := hrel
    by_cases hlt : k < l.length ∧ k < 30
    · obtain ⟨hlt1, hlt2⟩ := hlt
      have g1 : (k : Int) < (l.length : Int) := by omega
      have g2 : (k : Int) < 30 := by omega
      obtain ⟨b, off, rfl, hb0, hc0⟩ := (hr.below hbel).spot (by intro e; have := congrArg List.length e; simp [sv] at this; subst this; simp at hlt1)
      have hck := hc0 k (by simpa [sv] using hlt1)
      rw [sv_at l k hlt1] at hck
      have HCS := Lib.hid (congrArg sv (cuts_succ l k hlt1))
      have kc := fun w => Lib.hid (Cut1_calls l[k] w (hs _ (List.getElem_mem hlt1)))
      clear hc0
      generalize l[k].extract 0 100 = y at *
      generalize l[k] = x at *
      go_wp2_with fail
      refine (kc _).out.mono ?_
      rintro e w' ⟨rfl, q, rfl⟩
      have hown0 : (wr.drewN q).ownsRow w.heap.size 9 1 u3 k (sv (cuts l k)) := hown
      have hown1 := hown0.alloc (.cells #[.string y] 9)
      have hnew := Rd.own (World.ownsRow_lit (base := w.heap.size) (e := 9) (size := 1) (wr.drewN q) #[.string y] 1 hbel.size (by decide) rfl)
      have hbel1 : Below w.heap.size w ((wr.drewN q).alloc (.cells #[.string y] 9)) := (hbel.trans (Drawn.below' ⟨q, rfl⟩)).alloc hbel.size _
      have h1 : ∀ u ∈ (#[Value.string y] : Array Value).toList, u.oneCell' = true := fun u hu => by
        rcases List.mem_cons.1 hu with rfl | hu
        · rfl
        · cases hu
      have h63 : k + 1 ≤ maxLen := by simp only [maxLen]; omega
      have h64 : (k + 1) * 16 ≤ 140737488355328 := by omega
      have hbase : w.heap.size ≤ ((wr.drewN q).alloc (.cells #[.string y] 9)).heap.size := hbel1.size
      have hblk : ∀ n, u3.ownBlock = some n → w.heap.size ≤ n := fun n hn => (hown.lt n hn).1
      go_wp2_with (at_builtin; refine append_rd _ rfl (.tmp 20) (.tmp 26) 27 rfl w.heap.size 9 i0 _ 1 16 Try.underlying27 hi0 hz0 hz1 hz2 rfl (by omega) u3 k (sv (cuts l k)) rfl hown1 _ (some ⟨wr.heap.size, 0, none⟩) 1 1 _ rfl rfl hnew h1 h63 h64 hbase ?_; intro v1 w1 hown2 hg1 hat1)
      have hown3 : w1.ownsRow w.heap.size 9 1 v1 (k + 1) (sv (cuts l (k + 1))) := by
        rw [HCS.out]; unfold sv at hown2 ⊢; rw [List.map_append]; exact hown2
      have hbel2 := hbel1.grown hg1 hbase hblk
      go_roundw
      case rel => exact ⟨k + 1, by go_num, by omega, by omega, hown3, hbel2⟩
      case measure => simp [intOf]; omega
    · obtain ⟨A1, c1, rfl, hc1, hm1, hr1, hbk⟩ := own_slice hown
      have hsz := cuts_size l k
      have hln := cuts_len l k hk
      generalize cuts l k = m at *
      subst hln
      have h1000 : m.length ≤ 1000 := by omega
      by_cases hlt1 : m.length < l.length
      · have g1 : (m.length : Int) < (l.length : Int) := by omega
        have g2 : ¬ (m.length : Int) < 30 := by omega
        go_wp2_with fail
        refine (Texts_calls A1 c1 m _ hr1 h1000).mono ?_
        rintro e w2 ⟨v2, rfl, ho2, hb2⟩
        obtain ⟨A2, c2, rfl, hc2, hm2, hr2, _⟩ := own_slice ho2
        have hr3 : Rd w2 w2.heap.size A1 (sv m) := (hr1.below hb2).mono hb2.size
        have k3 := Lib.hid (Top_calls A2 c2 m w2 hr2 hc2 hm2 h1000 hsz)
        have k4 := fun q => Lib.hid (RefTop_calls A1 c1 m (w2.drewN q) (hr3.drewN q) h1000 hsz)
        have hb3 : Below w.heap.size w w2 := hbel.trans (hb2.mono hbel.size)
        generalize topOf m = p at *
        go_wp2_with fail
        refine k3.out.mono ?_
        rintro e w' ⟨rfl, q, rfl⟩
        go_wp2_with fail
        refine (k4 _).out.mono ?_
        rintro e w' ⟨rfl, q, rfl⟩
        go_wp2_with fail
        refine (works_calls _).mono ?_
        rintro e w' ⟨rfl, hbw⟩
        go_wp2_with fail
        go_ret
        exact ⟨ret_bool (by simp), (hb3.trans (Drawn.below' ⟨_, rfl⟩)).trans (hbw.mono hb3.size)⟩
      · have g1 : ¬ (m.length : Int) < (l.length : Int) := by omega
        go_wp2_with fail
        refine (Texts_calls A1 c1 m _ hr1 h1000).mono ?_
        rintro e w2 ⟨v2, rfl, ho2, hb2⟩
        obtain ⟨A2, c2, rfl, hc2, hm2, hr2, _⟩ := own_slice ho2
        have hr3 : Rd w2 w2.heap.size A1 (sv m) := (hr1.below hb2).mono hb2.size
        have k3 := Lib.hid (Top_calls A2 c2 m w2 hr2 hc2 hm2 h1000 hsz)
        have k4 := fun q => Lib.hid (RefTop_calls A1 c1 m (w2.drewN q) (hr3.drewN q) h1000 hsz)
        have hb3 : Below w.heap.size w w2 := hbel.trans (hb2.mono hbel.size)
        generalize topOf m = p at *
        go_wp2_with fail
        refine k3.out.mono ?_
        rintro e w' ⟨rfl, q, rfl⟩
        go_wp2_with fail
        refine (k4 _).out.mono ?_
        rintro e w' ⟨rfl, q, rfl⟩
        go_wp2_with fail
        refine (works_calls _).mono ?_
        rintro e w' ⟨rfl, hbw⟩
        go_wp2_with fail
        go_ret
        exact ⟨ret_bool (by simp), (hb3.trans (Drawn.below' ⟨_, rfl⟩)).trans (hbw.mono hb3.size)⟩
end Go.Proofs.Ytmoibknnkkaghaa.Pri
