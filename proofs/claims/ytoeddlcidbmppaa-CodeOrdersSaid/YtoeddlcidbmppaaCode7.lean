/- Keys' order is the values'; keys undone. -/
import Derived.Test.YtoeddlcidbmppaaCode6
import Derived.Test.YtoeddlcidbmppaaLaw02
namespace Go.Proofs.Ytoeddlcidbmppaa.Co
open Go.RowKit
open Go.Proofs.Ytoeddlcidbmppaa.Fl (rk uf uok isnan ub)
set_option linter.unusedVariables false
set_option linter.unusedSimpArgs false
theorem key_list (k : UInt8) (X : ByteArray) : (⟨#[k]⟩ ++ X : ByteArray).toList = k :: X.data.toList := by
  rw [ByteArray.toList_eq, ByteArray.data_append]; simp
theorem bytes_list (l : List Nat) : (bytes l).data.toList = l.map UInt8.ofNat := by simp [bytes]
theorem bl_cons (a b : UInt8) (x y : List UInt8) : Op.bytesLess (a :: x) (b :: y) = (decide (a < b) || (a == b && Op.bytesLess x y)) := rfl
theorem val8 (n : Nat) (h : n < 18446744073709551616) : val (low n 8) = n := by
  rw [val_low]
  have : (256 : Nat) ^ 8 = 18446744073709551616 := by decide
  rw [this, Nat.mod_eq_of_lt h]
theorem key_less (k : UInt8) (n m : Nat) (hn : n < 18446744073709551616) (hm : m < 18446744073709551616) :
    Op.bytesLess (⟨#[k]⟩ ++ bytes (low n 8) : ByteArray).toList (⟨#[k]⟩ ++ bytes (low m 8) : ByteArray).toList = decide (n < m) := by
  rw [key_list, key_list, bl_cons, bytes_list, bytes_list, less_digits _ _ (low_lt _ _) (low_lt _ _), lcmp_val _ _ (low_lt _ _) (low_lt _ _) (by rw [low_len, low_len]), val8 n hn, val8 m hm]
  simp
theorem less_is (k N k' N' : Int) (F F' : Nat) (S S' : ByteArray) (hN : I64 N) (hF : U64 F) (hN' : I64 N') (hF' : U64 F') :
    lessS (mkS k N F S) (mkS k' N' F' S') = rlS k N F S k' N' F' S' := by
  have x1 := (err_mk k N F S).1
  have x2 := (err_mk k' N' F' S').1
  unfold lessS rlS
  rw [x1, x2]
  by_cases h1 : errS k S = 0
  · by_cases h2 : errS k' S' = 0
    · rw [if_neg (by simp [h1, h2]), h1, h2]
      obtain ⟨a1, a2, a3⟩ := err0 h1
      obtain ⟨b1, b2, b3⟩ := err0 h2
      have e1 : mkS k N F S = _ := rfl
      have e2 : mkS k' N' F' S' = _ := rfl
      conv at e1 => rhs; unfold mkS
      conv at e2 => rhs; unfold mkS
      have r1 := Fl.rk_ge F hF
      have r2 := Fl.rk_ge F' hF'
      unfold I64 at hN hN'
      simp only [beq_self_eq_true, Bool.true_and]
      obtain rfl | rfl | rfl : k = 1 ∨ k = 2 ∨ k = 3 := by omega
      · obtain rfl | rfl | rfl : k' = 1 ∨ k' = 2 ∨ k' = 3 := by omega
        · simp only [if_true] at e1 e2
          rw [e1, e2, key_less _ _ _ (by omega) (by omega)]
          simp only [ne_eq, not_true_eq_false, if_false, if_true]
          exact decide_eq_decide.2 (by omega)
        · simp at e1 e2
          rw [e1, e2, key_list, key_list, bl_cons]
          simp
        · simp [Nat.not_lt.2 (b3 rfl)] at e1 e2
          rw [e1, e2, key_list, key_list, bl_cons]
          simp
      · obtain rfl | rfl | rfl : k' = 1 ∨ k' = 2 ∨ k' = 3 := by omega
        · simp at e1 e2
          rw [e1, e2, key_list, key_list, bl_cons]
          simp
        · simp at e1 e2
          rw [e1, e2, key_less _ _ _ (by omega) (by omega), Fl.lt_rk F F' hF hF']
          simp
          omega
        · simp [Nat.not_lt.2 (b3 rfl)] at e1 e2
          rw [e1, e2, key_list, key_list, bl_cons]
          simp
      · obtain rfl | rfl | rfl : k' = 1 ∨ k' = 2 ∨ k' = 3 := by omega
        · simp [Nat.not_lt.2 (a3 rfl)] at e1 e2
          rw [e1, e2, key_list, key_list, bl_cons]
          simp
        · simp [Nat.not_lt.2 (a3 rfl)] at e1 e2
          rw [e1, e2, key_list, key_list, bl_cons]
          simp
        · simp [Nat.not_lt.2 (a3 rfl), Nat.not_lt.2 (b3 rfl)] at e1 e2
          rw [e1, e2, key_list, key_list, bl_cons, bytesLess_less]
          simp
    · rw [if_pos (.inr h2)]
      have : (errS k' S' == 0) = false := by simpa using h2
      rw [this]; simp
  · rw [if_pos (.inl h1)]
    have : (errS k S == 0) = false := by simpa using h1
    rw [this]; simp
theorem less_ord (m n : ByteArray × Int) : lessS m n = (m.2 == 0 && (n.2 == 0 && Ord.less m.1.data.toList n.1.data.toList)) := by
  unfold lessS
  rw [ByteArray.toList_eq, ByteArray.toList_eq, bytesLess_less]
/-- What is read of a key. -/
theorem nats_bytes (l : List Nat) (h : ∀ d ∈ l, d < 256) : nats (bytes l) = l := by
  unfold nats
  rw [bytes_list, List.map_map]
  calc l.map (UInt8.toNat ∘ UInt8.ofNat) = l.map id := List.map_congr_left fun d hd => by
        show (UInt8.ofNat d).toNat = d
        simp [Nat.mod_eq_of_lt (h d hd)]
    _ = l := List.map_id l
theorem key_rest (k : UInt8) (X : ByteArray) : (⟨#[k]⟩ ++ X : ByteArray).extract 1 (⟨#[k]⟩ ++ X : ByteArray).size = X := by
  apply Ord.ext_list
  rw [ByteArray.data_extract, Array.toList_extract, ByteArray.data_append]
  simp [List.extract, ByteArray.size_append]
  exact List.take_of_length_le (by simp; show X.size ≤ 1 + X.size - 1; omega)
theorem key_sz (k : UInt8) (X : ByteArray) : (⟨#[k]⟩ ++ X : ByteArray).size = X.size + 1 := by
  rw [ByteArray.size_append]; show 1 + X.size = _; omega
theorem key_fst (k : UInt8) (X : ByteArray) (h : 0 < (⟨#[k]⟩ ++ X : ByteArray).size) : (⟨#[k]⟩ ++ X : ByteArray)[0] = k := by
  show (⟨#[k]⟩ ++ X : ByteArray).data[0] = k
  simp [ByteArray.data_append]
theorem ps_key (k : UInt8) (X : ByteArray) : psS (⟨#[k]⟩ ++ X) =
    (if k.toNat = 1 ∧ X.size + 1 = 9 then ((1, (val (nats X) : Int) - 9223372036854775808, 0, ⟨#[]⟩), 0)
    else if k.toNat = 2 ∧ X.size + 1 = 9 then
      (if uok (val (nats X) : Int) then ((2, 0, (pfF (val (nats X) : Int) : Nat), ⟨#[]⟩), 0) else ((0, 0, 0, ⟨#[]⟩), 4))
    else if k.toNat = 3 ∧ X.size + 1 ≤ 16 then ((3, 0, 0, X), 0)
    else ((0, 0, 0, ⟨#[]⟩), 4) : (Int × Int × Int × ByteArray) × Int) := by
  have h0 : 0 < (⟨#[k]⟩ ++ X : ByteArray).size := by rw [key_sz]; omega
  unfold psS
  rw [dif_pos h0, key_fst k X h0, key_rest, key_sz]
theorem rk_pf (F : Nat) (hF : U64 F) : uok (rk F) = true ∧ rk (pfF (rk F)) = rk F ∧ U64 (pfF (rk F)) := by
  obtain ⟨b1, b2, b3⟩ := Fl.back F hF
  refine ⟨b1, ?_⟩
  unfold pfF
  by_cases hq : rk F = 18444492273895866369
  · rw [if_pos hq, hq]
    exact ⟨Fl.rkq, by unfold U64; omega⟩
  · rw [if_neg hq]
    exact ⟨b3, b2⟩
theorem ps_mk (k N : Int) (F : Nat) (S : ByteArray) (hN : I64 N) (hF : U64 F) (h : (mkS k N F S).2 = 0) :
    psS (mkS k N F S).1 = (if k = 1 then ((1, N, 0, ⟨#[]⟩), 0) else if k = 2 then ((2, 0, (pfF (rk F) : Nat), ⟨#[]⟩), 0) else ((3, 0, 0, S), 0) : (Int × Int × Int × ByteArray) × Int) := by
  rw [(err_mk k N F S).1] at h
  obtain ⟨a1, a2, a3⟩ := err0 h
  have e1 : mkS k N F S = _ := rfl
  conv at e1 => rhs; unfold mkS
  have r1 := Fl.rk_ge F hF
  unfold I64 at hN
  obtain rfl | rfl | rfl : k = 1 ∨ k = 2 ∨ k = 3 := by omega
  · simp only [if_true] at e1
    rw [e1, if_pos rfl]
    simp only
    rw [ps_key, if_pos ⟨rfl, by rw [bytes_size, low_len]⟩, nats_bytes _ (low_lt _ _), val8 _ (by omega)]
    have : ((N + 9223372036854775808).toNat : Int) - 9223372036854775808 = N := by omega
    rw [this]
  · simp at e1
    rw [e1, if_neg (by omega), if_pos rfl]
    simp only
    obtain ⟨u1, u2, u3⟩ := rk_pf F hF
    rw [ps_key, if_neg (by simp), if_pos ⟨rfl, by rw [bytes_size, low_len]⟩, nats_bytes _ (low_lt _ _), val8 _ (by omega)]
    have : ((rk F).toNat : Int) = rk F := by omega
    rw [this, u1, if_pos rfl]
  · simp [Nat.not_lt.2 (a3 rfl)] at e1
    rw [e1, if_neg (by omega), if_neg (by omega)]
    simp only
    have := a3 rfl
    rw [ps_key, if_neg (by simp), if_neg (by simp), if_pos ⟨rfl, by omega⟩]
end Go.Proofs.Ytoeddlcidbmppaa.Co
