/- The law FloatBest. -/
import Derived.Test.YtaofmapbecgegaaBest3
namespace Go.Proofs.Ytaofmapbecgegaa.Fl
open Go.RowKit
set_option linter.unusedVariables false
set_option linter.unusedSimpArgs false
theorem mean_rel {zs : List Nat} {a b : Nat} (ha : if zs = [] then a = 9221120237041090561 else Rel (meanOf zs) a) (hb : if zs = [] then b = 9221120237041090561 else Rel (meanOf zs) b) : (!lt a b && !lt b a) = true := by
  by_cases h : zs = []
  · rw [if_pos h] at ha hb
    rw [ha, hb, lt_self]; rfl
  · rw [if_neg h] at ha hb
    exact rel_same ha hb
set_option maxHeartbeats 3200000 in
theorem FloatBest_calls (A : Option Addr) (cap : Nat) (ys : List Int) (w : World) (hz : ∀ z ∈ ys, 0 ≤ z ∧ z ≤ 18446744073709551615) (hr : Rd w w.heap.size A (ys.map (Value.int .u64))) (hcap : ys.length ≤ cap) (hcm : cap ≤ maxLen) :
    Calls Try.prog 5 #[.slice A ys.length cap] w (Fresh (.bool true) w) := by
  rw [← uv_of ys hz] at hr
  have hF := f64s_of ys hz 200
  have hl : (ys.map Int.toNat).length = ys.length := by simp
  rw [← hl] at hcap ⊢
  generalize ys.map Int.toNat = ns at *
  clear hl hz
  have k1 := Lib.hid (few_calls A cap ns w hr hcap hcm)
  have k2 := fun w' (hb : Below w.heap.size w w') => Lib.hid (few_calls A cap ns w' ((hr.below hb).mono hb.size) hcap hcm)
  have hl : (ns.take 200).length ≤ 1000 := by rw [List.length_take]; omega
  clear hr hcap hcm
  generalize ns.take 200 = zs at *
  have HF := Lib.hid hF
  clear hF
  go_enter Try.func5, Try.ntmps5
  go_wp2_with fail
  refine k1.out.mono ?_
  rintro e w1 ⟨v1, rfl, ho1, hb1⟩
  go_wp2_with fail
  refine (k2 _ hb1).out.mono ?_
  rintro e w2 ⟨v2, rfl, ho2, hb2⟩
  obtain ⟨A1, c1, rfl, hc1, hm1, hr1, _⟩ := own_slice ho1
  obtain ⟨A2, c2, rfl, hc2, hm2, hr2, _⟩ := own_slice ho2
  have hB2 := Lib.hid (below_step hb1 (Nat.le_refl _) hb2)
  have R1 := Lib.hid ((hr1.below hb2).mono hb2.size)
  have R2 := Lib.hid hr2
  clear ho1 ho2 hr1 hr2 hb1 hb2 k1 k2
  have a1 := fun q => Lib.hid (Least_calls A1 c1 zs (w2.drewN q) (R1.out.drewN q) hl hc1 hm1 HF.out)
  have a2 := fun q => Lib.hid (RefLeast_calls A2 c2 zs (w2.drewN q) (R2.out.drewN q) hl HF.out)
  have a3 := fun q => Lib.hid (Most_calls A1 c1 zs (w2.drewN q) (R1.out.drewN q) hl HF.out)
  have a4 := fun q => Lib.hid (RefMost_calls A2 c2 zs (w2.drewN q) (R2.out.drewN q) hl HF.out)
  have a5 := fun q => Lib.hid (Sum_calls A1 c1 zs (w2.drewN q) (R1.out.drewN q) hl hc1 hm1 HF.out)
  have a6 := fun q => Lib.hid (RefSum_calls A2 c2 zs (w2.drewN q) (R2.out.drewN q) hl HF.out)
  have a7 := fun q => Lib.hid (Mean_calls A1 c1 zs (w2.drewN q) (R1.out.drewN q) hl hc1 hm1 HF.out)
  have a8 := fun q => Lib.hid (RefMean_calls A2 c2 zs (w2.drewN q) (R2.out.drewN q) hl HF.out)
  have s1 := fun w => Lib.hid (same_self (minOf zs) w)
  have s2 := fun w => Lib.hid (same_self (maxOf zs) w)
  have a1z := Lib.hid (Least_calls A1 c1 zs w2 R1.out hl hc1 hm1 HF.out)
  clear R1 R2 hc1 hm1 hc2 hm2
  generalize minOf zs = mi at *
  generalize maxOf zs = ma at *
  go_wp2_with (first
    | (go_at_call 18; (with_reducible refine a1z.out.mono ?_); rintro e w' ⟨rfl, q, rfl⟩)
    | (go_at_call 19; (with_reducible refine ((a2 _).out).mono ?_); rintro e w' ⟨rfl, q, rfl⟩)
    | (go_at_call 20; (with_reducible refine ((a3 _).out).mono ?_); rintro e w' ⟨rfl, q, rfl⟩)
    | (go_at_call 21; (with_reducible refine ((a4 _).out).mono ?_); rintro e w' ⟨rfl, q, rfl⟩)
    | (go_at_call 13; (first | with_reducible refine ((s1 _).out).mono ?_ | with_reducible refine ((s2 _).out).mono ?_); rintro e w' ⟨rfl, q, rfl⟩))
  (with_reducible refine (a5 _).out.mono ?_)
  rintro e w' ⟨v5, rfl, h5, q5, rfl⟩
  have H5 := Lib.hid h5
  clear h5
  go_wp2_with fail
  (with_reducible refine (a6 _).out.mono ?_)
  rintro e w' ⟨v6, rfl, h6, q6, rfl⟩
  have s3 := fun w => RefSame_calls v5 v6 w
  rw [rel_same H5.out h6] at s3
  have S3 := fun w => Lib.hid (s3 w)
  clear s3 h6
  go_wp2_with (go_at_call 13; (with_reducible refine ((S3 _).out).mono ?_); rintro e w' ⟨rfl, q, rfl⟩)
  (with_reducible refine (a7 _).out.mono ?_)
  rintro e w' ⟨v7, rfl, h7, q7, rfl⟩
  have H7 := Lib.hid h7
  clear h7
  go_wp2_with fail
  (with_reducible refine (a8 _).out.mono ?_)
  rintro e w' ⟨v8, rfl, h8, q8, rfl⟩
  have s4 := fun w => RefSame_calls v7 v8 w
  rw [mean_rel H7.out h8] at s4
  have S4 := fun w => Lib.hid (s4 w)
  clear s4 h8
  go_wp2_with (first | (go_at_call 13; (with_reducible refine ((S4 _).out).mono ?_); rintro e w' ⟨rfl, q, rfl⟩) | (go_at_call 14; (with_reducible refine (works_calls _).mono ?_); rintro e w' ⟨rfl, hB⟩; obtain ⟨hbc, hbf, hbm, hbn⟩ := bcell hB))
  go_ret
  exact ⟨rfl, below_step (below_drewN hB2.out _) (Nat.le_refl _) hB⟩
end Go.Proofs.Ytaofmapbecgegaa.Fl
