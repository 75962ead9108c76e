/- Texts of this claim, part 5. -/
import Derived.Test.YtgpldekhcojimaaDoorMModelSteps4
set_option linter.unusedVariables false
set_option linter.unusedSimpArgs false
namespace Go.Proofs.YtgpldekhcojimaaDoor.Conf
open Go.RowKit
set_option maxHeartbeats 6400000 in
theorem Plain_in (n : Nat) (a b c : ByteArray) (h : Int) (w : World) (T : Tab w) (h1 : 1 ≤ n) (h2 : n ≤ 13) (b0 b1 b2 b3 : Bool) (e0 : opUse n 0 = b0) (e1 : opUse n 1 = b1) (e2 : opUse n 2 = b2) (e3 : opUse n 3 = b3) :
  Calls Tryd.prog 83 #[.agg #[.int .i64 n,.string a,.string b,.string c,.int .i64 h]] w (XH (.agg #[.int .i64 n,.string (if b0 then a else ⟨#[]⟩),.string (if b1 then b else ⟨#[]⟩),.string (if b2 then c else ⟨#[]⟩),.int .i64 (if b3 then h else 0)]) w):=by
 have h0:0 < w.heap.size:=World.block_lt_of_cell? w _ (T 0 0 (by omega) (by omega))
 have t0:w.cell? ⟨0,n * 4,none⟩=some (.bool b0):=by have:=T n 0 (by omega) (by omega);rw [e0,Nat.mul_comm] at this;exact this
 have t1:w.cell? ⟨0,n * 4+1,none⟩=some (.bool b1):=by have:=T n 1 (by omega) (by omega);rw [e1,Nat.mul_comm] at this;exact this
 have t2:w.cell? ⟨0,n * 4+2,none⟩=some (.bool b2):=by have:=T n 2 (by omega) (by omega);rw [e2,Nat.mul_comm] at this;exact this
 have t3:w.cell? ⟨0,n * 4+3,none⟩=some (.bool b3):=by have:=T n 3 (by omega) (by omega);rw [e3,Nat.mul_comm] at this;exact this
 have k1:∀ w,Hid (Calls Tryd.prog 57 #[.int .i64 n] w (Quiet (.bool true) w)):=fun w=>by
  have:=isOp_calls n w (by unfold I64;omega)
  rw [decide_eq_true (by omega)] at this
  exact yP this
 have i1:(0:Int)≤(n:Int):=by omega
 have i2:(n:Int) < 14:=by omega
 clear T e0 e1 e2 e3
 cases b0<;>cases b1<;>cases b2<;>cases b3
 case false.false.false.false =>
  simp only [if_true,Bool.false_eq_true,if_false]
  go_enter Tryd.func83,Tryd.ntmps83
  go_wp2_with (go_at_call 57;(with_reducible refine ((k1 _).out).mono ?_);rintro e w' ⟨rfl,q,rfl⟩)
  all_goals
   refine bodyPost_ret (v:=.agg #[.int .i64 n,.string ⟨#[]⟩,.string ⟨#[]⟩,.string ⟨#[]⟩,.int .i64 0]) (by simp [results,Tryd.results83,go_sem]) rfl ⟨rfl,?_⟩
   exact (by repeat (first|(with_reducible first|exact Below.refl _ _|refine z8 ?_ _)|with_reducible refine zG ?_ (Nat.le_refl _) _|(with_reducible refine Below.setCell ?_ ?h _;(case h=>first|(dsimp only;omega)|(simp;done)|(simp;omega)))|with_reducible refine Zd ?_ (Nat.le_refl _) (by assumption)))
 case true.false.false.false =>
  simp only [if_true,Bool.false_eq_true,if_false]
  go_enter Tryd.func83,Tryd.ntmps83
  go_wp2_with (go_at_call 57;(with_reducible refine ((k1 _).out).mono ?_);rintro e w' ⟨rfl,q,rfl⟩)
  all_goals
   refine bodyPost_ret (v:=.agg #[.int .i64 n,.string a,.string ⟨#[]⟩,.string ⟨#[]⟩,.int .i64 0]) (by simp [results,Tryd.results83,go_sem]) rfl ⟨rfl,?_⟩
   exact (by repeat (first|(with_reducible first|exact Below.refl _ _|refine z8 ?_ _)|with_reducible refine zG ?_ (Nat.le_refl _) _|(with_reducible refine Below.setCell ?_ ?h _;(case h=>first|(dsimp only;omega)|(simp;done)|(simp;omega)))|with_reducible refine Zd ?_ (Nat.le_refl _) (by assumption)))
 case false.true.false.false =>
  simp only [if_true,Bool.false_eq_true,if_false]
  go_enter Tryd.func83,Tryd.ntmps83
  go_wp2_with (go_at_call 57;(with_reducible refine ((k1 _).out).mono ?_);rintro e w' ⟨rfl,q,rfl⟩)
  all_goals
   refine bodyPost_ret (v:=.agg #[.int .i64 n,.string ⟨#[]⟩,.string b,.string ⟨#[]⟩,.int .i64 0]) (by simp [results,Tryd.results83,go_sem]) rfl ⟨rfl,?_⟩
   exact (by repeat (first|(with_reducible first|exact Below.refl _ _|refine z8 ?_ _)|with_reducible refine zG ?_ (Nat.le_refl _) _|(with_reducible refine Below.setCell ?_ ?h _;(case h=>first|(dsimp only;omega)|(simp;done)|(simp;omega)))|with_reducible refine Zd ?_ (Nat.le_refl _) (by assumption)))
 case true.true.false.false =>
  simp only [if_true,Bool.false_eq_true,if_false]
  go_enter Tryd.func83,Tryd.ntmps83
  go_wp2_with (go_at_call 57;(with_reducible refine ((k1 _).out).mono ?_);rintro e w' ⟨rfl,q,rfl⟩)
  all_goals
   refine bodyPost_ret (v:=.agg #[.int .i64 n,.string a,.string b,.string ⟨#[]⟩,.int .i64 0]) (by simp [results,Tryd.results83,go_sem]) rfl ⟨rfl,?_⟩
   exact (by repeat (first|(with_reducible first|exact Below.refl _ _|refine z8 ?_ _)|with_reducible refine zG ?_ (Nat.le_refl _) _|(with_reducible refine Below.setCell ?_ ?h _;(case h=>first|(dsimp only;omega)|(simp;done)|(simp;omega)))|with_reducible refine Zd ?_ (Nat.le_refl _) (by assumption)))
 case false.false.true.false =>
  simp only [if_true,Bool.false_eq_true,if_false]
  go_enter Tryd.func83,Tryd.ntmps83
  go_wp2_with (go_at_call 57;(with_reducible refine ((k1 _).out).mono ?_);rintro e w' ⟨rfl,q,rfl⟩)
  all_goals
   refine bodyPost_ret (v:=.agg #[.int .i64 n,.string ⟨#[]⟩,.string ⟨#[]⟩,.string c,.int .i64 0]) (by simp [results,Tryd.results83,go_sem]) rfl ⟨rfl,?_⟩
   exact (by repeat (first|(with_reducible first|exact Below.refl _ _|refine z8 ?_ _)|with_reducible refine zG ?_ (Nat.le_refl _) _|(with_reducible refine Below.setCell ?_ ?h _;(case h=>first|(dsimp only;omega)|(simp;done)|(simp;omega)))|with_reducible refine Zd ?_ (Nat.le_refl _) (by assumption)))
 case true.false.true.false =>
  simp only [if_true,Bool.false_eq_true,if_false]
  go_enter Tryd.func83,Tryd.ntmps83
  go_wp2_with (go_at_call 57;(with_reducible refine ((k1 _).out).mono ?_);rintro e w' ⟨rfl,q,rfl⟩)
  all_goals
   refine bodyPost_ret (v:=.agg #[.int .i64 n,.string a,.string ⟨#[]⟩,.string c,.int .i64 0]) (by simp [results,Tryd.results83,go_sem]) rfl ⟨rfl,?_⟩
   exact (by repeat (first|(with_reducible first|exact Below.refl _ _|refine z8 ?_ _)|with_reducible refine zG ?_ (Nat.le_refl _) _|(with_reducible refine Below.setCell ?_ ?h _;(case h=>first|(dsimp only;omega)|(simp;done)|(simp;omega)))|with_reducible refine Zd ?_ (Nat.le_refl _) (by assumption)))
 case false.true.true.false =>
  simp only [if_true,Bool.false_eq_true,if_false]
  go_enter Tryd.func83,Tryd.ntmps83
  go_wp2_with (go_at_call 57;(with_reducible refine ((k1 _).out).mono ?_);rintro e w' ⟨rfl,q,rfl⟩)
  all_goals
   refine bodyPost_ret (v:=.agg #[.int .i64 n,.string ⟨#[]⟩,.string b,.string c,.int .i64 0]) (by simp [results,Tryd.results83,go_sem]) rfl ⟨rfl,?_⟩
   exact (by repeat (first|(with_reducible first|exact Below.refl _ _|refine z8 ?_ _)|with_reducible refine zG ?_ (Nat.le_refl _) _|(with_reducible refine Below.setCell ?_ ?h _;(case h=>first|(dsimp only;omega)|(simp;done)|(simp;omega)))|with_reducible refine Zd ?_ (Nat.le_refl _) (by assumption)))
 case true.true.true.false =>
  simp only [if_true,Bool.false_eq_true,if_false]
  go_enter Tryd.func83,Tryd.ntmps83
  go_wp2_with (go_at_call 57;(with_reducible refine ((k1 _).out).mono ?_);rintro e w' ⟨rfl,q,rfl⟩)
  all_goals
   refine bodyPost_ret (v:=.agg #[.int .i64 n,.string a,.string b,.string c,.int .i64 0]) (by simp [results,Tryd.results83,go_sem]) rfl ⟨rfl,?_⟩
   exact (by repeat (first|(with_reducible first|exact Below.refl _ _|refine z8 ?_ _)|with_reducible refine zG ?_ (Nat.le_refl _) _|(with_reducible refine Below.setCell ?_ ?h _;(case h=>first|(dsimp only;omega)|(simp;done)|(simp;omega)))|with_reducible refine Zd ?_ (Nat.le_refl _) (by assumption)))
 case false.false.false.true =>
  simp only [if_true,Bool.false_eq_true,if_false]
  go_enter Tryd.func83,Tryd.ntmps83
  go_wp2_with (go_at_call 57;(with_reducible refine ((k1 _).out).mono ?_);rintro e w' ⟨rfl,q,rfl⟩)
  all_goals
   refine bodyPost_ret (v:=.agg #[.int .i64 n,.string ⟨#[]⟩,.string ⟨#[]⟩,.string ⟨#[]⟩,.int .i64 h]) (by simp [results,Tryd.results83,go_sem]) rfl ⟨rfl,?_⟩
   exact (by repeat (first|(with_reducible first|exact Below.refl _ _|refine z8 ?_ _)|with_reducible refine zG ?_ (Nat.le_refl _) _|(with_reducible refine Below.setCell ?_ ?h _;(case h=>first|(dsimp only;omega)|(simp;done)|(simp;omega)))|with_reducible refine Zd ?_ (Nat.le_refl _) (by assumption)))
 case true.false.false.true =>
  simp only [if_true,Bool.false_eq_true,if_false]
  go_enter Tryd.func83,Tryd.ntmps83
  go_wp2_with (go_at_call 57;(with_reducible refine ((k1 _).out).mono ?_);rintro e w' ⟨rfl,q,rfl⟩)
  all_goals
   refine bodyPost_ret (v:=.agg #[.int .i64 n,.string a,.string ⟨#[]⟩,.string ⟨#[]⟩,.int .i64 h]) (by simp [results,Tryd.results83,go_sem]) rfl ⟨rfl,?_⟩
   exact (by repeat (first|(with_reducible first|exact Below.refl _ _|refine z8 ?_ _)|with_reducible refine zG ?_ (Nat.le_refl _) _|(with_reducible refine Below.setCell ?_ ?h _;(case h=>first|(dsimp only;omega)|(simp;done)|(simp;omega)))|with_reducible refine Zd ?_ (Nat.le_refl _) (by assumption)))
 case false.true.false.true =>
  simp only [if_true,Bool.false_eq_true,if_false]
  go_enter Tryd.func83,Tryd.ntmps83
  go_wp2_with (go_at_call 57;(with_reducible refine ((k1 _).out).mono ?_);rintro e w' ⟨rfl,q,rfl⟩)
  all_goals
   refine bodyPost_ret (v:=.agg #[.int .i64 n,.string ⟨#[]⟩,.string b,.string ⟨#[]⟩,.int .i64 h]) (by simp [results,Tryd.results83,go_sem]) rfl ⟨rfl,?_⟩
   exact (by repeat (first|(with_reducible first|exact Below.refl _ _|refine z8 ?_ _)|with_reducible refine zG ?_ (Nat.le_refl _) _|(with_reducible refine Below.setCell ?_ ?h _;(case h=>first|(dsimp only;omega)|(simp;done)|(simp;omega)))|with_reducible refine Zd ?_ (Nat.le_refl _) (by assumption)))
 case true.true.false.true =>
  simp only [if_true,Bool.false_eq_true,if_false]
  go_enter Tryd.func83,Tryd.ntmps83
  go_wp2_with (go_at_call 57;(with_reducible refine ((k1 _).out).mono ?_);rintro e w' ⟨rfl,q,rfl⟩)
  all_goals
   refine bodyPost_ret (v:=.agg #[.int .i64 n,.string a,.string b,.string ⟨#[]⟩,.int .i64 h]) (by simp [results,Tryd.results83,go_sem]) rfl ⟨rfl,?_⟩
   exact (by repeat (first|(with_reducible first|exact Below.refl _ _|refine z8 ?_ _)|with_reducible refine zG ?_ (Nat.le_refl _) _|(with_reducible refine Below.setCell ?_ ?h _;(case h=>first|(dsimp only;omega)|(simp;done)|(simp;omega)))|with_reducible refine Zd ?_ (Nat.le_refl _) (by assumption)))
 case false.false.true.true =>
  simp only [if_true,Bool.false_eq_true,if_false]
  go_enter Tryd.func83,Tryd.ntmps83
  go_wp2_with (go_at_call 57;(with_reducible refine ((k1 _).out).mono ?_);rintro e w' ⟨rfl,q,rfl⟩)
  all_goals
   refine bodyPost_ret (v:=.agg #[.int .i64 n,.string ⟨#[]⟩,.string ⟨#[]⟩,.string c,.int .i64 h]) (by simp [results,Tryd.results83,go_sem]) rfl ⟨rfl,?_⟩
   exact (by repeat (first|(with_reducible first|exact Below.refl _ _|refine z8 ?_ _)|with_reducible refine zG ?_ (Nat.le_refl _) _|(with_reducible refine Below.setCell ?_ ?h _;(case h=>first|(dsimp only;omega)|(simp;done)|(simp;omega)))|with_reducible refine Zd ?_ (Nat.le_refl _) (by assumption)))
 case true.false.true.true =>
  simp only [if_true,Bool.false_eq_true,if_false]
  go_enter Tryd.func83,Tryd.ntmps83
  go_wp2_with (go_at_call 57;(with_reducible refine ((k1 _).out).mono ?_);rintro e w' ⟨rfl,q,rfl⟩)
  all_goals
   refine bodyPost_ret (v:=.agg #[.int .i64 n,.string a,.string ⟨#[]⟩,.string c,.int .i64 h]) (by simp [results,Tryd.results83,go_sem]) rfl ⟨rfl,?_⟩
   exact (by repeat (first|(with_reducible first|exact Below.refl _ _|refine z8 ?_ _)|with_reducible refine zG ?_ (Nat.le_refl _) _|(with_reducible refine Below.setCell ?_ ?h _;(case h=>first|(dsimp only;omega)|(simp;done)|(simp;omega)))|with_reducible refine Zd ?_ (Nat.le_refl _) (by assumption)))
 case false.true.true.true =>
  simp only [if_true,Bool.false_eq_true,if_false]
  go_enter Tryd.func83,Tryd.ntmps83
  go_wp2_with (go_at_call 57;(with_reducible refine ((k1 _).out).mono ?_);rintro e w' ⟨rfl,q,rfl⟩)
  all_goals
   refine bodyPost_ret (v:=.agg #[.int .i64 n,.string ⟨#[]⟩,.string b,.string c,.int .i64 h]) (by simp [results,Tryd.results83,go_sem]) rfl ⟨rfl,?_⟩
   exact (by repeat (first|(with_reducible first|exact Below.refl _ _|refine z8 ?_ _)|with_reducible refine zG ?_ (Nat.le_refl _) _|(with_reducible refine Below.setCell ?_ ?h _;(case h=>first|(dsimp only;omega)|(simp;done)|(simp;omega)))|with_reducible refine Zd ?_ (Nat.le_refl _) (by assumption)))
 case true.true.true.true =>
  simp only [if_true,Bool.false_eq_true,if_false]
  go_enter Tryd.func83,Tryd.ntmps83
  go_wp2_with (go_at_call 57;(with_reducible refine ((k1 _).out).mono ?_);rintro e w' ⟨rfl,q,rfl⟩)
  all_goals
   refine bodyPost_ret (v:=.agg #[.int .i64 n,.string a,.string b,.string c,.int .i64 h]) (by simp [results,Tryd.results83,go_sem]) rfl ⟨rfl,?_⟩
   exact (by repeat (first|(with_reducible first|exact Below.refl _ _|refine z8 ?_ _)|with_reducible refine zG ?_ (Nat.le_refl _) _|(with_reducible refine Below.setCell ?_ ?h _;(case h=>first|(dsimp only;omega)|(simp;done)|(simp;omega)))|with_reducible refine Zd ?_ (Nat.le_refl _) (by assumption)))
end Go.Proofs.YtgpldekhcojimaaDoor.Conf
namespace Go.Proofs.YtgpldekhcojimaaDoor.Conf
open Go.RowKit
def opB (k:Int) (j:Nat):Bool:=if 1≤k∧k≤13 then opUse k.toNat j else false
def plS (k:Int) (j:Nat) (a:ByteArray):ByteArray:=if opB k j then a else ⟨#[]⟩
def plH (k h:Int):Int:=if opB k 3 then h else 0
theorem plS_size (k:Int) (j:Nat) (a:ByteArray) (h:a.size≤maxLen):(plS k j a).size≤maxLen:=by
 unfold plS;cases opB k j
 ·show 0≤_;omega
 ·exact h
theorem plH_in (k h:Int) (hh:I64 h):I64 (plH k h):=by
 unfold plH;cases opB k 3
 ·unfold I64;simp
 ·exact hh
set_option maxHeartbeats 800000 in
theorem Plain_calls (k : Int) (a b c : ByteArray) (h : Int) (w : World) (T : Tab w) (hk : I64 k) :
  Calls Tryd.prog 83 #[.agg #[.int .i64 k,.string a,.string b,.string c,.int .i64 h]] w (XH (.agg #[.int .i64 k,.string (plS k 0 a),.string (plS k 1 b),.string (plS k 2 c),.int .i64 (plH k h)]) w):=by
 by_cases hin:1≤k∧k≤13
 ·obtain ⟨n, rfl⟩ := Int.eq_ofNat_of_zero_le (show 0 ≤ k by omega)
  have e:∀ j,opB (n:Int) j=opUse n j:=fun j=>by unfold opB;rw [if_pos hin];rfl
  unfold plS plH
  simp only [e]
  exact Plain_in n a b c h w T (by omega) (by omega) _ _ _ _ rfl rfl rfl rfl
 ·have e:∀ j,opB k j=false:=fun j=>by unfold opB;rw [if_neg hin]
  unfold plS plH
  simp only [e,Bool.false_eq_true,if_false]
  have k1:∀ w,Hid (Calls Tryd.prog 57 #[.int .i64 k] w (Quiet (.bool false) w)):=fun w=>by
   have:=isOp_calls k w hk
   rw [decide_eq_false hin] at this
   exact yP this
  clear T e hin
  go_enter Tryd.func83,Tryd.ntmps83
  go_wp2_with (go_at_call 57;(with_reducible refine ((k1 _).out).mono ?_);rintro e w' ⟨rfl,q,rfl⟩)
  refine bodyPost_ret (v:=.agg #[.int .i64 k,.string ⟨#[]⟩,.string ⟨#[]⟩,.string ⟨#[]⟩,.int .i64 0]) (by simp [results,Tryd.results83,go_sem]) rfl ⟨rfl,?_⟩
  exact (by repeat (first|(with_reducible first|exact Below.refl _ _|refine z8 ?_ _)|with_reducible refine zG ?_ (Nat.le_refl _) _|(with_reducible refine Below.setCell ?_ ?h _;(case h=>first|(dsimp only;omega)|(simp;done)|(simp;omega)))|with_reducible refine Zd ?_ (Nat.le_refl _) (by assumption)))
def ft (ck k:Int) (A B C:ByteArray) (H:Int):Int :=
 if ¬ (1≤ck∧ck≤3)∨¬ (1≤k∧k≤13) then 11
 else if k=6∧ck ≠ 2 then 2
 else if 16 < A.size∨16 < B.size∨16 < C.size then 6
 else if H < 0 then 10 else 0
def fits (ck k:Int) (a b c:ByteArray) (h:Int):Int:=ft ck k (plS k 0 a) (plS k 1 b) (plS k 2 c) (plH k h)
set_option maxHeartbeats 3200000 in
theorem Fits_calls (ck cs ct ch cb k : Int) (a b c : ByteArray) (h : Int) (w : World) (T : Tab w) (h1 : I64 ck) (hk : I64 k) (hh : I64 h) (ha : a.size ≤ maxLen) (hb : b.size ≤ maxLen) (hc : c.size ≤ maxLen) :
  Calls Tryd.prog 53 #[.agg #[.int .i64 ck,.int .i64 cs,.int .i64 ct,.int .i64 ch,.int .i64 cb],.agg #[.int .i64 k,.string a,.string b,.string c,.int .i64 h]] w (XH (.int .i64 (fits ck k a b c h)) w):=by
 have k1:=fun w=>isMap_calls ck w h1
 have k2:=fun w=>isOp_calls k w hk
 have k3:=Lib.hid (Plain_calls k a b c h ((w.alloc (.cells #[.int .i64 ck,.int .i64 cs,.int .i64 ct,.int .i64 ch,.int .i64 cb] 23)).alloc (.cells #[.int .i64 k,.string a,.string b,.string c,.int .i64 h] 29)) (T.below (zG (zG (Below.refl _ w) (Nat.le_refl _) _) (Nat.le_refl _) _)) hk)
 have hA:=plS_size k 0 a ha
 have hB:=plS_size k 1 b hb
 have hC:=plS_size k 2 c hc
 have hH:=plH_in k h hh
 unfold fits
 generalize plS k 0 a=A at *
 generalize plS k 1 b=B at *
 generalize plS k 2 c=C at *
 generalize plH k h=H at *
 unfold maxLen at hA hB hC
 unfold I64 at h1 hk hH
 have em:(decide (1≤ck) && decide (ck≤3))=decide (1≤ck∧ck≤3):=by simp
 simp only [em] at k1
 have z1:w.heap.size < w.heap.size+1+1:=by omega
 have z2:w.heap.size+1 < w.heap.size+1+1:=by omega
 clear T em ha hb hc
 by_cases hm:1≤ck∧ck≤3
 ·rw [decide_eq_true hm] at k1
  have K1:=fun w=>Lib.hid (k1 w)
  by_cases ho:1≤k∧k≤13
  ·rw [decide_eq_true ho] at k2
   have K2:=fun w=>Lib.hid (k2 w)
   clear k1 k2
   have hft:ft ck k A B C H=if k=6∧ck ≠ 2 then 2 else if 16 < A.size∨16 < B.size∨16 < C.size then 6 else if H < 0 then 10 else 0:=by
    unfold ft;rw [if_neg (by omega)]
   generalize ft ck k A B C H=F at *
   rcases (show (k=6∧ck=2)∨(k=6∧¬ ck=2)∨¬ k=6 by omega) with ⟨rfl,rfl⟩|⟨rfl,hn⟩|hn
   ·rw [if_neg (by simp)] at hft
    have HFT:=Lib.hid hft
    clear hft
    go_enter Tryd.func53,Tryd.ntmps53
    go_wp2_with fail
    refine k3.out.mono ?_
    rintro e w1 ⟨rfl,hbw⟩
    have HX:=Lib.hid (Zd (zG (zG (Below.refl _ w) (Nat.le_refl _) _) (Nat.le_refl _) _) (Nat.le_refl _) hbw)
    obtain ⟨hbc,hbf,hbm,hbn⟩:=Xr hbw
    clear hbw
    go_wp2_with (first|(go_at_call 82;(with_reducible refine ((K1 _).out).mono ?_);rintro e w' ⟨rfl,q,rfl⟩)|(go_at_call 57;(with_reducible refine ((K2 _).out).mono ?_);rintro e w' ⟨rfl,q,rfl⟩))
    all_goals
     go_ret
     exact ⟨Zq zq12,z8 (zG HX.out (Nat.le_refl _) _) _⟩
   ·rw [if_pos ⟨rfl, hn⟩] at hft
    have hn2:(ck != 2)=true:=by rw [bne_iff_ne];exact hn
    have HFT:=Lib.hid hft
    clear hft
    go_enter Tryd.func53,Tryd.ntmps53
    go_wp2_with fail
    refine k3.out.mono ?_
    rintro e w1 ⟨rfl,hbw⟩
    have HX:=Lib.hid (Zd (zG (zG (Below.refl _ w) (Nat.le_refl _) _) (Nat.le_refl _) _) (Nat.le_refl _) hbw)
    obtain ⟨hbc,hbf,hbm,hbn⟩:=Xr hbw
    clear hbw
    go_wp2_with (first|(go_at_call 82;(with_reducible refine ((K1 _).out).mono ?_);rintro e w' ⟨rfl,q,rfl⟩)|(go_at_call 57;(with_reducible refine ((K2 _).out).mono ?_);rintro e w' ⟨rfl,q,rfl⟩))
    all_goals
     go_ret
     exact ⟨Zq zq12,z8 (zG HX.out (Nat.le_refl _) _) _⟩
   ·rw [if_neg (fun x=>hn x.1)] at hft
    have hn2:(k == 6)=false:=by rw [beq_eq_false_iff_ne];exact hn
    have HFT:=Lib.hid hft
    clear hft
    go_enter Tryd.func53,Tryd.ntmps53
    go_wp2_with fail
    refine k3.out.mono ?_
    rintro e w1 ⟨rfl,hbw⟩
    have HX:=Lib.hid (Zd (zG (zG (Below.refl _ w) (Nat.le_refl _) _) (Nat.le_refl _) _) (Nat.le_refl _) hbw)
    obtain ⟨hbc,hbf,hbm,hbn⟩:=Xr hbw
    clear hbw
    go_wp2_with (first|(go_at_call 82;(with_reducible refine ((K1 _).out).mono ?_);rintro e w' ⟨rfl,q,rfl⟩)|(go_at_call 57;(with_reducible refine ((K2 _).out).mono ?_);rintro e w' ⟨rfl,q,rfl⟩))
    all_goals
     go_ret
     exact ⟨Zq zq12,z8 (zG HX.out (Nat.le_refl _) _) _⟩
  ·rw [decide_eq_false ho] at k2
   have K2:=fun w=>Lib.hid (k2 w)
   clear k1 k2
   have hft:ft ck k A B C H=11:=by unfold ft;rw [if_pos (by omega)]
   generalize ft ck k A B C H=F at *
   clear ho hm
   have HFT:=Lib.hid hft
   clear hft
   go_enter Tryd.func53,Tryd.ntmps53
   go_wp2_with fail
   refine k3.out.mono ?_
   rintro e w1 ⟨rfl,hbw⟩
   have HX:=Lib.hid (Zd (zG (zG (Below.refl _ w) (Nat.le_refl _) _) (Nat.le_refl _) _) (Nat.le_refl _) hbw)
   obtain ⟨hbc,hbf,hbm,hbn⟩:=Xr hbw
   clear hbw
   go_wp2_with (first|(go_at_call 82;(with_reducible refine ((K1 _).out).mono ?_);rintro e w' ⟨rfl,q,rfl⟩)|(go_at_call 57;(with_reducible refine ((K2 _).out).mono ?_);rintro e w' ⟨rfl,q,rfl⟩))
   all_goals
    go_ret
    exact ⟨Zq zq12,z8 (zG HX.out (Nat.le_refl _) _) _⟩
 ·rw [decide_eq_false hm] at k1
  have K1:=fun w=>Lib.hid (k1 w)
  have K2:=fun w=>Lib.hid (k2 w)
  clear k1 k2
  have hft:ft ck k A B C H=11:=by unfold ft;rw [if_pos (by omega)]
  generalize ft ck k A B C H=F at *
  clear hm
  have HFT:=Lib.hid hft
  clear hft
  go_enter Tryd.func53,Tryd.ntmps53
  go_wp2_with fail
  refine k3.out.mono ?_
  rintro e w1 ⟨rfl,hbw⟩
  have HX:=Lib.hid (Zd (zG (zG (Below.refl _ w) (Nat.le_refl _) _) (Nat.le_refl _) _) (Nat.le_refl _) hbw)
  obtain ⟨hbc,hbf,hbm,hbn⟩:=Xr hbw
  clear hbw
  go_wp2_with (first|(go_at_call 82;(with_reducible refine ((K1 _).out).mono ?_);rintro e w' ⟨rfl,q,rfl⟩)|(go_at_call 57;(with_reducible refine ((K2 _).out).mono ?_);rintro e w' ⟨rfl,q,rfl⟩))
  all_goals
   go_ret
   exact ⟨Zq zq12,z8 (zG HX.out (Nat.le_refl _) _) _⟩
end Go.Proofs.YtgpldekhcojimaaDoor.Conf
namespace Go.Proofs.YtgpldekhcojimaaDoor.Sim
open Go.RowKit
set_option maxRecDepth 100000
abbrev i64 (n:Int):Prop:=-9223372036854775808≤n∧n≤9223372036854775807
abbrev cA (k s t h b:Int):AV:=.agg [I k,I s,I t,I h,I b]
abbrev xA (o:Int) (a b c:ByteArray) (h:Int):AV:=.agg [I o,S a,S b,S c,I h]
abbrev aA (e:Int) (h:Bool) (k v:ByteArray) (n:Int):AV:=.agg [I e,Bo h,S k,S v,I n]
theorem may52 (G:Nat→AV) (k s t h b:Int) (hk:i64 k) (hs:i64 s) (ht:i64 t) (hh:i64 h) (hb:i64 b):PC Tryd.prog G 52 [cA k s t h b] (I (Conf.mayE k s t h b)) :=
 yh (ys:=[.agg #[.int .i64 k,.int .i64 s,.int .i64 t,.int .i64 h,.int .i64 b]]) rfl rfl fun w=>(Conf.May_calls k s t h b w hk hs ht hh hb).mono fun e w' h=>h
theorem fits53 (k s t h b o:Int) (x y z:ByteArray) (i:Int) (hk:i64 k) (ho:i64 o) (hi:i64 i) (hx:x.size≤9223372036854775807) (hy:y.size≤9223372036854775807) (hz:z.size≤9223372036854775807):PC Tryd.prog zw 53 [cA k s t h b,xA o x y z i] (I (Conf.fits k o x y z i)) :=
 pc_callsG (ys:=[.agg #[.int .i64 k,.int .i64 s,.int .i64 t,.int .i64 h,.int .i64 b],.agg #[.int .i64 o,.string x,.string y,.string z,.int .i64 i]]) rfl rfl fun w hT=>(Conf.Fits_calls k s t h b o x y z i w hT hk ho hi (by rw [ZQ];exact hx) (by rw [ZQ];exact hy) (by rw [ZQ];exact hz)).mono fun e w' h=>h
def fOk (k s t h b o:Int) (x y z:ByteArray) (i:Int):Bool:=decide (Conf.mayE k s t h b=0) && decide (Conf.fits k o x y z i=0)
theorem Wa (k s t h b o:Int) (x y z:ByteArray) (i:Int) (hk:i64 k) (hs:i64 s) (ht:i64 t) (hh:i64 h) (hb:i64 b) (ho:i64 o) (hi:i64 i) (hx:x.size≤9223372036854775807) (hy:y.size≤9223372036854775807) (hz:z.size≤9223372036854775807) (r:Bool) (hr:r=fOk k s t h b o x y z i):PC Tryd.prog zw 25 [cA k s t h b,xA o x y z i] (Bo r):=by
 have c1:=may52 zw k s t h b hk hs ht hh hb
 have c2:=fits53 k s t h b o x y z i hk ho hi hx hy hz
 unfold fOk at hr
 generalize Conf.mayE k s t h b=m at *
 generalize Conf.fits k o x y z i=n at *
 by_cases hm:m=0
 ·subst hm
  by_cases hn:n=0
  ·subst hn
   obtain rfl:r=true:=by simpa using hr
   refine zf cop25 ?_
   repeat' ((conv=>whnf);first|(refine SeqP.go ?_)|((refine ObD.mk ?_ ?_);exact zD)|((refine ObN.mk ?_ ?_);exact zN)|(refine ObT.tt ?_)|((refine ObB.yes ?_ ?_);exact zB)|((with_reducible refine (?_:ObR _ _ _));(first|(refine ObR.mk _ zA ?_)|(refine ObR.map zX (fun x hx=>?_))|(refine ObR.mk _ rfl ?_)))|((refine ObC.f 52 ?_);(refine ObC.mk _ (c1) ?_))|((refine ObC.f 53 ?_);(refine ObC.mk _ (c2) ?_))|((refine ObEq.mk ?_);exact zE))
  ·obtain rfl : r = false := by simpa [hn] using hr
   refine zf cop25 ?_
   repeat' ((conv=>whnf);first|(refine SeqP.go ?_)|((refine ObD.mk ?_ ?_);exact zD)|((refine ObN.mk ?_ ?_);exact zN)|(refine ObT.tt ?_)|((refine ObB.yes ?_ ?_);exact zB)|((refine ObB.no ?_ ?_);exact zC)|((with_reducible refine (?_:ObR _ _ _));(first|(refine ObR.mk _ zA ?_)|(refine ObR.map zX (fun x hx=>?_))|(refine ObR.mk _ rfl ?_)))|((refine ObC.f 52 ?_);(refine ObC.mk _ (c1) ?_))|((refine ObC.f 53 ?_);(refine ObC.mk _ (c2) ?_))|((refine ObEq.mk ?_);exact zE))
 ·obtain rfl : r = false := by simpa [hm] using hr
  refine zf cop25 ?_
  repeat' ((conv=>whnf);first|(refine SeqP.go ?_)|((refine ObD.mk ?_ ?_);exact zD)|((refine ObN.mk ?_ ?_);exact zN)|(refine ObT.ff ?_)|((refine ObB.no ?_ ?_);exact zC)|((with_reducible refine (?_:ObR _ _ _));(first|(refine ObR.mk _ zA ?_)|(refine ObR.map zX (fun x hx=>?_))|(refine ObR.mk _ rfl ?_)))|((refine ObC.f 52 ?_);(refine ObC.mk _ (c1) ?_))|((refine ObEq.mk ?_);exact zE))
theorem isOp57 (G:Nat→AV) (o:Int) (ho:i64 o):PC Tryd.prog G 57 [I o] (Bo (decide (1≤o∧o≤13))) :=
 yh (ys:=[.int .i64 o]) rfl rfl fun w=>(Conf.isOp_calls o w ho).mono fun e w' h=>h.fresh
theorem held28 (o:Int) (ho:i64 o):PC Tryd.prog zw 28 [I o] (Bo (Conf.opB o 3)):=by
 have c:=isOp57 zw o ho
 by_cases h:1≤o∧o≤13
 ·rw [decide_eq_true h] at c
  obtain rfl|rfl|rfl|rfl|rfl|rfl|rfl|rfl|rfl|rfl|rfl|rfl|rfl:o=1∨o=2∨o=3∨o=4∨o=5∨o=6∨o=7∨o=8∨o=9∨o=10∨o=11∨o=12∨o=13:=by omega
  all_goals
   refine zf cop28 ?_
   repeat' ((conv=>whnf);first|(with_reducible first|refine SeqP.go ?_|refine ObT.tt ?_)|((refine ObX.mk _ rfl ?_ ?_);exact zX)|((with_reducible refine (?_:ObR _ _ _));(first|(refine ObR.mk _ zA ?_)|(refine ObR.map zX (fun x hx=>?_))|(refine ObR.mk _ rfl ?_)))|((refine ObC.f 57 ?_);(refine ObC.mk _ (c) ?_))|((refine ObEq.mk ?_);exact zE))
 ·have e : Conf.opB o 3 = false := by unfold Conf.opB; rw [if_neg h]
  rw [decide_eq_false h] at c
  rw [e]
  refine zf cop28 ?_
  repeat' ((conv=>whnf);first|(with_reducible first|refine SeqP.go ?_|refine ObT.ff ?_)|((refine ObC.f 57 ?_);(refine ObC.mk _ (c) ?_))|((refine ObEq.mk ?_);exact zE))
theorem Yq (G:Nat→AV) (p q:ByteArray) (h:Bool):PC Tryd.prog G 26 [.agg [S p,S q],Bo h] (aA 0 h p q 0):=by
 refine zf cop26 ?_
 repeat' ((conv=>whnf);first|(refine SeqP.go ?_)|((refine ObD.mk ?_ ?_);exact zD)|((refine ObN.mk ?_ ?_);exact zN)|((with_reducible refine (?_:ObU _ _));(refine ObU.mk _ zU ?_))|((with_reducible refine (?_:ObR _ _ _));(first|(refine ObR.mk _ zA ?_)|(refine ObR.map zX (fun x hx=>?_))|(refine ObR.mk _ rfl ?_)))|((refine ObEq.mk ?_);exact zE))
theorem Wz (G:Nat→AV) (l:List Pr7.Pr) (k v:ByteArray) (h:Bool) (c:PC Tryd.prog G 37 [.sl 2 (l.map Pr7.pA),S k] (.tup [S v,Bo h])):PC Tryd.prog G 30 [.sl 2 (l.map Pr7.pA),S k] (aA 0 h ⟨#[]⟩ v 0):=by
 refine zf cop30 ?_
 repeat' ((conv=>whnf);first|(refine SeqP.go ?_)|((refine ObD.mk ?_ ?_);exact zD)|((refine ObN.mk ?_ ?_);exact zN)|((with_reducible refine (?_:ObU _ _));(refine ObU.mk _ zU ?_))|((with_reducible refine (?_:ObR _ _ _));(first|(refine ObR.mk _ zA ?_)|(refine ObR.map zX (fun x hx=>?_))|(refine ObR.mk _ rfl ?_)))|((refine ObC.f 37 ?_);(refine ObC.mk _ (c) ?_))|((refine ObEq.mk ?_);exact zE))
end Go.Proofs.YtgpldekhcojimaaDoor.Sim
namespace Go.Proofs.YtgpldekhcojimaaDoor.Hash
open Go.RowKit
def I64 (a:Int):Prop:=-9223372036854775808≤a∧a≤9223372036854775807
def cl (b:Int):Nat:=if b < 0 then 0 else if b > 64 then 64 else b.toNat
theorem xD (b:Int):cl b≤64:=by
 unfold cl
 split
 ·omega
 ·split<;>omega
theorem mask_eq (h c:Nat) (hh:h < 18446744073709551616) (hc:c≤64):bits .and .u64 (h:Int) (IntKind.u64.wrap (IntKind.u64.wrap (2 ^ c) - 1))=((h % 2 ^ c:Nat):Int):=by
 have e:IntKind.u64.wrap (IntKind.u64.wrap ((2:Int) ^ c) - 1)=((2 ^ c - 1:Nat):Int):=by
  have h1:(1:Nat)≤2 ^ c:=Nat.one_le_two_pow
  have h2:(2:Nat) ^ c≤2 ^ 64:=Nat.pow_le_pow_right (by decide) hc
  have h3:((2:Int) ^ c)=((2 ^ c:Nat):Int):=by norm_cast
  rw [h3]
  generalize (2:Nat) ^ c=x at *
  simp only [IntKind.wrap,IntKind.bits,IntKind.signed]
  simp
  omega
 rw [e,u64_and_nat _ _ hh (by have h2:(2:Nat) ^ c≤2 ^ 64:=Nat.pow_le_pow_right (by decide) hc;omega),Nat.and_two_pow_sub_one_eq_mod]
theorem clamp_calls (b : Int) (w : World) (hb : I64 b) :
  Calls Tryd.prog 99 #[.int .i64 b] w (Quiet (.int .i64 (cl b)) w):=by
 unfold I64 at hb
 have e:cl b=if b < 0 then 0 else if b > 64 then 64 else b.toNat:=rfl
 generalize cl b=c at *
 split at e
 ·subst e
  go_enter Tryd.func99,Tryd.ntmps99
  go_wp2
  all_goals
   go_ret
   exact ⟨rfl,Drawn.refl _⟩
 ·split at e
  ·subst e
   go_enter Tryd.func99,Tryd.ntmps99
   go_wp2
   all_goals
    go_ret
    exact ⟨rfl,Drawn.refl _⟩
  ·go_enter Tryd.func99, Tryd.ntmps99
   go_wp2
   all_goals
    go_ret
    exact ⟨Zq (by omega),Drawn.refl _⟩
theorem low_calls (h : Nat) (b : Int) (w : World) (hh : h < 18446744073709551616) (hb : I64 b) :
  Calls Tryd.prog 91 #[.int .u64 h,.int .i64 b] w (Quiet (.int .u64 ((h % 2 ^ cl b:Nat):Int)) w):=by
 have k1:=fun w=>Lib.hid (clamp_calls b w hb)
 have hc:=xD b
 generalize cl b=c at *
 go_enter Tryd.func91,Tryd.ntmps91
 go_wp2_with (go_at_call 99;(with_reducible refine (k1 _).out.mono ?_);rintro e w' ⟨rfl,q,rfl⟩)
 have e:=mask_eq h c hh hc
 go_ret
 exact ⟨Zq e,⟨_,rfl⟩⟩
theorem Levels_calls (b : Int) (w : World) (hb : I64 b) :
  Calls Tryd.prog 92 #[.int .i64 b] w (Quiet (.int .i64 (((cl b+4) / 5:Nat):Int)) w):=by
 have k1:=fun w=>Lib.hid (clamp_calls b w hb)
 have hc:=xD b
 generalize cl b=c at *
 go_enter Tryd.func92,Tryd.ntmps92
 go_wp2_with (go_at_call 99;(with_reducible refine (k1 _).out.mono ?_);rintro e w' ⟨rfl,q,rfl⟩)
 go_ret
 exact ⟨Zq (by omega),⟨_,rfl⟩⟩
def XC:Nat:=14695981039346656037
def xm (h:Nat) (c:UInt8):Nat:=((h ^^^ c.toNat) * 1099511628211) % 18446744073709551616
def fnv (l:List UInt8):Nat:=l.foldl xm XC
theorem step_lt (h:Nat) (c:UInt8):xm h c < 18446744073709551616:=by unfold xm;omega
theorem fold_lt (l:List UInt8) (h:Nat) (hh:h < 18446744073709551616):l.foldl xm h < 18446744073709551616:=by
 induction l generalizing h with
 | nil=>exact hh
 | cons c l ih=>exact ih _ (step_lt h c)
theorem start_lt:XC < 18446744073709551616:=by unfold XC;omega
theorem X7 (l:List UInt8):fnv l=l.foldl xm XC:=by unfold fnv;exact Eq.refl (l.foldl xm XC)
theorem fnv_lt (l:List UInt8):fnv l < 18446744073709551616:=by rw [X7];exact fold_lt l XC start_lt
theorem fold_snoc (l:List UInt8) (c:UInt8) (h:Nat):(l++[c]).foldl xm h=xm (l.foldl xm h) c:=by
 rw [List.foldl_append,List.foldl_cons,List.foldl_nil]
theorem fnv_snoc (l:List UInt8) (c:UInt8):fnv (l++[c])=xm (fnv l) c:=by
 rw [X7,X7,fold_snoc]
theorem step_eq (h:Nat) (c:UInt8) (hh:h < 18446744073709551616):IntKind.u64.wrap (bits .xor .u64 (h:Int) (IntKind.u64.wrap (c.toNat:Int)) * 1099511628211)=((xm h c:Nat):Int):=by
 have hw:IntKind.u64.wrap (c.toNat:Int)=(c.toNat:Int):=by have:=c.toNat_lt;simp only [IntKind.wrap,IntKind.bits,IntKind.signed];simp;omega
 rw [hw,u64_xor_nat _ _ hh (by have:=c.toNat_lt;omega)]
 unfold xm
 generalize (h ^^^ c.toNat)=x
 simp only [IntKind.wrap,IntKind.bits,IntKind.signed]
 simp
theorem take_snoc (s:ByteArray) (k:Nat) (h:k < s.size):s.data.toList.take (k+1)=s.data.toList.take k++[s[k]]:=by
 rw [List.take_succ_eq_append_getElem (by simpa using h)];rfl
theorem take_all (s:ByteArray) (k:Nat) (h:s.size≤k):s.data.toList.take k=s.data.toList:=by
 apply List.take_of_length_le;simpa using h
set_option maxHeartbeats 400000 in
theorem Of_calls (s : ByteArray) (b : Int) (w : World) (hs : s.size ≤ 100000) (hb : I64 b) :
  Calls Tryd.prog 74 #[.string s,.int .i64 b] w (Quiet (.int .u64 ((fnv s.data.toList % 2 ^ cl b:Nat):Int)) w):=by
 have kl:=fun w=>Lib.hid (low_calls (fnv s.data.toList) b w (fnv_lt _) hb)
 go_enter Tryd.func74,Tryd.ntmps74
 go_wp2_with fail
 go_loop [5,9] (fun h i=>∃ k:Nat,i = .int .i64 k∧k≤s.size∧h = .int .u64 ((fnv (s.data.toList.take k):Nat):Int)) (fun _ i=>s.size - (intOf i).toNat)
 case atStart=>exact ⟨0,rfl,by omega,rfl⟩
 case round =>
  obtain ⟨k,rfl,hk,rfl⟩:=hrel
  by_cases hlt:k < s.size
  ·have g1 : (k : Int) < (s.size : Int) := by omega
   have e1:=step_eq (fnv (s.data.toList.take k)) s[k] (fnv_lt _)
   rw [← fnv_snoc,← take_snoc s k hlt] at e1
   generalize fnv (s.data.toList.take k)=x at *
   have E1:=Lib.hid e1
   clear e1
   go_wp2_with fail
   go_round
   case rel=>exact ⟨k+1,by go_num,by omega,by rw [← E1.out]⟩
   case measure=>simp [intOf];omega
  ·rw [take_all s k (by omega)]
   go_wp2_with (go_at_call 91;(with_reducible refine (kl _).out.mono ?_);rintro e w' ⟨rfl,q,rfl⟩)
   go_ret
   exact ⟨rfl,⟨_,rfl⟩⟩
theorem yW (b : Int) (w : World) (hb : I64 b) :
  Calls Tryd.prog 94 #[.int .i64 b] w (Quiet (.int .i64 (cl b)) w):=by
 unfold I64 at hb
 have e:cl b=if b < 0 then 0 else if b > 64 then 64 else b.toNat:=rfl
 generalize cl b=c at *
 split at e
 ·subst e
  go_enter Tryd.func94,Tryd.ntmps94
  go_wp2
  all_goals
   go_ret
   exact ⟨rfl,Drawn.refl _⟩
 ·split at e
  ·subst e
   go_enter Tryd.func94,Tryd.ntmps94
   go_wp2
   all_goals
    go_ret
    exact ⟨rfl,Drawn.refl _⟩
  ·go_enter Tryd.func94, Tryd.ntmps94
   go_wp2
   all_goals
    go_ret
    exact ⟨Zq (by omega),Drawn.refl _⟩
def Low (H k y z t:Nat):Prop:=y=H / 2 ^ k∧z=H % 2 ^ k∧t=2 ^ k % 18446744073709551616
theorem sum_u64 (y z t:Nat) (g4:z+t * (y % 2) < 18446744073709551616) (g5:t * (y % 2) < 18446744073709551616):IntKind.u64.wrap ((z:Int)+IntKind.u64.wrap ((t:Int) * ((y:Int) % 2)))=((z+t * (y % 2):Nat):Int):=by
 have e:((t:Int) * ((y:Int) % 2))=((t * (y % 2):Nat):Int):=by norm_cast
 rw [e]
 generalize t * (y % 2)=x at *
 simp only [IntKind.wrap,IntKind.bits,IntKind.signed]
 simp
 omega
theorem dbl_u64 (t:Nat):IntKind.u64.wrap (2 * (t:Int))=((2 * t % 18446744073709551616:Nat):Int):=by
 simp only [IntKind.wrap,IntKind.bits,IntKind.signed]
 simp
theorem Low.zero (H:Nat):Low H 0 H 0 1:=⟨by simp,by rw [Nat.pow_zero,Nat.mod_one],by decide⟩
theorem pow_le_63 {k:Nat} (h:k < 64):2 ^ k≤9223372036854775808:=Nat.le_trans (Nat.pow_le_pow_right (by decide) (show k≤63 by omega)) (by decide)
theorem Low.fits {H k y z t:Nat} (hk:k < 64) (h:Low H k y z t):t≤9223372036854775808∧z+t * (y % 2) < 18446744073709551616∧t * (y % 2) < 18446744073709551616:=by
 obtain ⟨rfl,rfl,rfl⟩:=h
 have h1:=pow_le_63 hk
 have h2:H % 2 ^ k < 2 ^ k:=Nat.mod_lt _ (Nat.two_pow_pos k)
 generalize 2 ^ k=p at *
 have h3:p % 18446744073709551616=p:=by omega
 rw [h3]
 have h4:H / p % 2=0∨H / p % 2=1:=by omega
 rcases h4 with h4|h4<;>rw [h4]<;>simp<;>omega
theorem Low.succ {H k y z t:Nat} (hk:k < 64) (h:Low H k y z t):Low H (k+1) (y / 2) (z+t * (y % 2)) (2 * t % 18446744073709551616):=by
 obtain ⟨rfl,rfl,rfl⟩:=h
 have h1:=pow_le_63 hk
 have h3:2 ^ k % 18446744073709551616=2 ^ k:=Nat.mod_eq_of_lt (Nat.lt_of_le_of_lt h1 (by decide))
 rw [h3]
 refine ⟨by rw [Nat.pow_succ,Nat.div_div_eq_div_mul],by rw [Nat.mod_pow_succ],by rw [Nat.pow_succ,Nat.mul_comm]⟩
set_option maxHeartbeats 400000 in
theorem RefOf_calls (s : ByteArray) (b : Int) (w : World) (hs : s.size ≤ 100000) (hb : I64 b) :
  Calls Tryd.prog 76 #[.string s,.int .i64 b] w (Quiet (.int .u64 ((fnv s.data.toList % 2 ^ cl b:Nat):Int)) w):=by
 have kc:=fun w=>Lib.hid (yW b w hb)
 have hc:=xD b
 generalize cl b=c at *
 go_enter Tryd.func76,Tryd.ntmps76
 go_wp2_with fail
 go_loop [5,6] (fun h i=>∃ k:Nat,i = .int .i64 k∧k≤s.size∧h = .int .u64 ((fnv (s.data.toList.take k):Nat):Int)) (fun _ i=>s.size - (intOf i).toNat)
 case atStart=>exact ⟨0,rfl,by omega,rfl⟩
 case round =>
  obtain ⟨k,rfl,hk,rfl⟩:=hrel
  by_cases hlt:k < s.size
  ·have g1 : (k : Int) < (s.size : Int) := by omega
   have e1:=step_eq (fnv (s.data.toList.take k)) s[k] (fnv_lt _)
   rw [← fnv_snoc,← take_snoc s k hlt] at e1
   generalize fnv (s.data.toList.take k)=x at *
   have E1:=Lib.hid e1
   clear e1
   go_wp2_with fail
   go_round
   case rel=>exact ⟨k+1,by go_num,by omega,by rw [← E1.out]⟩
   case measure=>simp [intOf];omega
  ·rw [take_all s k (by omega)]
   have hf:=fnv_lt s.data.toList
   generalize fnv s.data.toList=H at *
   go_wp2_with fail
   go_loopw [5,7,8,9] (fun x o u i wr=>∃ k:Nat,i = .int .i64 k∧k≤c∧(∃ y z t:Nat,y < 18446744073709551616∧z < 18446744073709551616∧t < 18446744073709551616∧x = .int .u64 (y:Int)∧o = .int .u64 (z:Int)∧u = .int .u64 (t:Int)∧Hid (Low H k y z t))∧Drawn w wr) (fun _ _ _ i _=>c - (intOf i).toNat)
   case atStart=>exact ⟨0,rfl,by omega,⟨H,0,1,by omega,by omega,by omega,rfl,rfl,rfl,yP (Low.zero H)⟩,Drawn.refl w⟩
   case round =>
    obtain ⟨k,rfl,hk,⟨y,z,t,hy,hz,ht,rfl,rfl,rfl,HL⟩,q,rfl⟩:=hrel
    by_cases hlt:k < c
    ·have g1 : (k : Int) < (c : Int) := by omega
     have HL2:=Lib.hid (Low.succ (by omega:k < 64) HL.out)
     have g2:=Low.fits (by omega:k < 64) HL.out
     obtain ⟨g3,g4,g5⟩:=g2
     go_wp2_with (go_at_call 94;(with_reducible refine (kc _).out.mono ?_);rintro e w' ⟨rfl,q,rfl⟩)
     go_roundw
     case rel =>
      refine ⟨k+1,by go_num,by omega,⟨y / 2,z+t * (y % 2),2 * t % 18446744073709551616,by omega,g4,by omega,by go_num,?_,?_,HL2⟩,_,rfl⟩
      ·rw [sum_u64 y z t g4 g5]
      ·rw [dbl_u64]
     case measure=>simp [intOf];omega
    ·have e : k = c := by omega
     go_wp2_with (go_at_call 94;(with_reducible refine (kc _).out.mono ?_);rintro e w' ⟨rfl,q,rfl⟩)
     go_ret
     exact ⟨Zq (by rw [HL.out.2.1,e]),⟨_,rfl⟩⟩
theorem chunk_eq (h c n:Nat) (hh:h < 18446744073709551616) (hc:c≤64):wrap64 (bits .and .u64 ((h:Int) % 2 ^ c / 2 ^ (5 * (n:Int)).toNat) 31)=((h % 2 ^ c / 2 ^ (5 * n) % 32:Nat):Int):=by
 have e:((h:Int) % 2 ^ c / 2 ^ (5 * (n:Int)).toNat)=((h % 2 ^ c / 2 ^ (5 * n):Nat):Int):=by
  have h1:(5 * (n:Int)).toNat=5 * n:=by omega
  rw [h1]
  norm_cast
 have hb:h % 2 ^ c / 2 ^ (5 * n) < 18446744073709551616:=Nat.lt_of_le_of_lt (Nat.div_le_self _ _) (Nat.lt_of_le_of_lt (Nat.mod_le _ _) hh)
 rw [e]
 generalize h % 2 ^ c / 2 ^ (5 * n)=x at *
 have:=u64_and_nat x 31 hb (by decide)
 rw [show ((31:Nat):Int)=31 from rfl] at this
 rw [this,nat_mask5]
 unfold wrap64
 omega
def Zs (h:Nat) (l:Int) (c:Nat):Nat:=if 0≤l∧l < (c+4) / 5 then h % 2 ^ c / 2 ^ (5 * l.toNat) % 32 else 0
set_option maxHeartbeats 400000 in
theorem Chunk_calls (h : Nat) (l b : Int) (w : World) (hh : h < 18446744073709551616) (hl : I64 l) (hb : I64 b) :
  Calls Tryd.prog 93 #[.int .u64 h,.int .i64 l,.int .i64 b] w (Quiet (.int .i64 (Zs h l (cl b))) w):=by
 have k1:=fun w=>Lib.hid (Levels_calls b w hb)
 have k2:=fun w=>Lib.hid (low_calls h b w hh hb)
 have hc:=xD b
 unfold I64 at hl
 generalize cl b=c at *
 have e:Zs h l c=if 0≤l∧l < (c+4) / 5 then h % 2 ^ c / 2 ^ (5 * l.toNat) % 32 else 0:=rfl
 by_cases h1:l < 0
 ·rw [if_neg (by omega)] at e
  rw [e];clear e
  go_enter Tryd.func93,Tryd.ntmps93
  go_wp2_with fail
  go_ret
  exact ⟨rfl,Drawn.refl _⟩
 by_cases h2:l≥(((c+4) / 5:Nat):Int)
 ·rw [if_neg (by omega)] at e
  rw [e];clear e
  have h3:((c:Int)+4) / 5≤l:=by omega
  go_enter Tryd.func93,Tryd.ntmps93
  go_wp2_with (go_at_call 92;(with_reducible refine (k1 _).out.mono ?_);rintro e w' ⟨rfl,q,rfl⟩)
  go_ret
  exact ⟨rfl,⟨_,rfl⟩⟩
 ·rw [if_pos (by omega)] at e
  obtain ⟨n,rfl⟩:=Int.eq_ofNat_of_zero_le (show 0≤l by omega)
  have x:=chunk_eq h c n hh hc
  rw [Int.toNat_natCast] at e
  rw [e,← x]
  clear e x
  have h3:(n:Int) < ((c:Int)+4) / 5:=by omega
  go_enter Tryd.func93,Tryd.ntmps93
  go_wp2_with (first|(go_at_call 92;(with_reducible refine (k1 _).out.mono ?_);rintro e w' ⟨rfl,q,rfl⟩)|(go_at_call 91;(with_reducible refine (k2 _).out.mono ?_);rintro e w' ⟨rfl,q,rfl⟩))
  go_ret
  exact ⟨rfl,⟨_,rfl⟩⟩
theorem bit_calls (h i : Nat) (w : World) (hh : h < 18446744073709551616) (hi : i ≤ 100) :
  Calls Tryd.prog 100 #[.int .u64 h,.int .i64 i] w (Quiet (.int .i64 ((h / 2 ^ i % 2:Nat):Int)) w):=by
 go_enter Tryd.func100,Tryd.ntmps100
 go_wp2_with fail
 go_loop [0,5] (fun x j=>∃ k:Nat,j = .int .i64 k∧k≤i∧∃ y:Nat,y≤h∧x = .int .u64 (y:Int)∧Hid (y=h / 2 ^ k)) (fun _ j=>i - (intOf j).toNat)
 case atStart=>exact ⟨0,rfl,by omega,h,by omega,rfl,yP (by simp)⟩
 case round =>
  obtain ⟨k,rfl,hk,y,hy,rfl,H⟩:=hrel
  by_cases hlt:k < i
  ·have g1 : (k : Int) < (i : Int) := by omega
   go_wp2_with fail
   go_round
   case rel=>exact ⟨k+1,by go_num,by omega,y / 2,by omega,by go_num,yP (by rw [H.out,Nat.pow_succ,Nat.div_div_eq_div_mul])⟩
   case measure=>simp [intOf];omega
  ·have e : k = i := by omega
   have H2:Hid (y=h / 2 ^ i):=by rw [← e];exact H
   clear H e
   go_wp2_with fail
   go_ret
   refine ⟨Zq ?_,Drawn.refl _⟩
   have:=congrArg (fun n:Nat=>((n % 2:Nat):Int)) H2.out
   simpa using this
theorem RefLevels_calls (b : Int) (w : World) (hb : I64 b) :
  Calls Tryd.prog 95 #[.int .i64 b] w (Quiet (.int .i64 (((cl b+4) / 5:Nat):Int)) w):=by
 have kc:=fun w=>Lib.hid (yW b w hb)
 have hc:=xD b
 generalize cl b=c at *
 go_enter Tryd.func95,Tryd.ntmps95
 go_wp2_with fail
 go_loopw [3] (fun i wr=>∃ k:Nat,i = .int .i64 k∧k≤(c+4) / 5∧Drawn w wr) (fun i _=>100 - (intOf i).toNat)
 case atStart=>exact ⟨0,rfl,by omega,Drawn.refl w⟩
 case round =>
  obtain ⟨k,rfl,hk,q,rfl⟩:=hrel
  by_cases hlt:k < (c+4) / 5
  ·have g1 : 5 * (k : Int) < (c : Int) := by omega
   go_wp2_with (go_at_call 94;(with_reducible refine (kc _).out.mono ?_);rintro e w' ⟨rfl,q,rfl⟩)
   go_roundw
   case rel=>exact ⟨k+1,by go_num,by omega,_,rfl⟩
   case measure=>simp [intOf];omega
  ·have g1 : ¬ 5 * (k : Int) < (c : Int) := by omega
   go_wp2_with (go_at_call 94;(with_reducible refine (kc _).out.mono ?_);rintro e w' ⟨rfl,q,rfl⟩)
   go_ret
   exact ⟨Zq (by omega),⟨_,rfl⟩⟩
end Go.Proofs.YtgpldekhcojimaaDoor.Hash
namespace Go.Proofs.YtgpldekhcojimaaDoor.Hash
open Go.RowKit
theorem low_bit (h c i:Nat) (hi:i < c):h % 2 ^ c / 2 ^ i % 2=h / 2 ^ i % 2:=by
 have e:2 ^ c=2 ^ i * 2 ^ (c - i):=by rw [← Nat.pow_add];congr 1;omega
 rw [e,Nat.mod_mul_right_div_self]
 have e2:2 ^ (c - i)=2 * 2 ^ (c - i - 1):=by rw [← Nat.pow_succ'];congr 1;omega
 rw [e2,Nat.mod_mul_right_mod]
def Part (x k z t:Nat):Prop:=z=x % 2 ^ k∧t=2 ^ k
theorem Part.zero (x:Nat):Part x 0 0 1:=⟨by rw [Nat.pow_zero,Nat.mod_one],rfl⟩
theorem Part.succ {x k z t:Nat} (h:Part x k z t):Part x (k+1) (z+t * (x / 2 ^ k % 2)) (2 * t):=by
 obtain ⟨rfl,rfl⟩:=h
 exact ⟨by rw [Nat.mod_pow_succ],by rw [Nat.pow_succ,Nat.mul_comm]⟩
theorem Part.fits {x k z t:Nat} (hk:k < 5) (h:Part x k z t):z≤32∧t≤32∧t * (x / 2 ^ k % 2)≤32:=by
 obtain ⟨rfl,rfl⟩:=h
 have h1:2 ^ k≤32:=Nat.le_trans (Nat.pow_le_pow_right (by decide) (show k≤5 by omega)) (by decide)
 have h2:x % 2 ^ k < 2 ^ k:=Nat.mod_lt _ (Nat.two_pow_pos k)
 have h4:x / 2 ^ k % 2=0∨x / 2 ^ k % 2=1:=by omega
 generalize 2 ^ k=p at *
 rcases h4 with h4|h4<;>rw [h4]<;>simp<;>omega
theorem Part.le {x k z t:Nat} (hk:k≤5) (h:Part x k z t):z≤32:=by
 obtain ⟨rfl,rfl⟩:=h
 have h1:2 ^ k≤32:=Nat.le_trans (Nat.pow_le_pow_right (by decide) hk) (by decide)
 have h2:x % 2 ^ k < 2 ^ k:=Nat.mod_lt _ (Nat.two_pow_pos k)
 omega
theorem Part.done {x k z t c l:Nat} (h:Part x k z t) (hx:x < 2 ^ (c - 5 * l)) (hk:k≤5) (hd:k=5∨5 * l+k=c):z=x % 32:=by
 obtain ⟨rfl,rfl⟩:=h
 rcases hd with rfl|hd
 ·rfl
 ·have e : c - 5 * l = k := by omega
  rw [e] at hx
  rw [Nat.mod_eq_of_lt hx,Nat.mod_eq_of_lt]
  exact Nat.lt_of_lt_of_le hx (Nat.le_trans (Nat.pow_le_pow_right (by decide) hk) (by decide))
theorem high_lt (h c l:Nat) (hl:5 * l≤c):h % 2 ^ c / 2 ^ (5 * l) < 2 ^ (c - 5 * l):=by
 rw [Nat.div_lt_iff_lt_mul (Nat.two_pow_pos _),← Nat.pow_add]
 have e:c - 5 * l+5 * l=c:=by omega
 rw [e]
 exact Nat.mod_lt _ (Nat.two_pow_pos c)
theorem high_bit (h c l k:Nat) (hk:5 * l+k < c):h % 2 ^ c / 2 ^ (5 * l) / 2 ^ k % 2=h / 2 ^ (5 * l+k) % 2:=by
 rw [Nat.div_div_eq_div_mul,← Nat.pow_add,low_bit h c _ hk]
set_option maxHeartbeats 800000 in
theorem RefChunk_calls (h : Nat) (l b : Int) (w : World) (hh : h < 18446744073709551616) (hl : I64 l) (hb : I64 b) :
  Calls Tryd.prog 96 #[.int .u64 h,.int .i64 l,.int .i64 b] w (Quiet (.int .i64 (Zs h l (cl b))) w):=by
 have k1:=fun w=>Lib.hid (RefLevels_calls b w hb)
 have k2:=fun w=>Lib.hid (yW b w hb)
 have hc:=xD b
 unfold I64 at hl
 generalize cl b=c at *
 have e:Zs h l c=if 0≤l∧l < (c+4) / 5 then h % 2 ^ c / 2 ^ (5 * l.toNat) % 32 else 0:=rfl
 by_cases h1:l < 0
 ·rw [if_neg (by omega)] at e
  rw [e];clear e
  go_enter Tryd.func96,Tryd.ntmps96
  go_wp2_with fail
  go_ret
  exact ⟨rfl,Drawn.refl _⟩
 by_cases h2:l≥(((c+4) / 5:Nat):Int)
 ·rw [if_neg (by omega)] at e
  rw [e];clear e
  have h3:((c:Int)+4) / 5≤l:=by omega
  go_enter Tryd.func96,Tryd.ntmps96
  go_wp2_with (go_at_call 95;(with_reducible refine (k1 _).out.mono ?_);rintro e w' ⟨rfl,q,rfl⟩)
  go_ret
  exact ⟨rfl,⟨_,rfl⟩⟩
 ·rw [if_pos (by omega)] at e
  obtain ⟨n,rfl⟩:=Int.eq_ofNat_of_zero_le (show 0≤l by omega)
  rw [Int.toNat_natCast] at e
  rw [e]
  clear e
  have h3:(n:Int) < ((c:Int)+4) / 5:=by omega
  have h4:5 * n≤c:=by omega
  have hx:=high_lt h c n h4
  have hy:=high_bit h c n
  have h5:n≤13:=by omega
  generalize h % 2 ^ c / 2 ^ (5 * n)=x at *
  have HX:=Lib.hid hx
  have HY:=Lib.hid hy
  clear hx hy
  have kb:=fun (i:Nat) (hi:i≤100) w=>Lib.hid (bit_calls h i w hh hi)
  go_enter Tryd.func96,Tryd.ntmps96
  go_wp2_with (go_at_call 95;(with_reducible refine (k1 _).out.mono ?_);rintro e w' ⟨rfl,q,rfl⟩)
  go_loopw [7,8,9] (fun o u i wr=>∃ k m z t:Nat,i = .int .i64 (m:Int)∧o = .int .i64 (z:Int)∧u = .int .i64 (t:Int)∧k≤5∧m≤c∧m≤70∧z≤32∧t≤64∧Hid (m=5 * n+k∧Part x k z t)∧Drawn w wr) (fun _ _ i _=>100 - (intOf i).toNat)
  case atStart=>exact ⟨0,5 * n,0,1,by go_num,rfl,rfl,by omega,by omega,by omega,by omega,by omega,yP ⟨rfl,Part.zero x⟩,_,rfl⟩
  case round =>
   obtain ⟨k,m,z,t,rfl,rfl,rfl,hk,hm,hm2,hz,ht,HP,q,rfl⟩:=hrel
   by_cases hlt:k < 5
   ·have g1 : (m : Int) < 5 * (n : Int) + 5 := by have := HP.out.1; omega
    by_cases hlc:m < c
    ·have g2 : (m : Int) < (c : Int) := by omega
     have hf:=HP.out.2.fits hlt
     have hs:=HP.out.2.succ
     have hbit:x / 2 ^ k % 2=h / 2 ^ m % 2:=by have:=HY.out k (by have:=HP.out.1;omega);rw [HP.out.1];exact this
     rw [hbit] at hf hs
     have kbm:=kb m (by omega)
     clear hbit
     have hb2:h / 2 ^ m % 2≤1:=by omega
     generalize h / 2 ^ m % 2=y at *
     obtain ⟨f1,f2,f3⟩:=hf
     have HS:=Lib.hid hs
     clear hs
     go_wp2_with (first|(go_at_call 94;(with_reducible refine (k2 _).out.mono ?_);rintro e w' ⟨rfl,q,rfl⟩)|(go_at_call 100;(with_reducible refine (kbm _).out.mono ?_);rintro e w' ⟨rfl,q,rfl⟩))
     go_roundw
     case rel=>exact ⟨k+1,m+1,z+t * y,2 * t,by go_num,int_eq (by norm_cast),int_eq (by norm_cast),by omega,by omega,by omega,HS.out.le (by omega),by omega,yP ⟨by have:=HP.out.1;omega,HS.out⟩,_,rfl⟩
     case measure=>simp [intOf];omega
    ·have g2 : ¬ (m : Int) < (c : Int) := by omega
     have HD:=Lib.hid (HP.out.2.done (c:=c) (l:=n) HX.out hk (Or.inr (by have:=HP.out.1;omega)))
     go_wp2_with (go_at_call 94;(with_reducible refine (k2 _).out.mono ?_);rintro e w' ⟨rfl,q,rfl⟩)
     go_ret
     exact ⟨Zq (congrArg (fun n:Nat=>(n:Int)) HD.out),⟨_,rfl⟩⟩
   ·have g1 : ¬ (m : Int) < 5 * (n : Int) + 5 := by have := HP.out.1; omega
    have HD:=Lib.hid (HP.out.2.done (c:=c) (l:=n) HX.out hk (Or.inl (by omega)))
    go_wp2_with fail
    go_ret
    exact ⟨Zq (congrArg (fun n:Nat=>(n:Int)) HD.out),⟨_,rfl⟩⟩
def yA (a b c:Nat):Nat→Nat→Bool
 | _,0=>false
 | l,n+1=>if Zs a l c=Zs b l c then yA a b c (l+1) n else decide (Zs a l c < Zs b l c)
def bef (a b c:Nat):Bool:=yA a b c 0 ((c+4) / 5)
set_option maxHeartbeats 800000 in
theorem Before_calls (x y : Nat) (b : Int) (w : World) (hx : x < 18446744073709551616) (hy : y < 18446744073709551616) (hb : I64 b) :
  Calls Tryd.prog 75 #[.int .u64 x,.int .u64 y,.int .i64 b] w (Quiet (.bool (bef x y (cl b))) w):=by
 have k1:=fun w=>Lib.hid (Levels_calls b w hb)
 have k2:=fun (l:Int) (hl:I64 l) w=>Lib.hid (Chunk_calls x l b w hx hl hb)
 have k3:=fun (l:Int) (hl:I64 l) w=>Lib.hid (Chunk_calls y l b w hy hl hb)
 have hc:=xD b
 generalize cl b=c at *
 go_enter Tryd.func75,Tryd.ntmps75
 have hL:(c+4) / 5≤13:=by omega
 unfold bef
 generalize (c+4) / 5=L at *
 go_wp2_with (go_at_call 92;(with_reducible refine (k1 _).out.mono ?_);rintro e w' ⟨rfl,q,rfl⟩)
 go_loopw [12] (fun i wr=>∃ k n:Nat,i = .int .i64 (k:Int)∧k≤L∧Hid (k+n=L∧yA x y c 0 L=yA x y c k n)∧Drawn w wr) (fun i _=>100 - (intOf i).toNat)
 case atStart=>exact ⟨0,L,rfl,by omega,yP ⟨by omega,rfl⟩,_,rfl⟩
 case round =>
  obtain ⟨k,n,rfl,hk,HB,q,rfl⟩:=hrel
  by_cases hlt:k < L
  ·have g1 : (k : Int) < (L : Int) := by omega
   have c1:=k2 k (by unfold I64;omega)
   have c2:=k3 k (by unfold I64;omega)
   have e1:yA x y c k n=if Zs x k c=Zs y k c then yA x y c (k+1) (n - 1) else decide (Zs x k c < Zs y k c):=by
    obtain ⟨m,rfl⟩:∃ m,n=m+1:=⟨n - 1,by have:=HB.out.1;omega⟩
    rfl
   by_cases he:Zs x k c=Zs y k c
   ·rw [if_pos he] at e1
    have HB2:Hid (k+1+(n - 1)=L∧yA x y c 0 L=yA x y c (k+1) (n - 1)):=yP ⟨by have:=HB.out.1;omega,by rw [← e1];exact HB.out.2⟩
    rw [he] at c1
    clear e1 he
    generalize Zs y k c=v at *
    go_wp2_with (go_at_call 93;(first|with_reducible refine (c1 _).out.mono ?_|with_reducible refine (c2 _).out.mono ?_);rintro e w' ⟨rfl,q,rfl⟩)
    go_roundw
    case rel=>exact ⟨k+1,n - 1,by go_num,by omega,HB2,_,rfl⟩
    case measure=>simp [intOf];omega
   ·rw [if_neg he] at e1
    have HB2:Hid (yA x y c 0 L=decide (Zs x k c < Zs y k c)):=yP (by rw [← e1];exact HB.out.2)
    clear e1
    generalize Zs y k c=v at *
    generalize Zs x k c=u at *
    have e2:((u:Int) == (v:Int))=false:=by simp;omega
    have e3:((u:Int) != (v:Int))=true:=by simp;omega
    clear he
    go_wp2_with (go_at_call 93;(first|with_reducible refine (c1 _).out.mono ?_|with_reducible refine (c2 _).out.mono ?_);rintro e w' ⟨rfl,q,rfl⟩)
    go_ret
    exact ⟨yJ (by rw [HB2.out]),⟨_,rfl⟩⟩
  ·have g1 : ¬ (k : Int) < (L : Int) := by omega
   have HB2:Hid (yA x y c 0 L=false):=yP (by
    rw [HB.out.2]
    have:n=0:=by have:=HB.out.1;omega
    subst this
    rfl)
   go_wp2_with fail
   go_ret
   exact ⟨yJ (by rw [HB2.out]),⟨_,rfl⟩⟩
set_option maxHeartbeats 800000 in
theorem RefBefore_calls (x y : Nat) (b : Int) (w : World) (hx : x < 18446744073709551616) (hy : y < 18446744073709551616) (hb : I64 b) :
  Calls Tryd.prog 77 #[.int .u64 x,.int .u64 y,.int .i64 b] w (Quiet (.bool (bef x y (cl b))) w):=by
 have k1:=fun w=>Lib.hid (RefLevels_calls b w hb)
 have k2:=fun (l:Int) (hl:I64 l) w=>Lib.hid (RefChunk_calls x l b w hx hl hb)
 have k3:=fun (l:Int) (hl:I64 l) w=>Lib.hid (RefChunk_calls y l b w hy hl hb)
 have hc:=xD b
 generalize cl b=c at *
 go_enter Tryd.func77,Tryd.ntmps77
 have hL:(c+4) / 5≤13:=by omega
 unfold bef
 generalize (c+4) / 5=L at *
 go_wp2_with fail
 go_loopw [7] (fun i wr=>∃ k n:Nat,i = .int .i64 (k:Int)∧k≤L∧Hid (k+n=L∧yA x y c 0 L=yA x y c k n)∧Drawn w wr) (fun i _=>100 - (intOf i).toNat)
 case atStart=>exact ⟨0,L,rfl,by omega,yP ⟨by omega,rfl⟩,Drawn.refl _⟩
 case round =>
  obtain ⟨k,n,rfl,hk,HB,q,rfl⟩:=hrel
  by_cases hlt:k < L
  ·have g1 : (k : Int) < (L : Int) := by omega
   have c1:=k2 k (by unfold I64;omega)
   have c2:=k3 k (by unfold I64;omega)
   have e1:yA x y c k n=if Zs x k c=Zs y k c then yA x y c (k+1) (n - 1) else decide (Zs x k c < Zs y k c):=by
    obtain ⟨m,rfl⟩:∃ m,n=m+1:=⟨n - 1,by have:=HB.out.1;omega⟩
    rfl
   by_cases he:Zs x k c=Zs y k c
   ·rw [if_pos he] at e1
    have HB2:Hid (k+1+(n - 1)=L∧yA x y c 0 L=yA x y c (k+1) (n - 1)):=yP ⟨by have:=HB.out.1;omega,by rw [← e1];exact HB.out.2⟩
    rw [he] at c1
    clear e1 he
    generalize Zs y k c=v at *
    go_wp2_with (first|(go_at_call 95;(with_reducible refine (k1 _).out.mono ?_);rintro e w' ⟨rfl,q,rfl⟩)|(go_at_call 96;(first|with_reducible refine (c1 _).out.mono ?_|with_reducible refine (c2 _).out.mono ?_);rintro e w' ⟨rfl,q,rfl⟩))
    go_roundw
    case rel=>exact ⟨k+1,n - 1,by go_num,by omega,HB2,_,rfl⟩
    case measure=>simp [intOf];omega
   ·rw [if_neg he] at e1
    have HB2:Hid (yA x y c 0 L=decide (Zs x k c < Zs y k c)):=yP (by rw [← e1];exact HB.out.2)
    clear e1
    generalize Zs y k c=v at *
    generalize Zs x k c=u at *
    have e2:((u:Int) == (v:Int))=false:=by simp;omega
    have e3:((u:Int) != (v:Int))=true:=by simp;omega
    clear he
    go_wp2_with (first|(go_at_call 95;(with_reducible refine (k1 _).out.mono ?_);rintro e w' ⟨rfl,q,rfl⟩)|(go_at_call 96;(first|with_reducible refine (c1 _).out.mono ?_|with_reducible refine (c2 _).out.mono ?_);rintro e w' ⟨rfl,q,rfl⟩))
    go_ret
    exact ⟨yJ (by rw [HB2.out]),⟨_,rfl⟩⟩
  ·have g1 : ¬ (k : Int) < (L : Int) := by omega
   have HB2:Hid (yA x y c 0 L=false):=yP (by
    rw [HB.out.2]
    have:n=0:=by have:=HB.out.1;omega
    subst this
    rfl)
   go_wp2_with (go_at_call 95;(with_reducible refine (k1 _).out.mono ?_);rintro e w' ⟨rfl,q,rfl⟩)
   go_ret
   exact ⟨yJ (by rw [HB2.out]),⟨_,rfl⟩⟩
end Go.Proofs.YtgpldekhcojimaaDoor.Hash
namespace Go.Proofs.YtgpldekhcojimaaDoor.Hash
open Go.RowKit
theorem YU (a:ByteArray) (n:Nat) (h:a.size≤n):a=a.extract 0 n:=by
 apply ByteArray.ext
 rw [ByteArray.data_extract]
 have:a.data.size=a.size:=rfl
 exact (Array.extract_eq_self_of_le (by omega)).symm
set_option maxHeartbeats 400000 in
theorem Cut_calls (a : ByteArray) (n : Nat) (w : World) (ha : a.size ≤ maxLen) (hn : n ≤ 10000) :
  Calls Tryd.prog 19 #[.string a,.int .i64 n] w (Quiet (.string (a.extract 0 n)) w):=by
 unfold maxLen at ha
 by_cases h:a.size≤n
 ·have H := yP (YU a n h)
  go_enter Tryd.func19,Tryd.ntmps19
  go_wp2
  all_goals
   go_ret
   refine ⟨ret_str ?_,Drawn.refl _⟩
   first|exact H.out|rfl
 ·go_enter Tryd.func19, Tryd.ntmps19
  go_wp2
  all_goals
   go_ret
   exact ⟨rfl,Drawn.refl _⟩
theorem digits_eq (n x y:Nat) (hx:x < 32 ^ n) (hy:y < 32 ^ n) (h:∀ l,l < n→x / 32 ^ l % 32=y / 32 ^ l % 32):x=y:=by
 induction n generalizing x y with
 | zero=>simp at hx hy;omega
 | succ n ih =>
  have h0:=h 0 (by omega)
  simp at h0
  have hd:x / 32=y / 32:=by
   refine ih (x / 32) (y / 32) ?_ ?_ (fun l hl=>?_)
   ·rw [Nat.div_lt_iff_lt_mul (by decide)];rwa [Nat.pow_succ] at hx
   ·rw [Nat.div_lt_iff_lt_mul (by decide)];rwa [Nat.pow_succ] at hy
   ·have := h (l + 1) (by omega)
    rw [Nat.pow_succ',← Nat.div_div_eq_div_mul,← Nat.div_div_eq_div_mul] at this
    exact this
  omega
theorem chunks_eq (c x y:Nat) (hx:x < 2 ^ c) (hy:y < 2 ^ c) (h:∀ l:Nat,l < (c+4) / 5→Zs x l c=Zs y l c):x=y:=by
 have e:(32:Nat)=2 ^ 5:=rfl
 have hp:2 ^ c≤32 ^ ((c+4) / 5):=by
  rw [e,← Nat.pow_mul]
  exact Nat.pow_le_pow_right (by decide) (by omega)
 refine digits_eq ((c+4) / 5) x y (by omega) (by omega) (fun l hl=>?_)
 have:=h l hl
 unfold Zs at this
 rw [if_pos (by omega),if_pos (by omega),Int.toNat_natCast,Nat.mod_eq_of_lt hx,Nat.mod_eq_of_lt hy] at this
 rw [e,← Nat.pow_mul]
 exact this
theorem befF_anti (x y c l n:Nat):(yA x y c l n || yA y x c l n)=decide (∃ k,k < n∧Zs x ((l+k:Nat):Int) c ≠ Zs y ((l+k:Nat):Int) c)∧(yA x y c l n && yA y x c l n)=false:=by
 induction n generalizing l with
 | zero=>simp [yA]
 | succ n ih =>
  unfold yA
  by_cases h:Zs x l c=Zs y l c
  ·rw [if_pos h, if_pos h.symm]
   obtain ⟨h1,h2⟩:=ih (l+1)
   rw [h1]
   refine ⟨?_,h2⟩
   congr 1
   apply propext
   constructor
   ·rintro ⟨k, hk, hne⟩
    exact ⟨k+1,by omega,by rw [show l+(k+1)=l+1+k by omega];exact hne⟩
   ·rintro ⟨k, hk, hne⟩
    cases k with
    | zero=>exact absurd h hne
    | succ k=>exact ⟨k,by omega,by rw [show l+1+k=l+(k+1) by omega];exact hne⟩
  ·rw [if_neg h,if_neg (fun e=>h e.symm)]
   refine ⟨?_,?_⟩
   ·rw [decide_eq_true (⟨0, by omega, h⟩ : ∃ k, k < n + 1 ∧ Zs x ((l + k : Nat) : Int) c ≠ Zs y ((l + k : Nat) : Int) c)]
    simp;omega
   ·simp;omega
theorem bef_total (c x y:Nat) (hx:x < 2 ^ c) (hy:y < 2 ^ c):(bef x y c || bef y x c) = !decide (x=y)∧(bef x y c && bef y x c)=false:=by
 obtain ⟨h1,h2⟩:=befF_anti x y c 0 ((c+4) / 5)
 refine ⟨?_,h2⟩
 unfold bef
 rw [h1,← decide_not]
 congr 1
 apply propext
 constructor
 ·rintro ⟨k, hk, hne⟩ rfl
  exact hne rfl
 ·intro hne
  by_cases hh:∃ k,k < (c+4) / 5∧Zs x ((0+k:Nat):Int) c ≠ Zs y ((0+k:Nat):Int) c
  ·exact hh
  ·exfalso
   refine hne (chunks_eq c x y hx hy (fun l hl=>?_))
   by_cases e:Zs x l c=Zs y l c
   ·exact e
   ·exact absurd ⟨l,hl,by rw [Nat.zero_add];exact e⟩ hh
end Go.Proofs.YtgpldekhcojimaaDoor.Hash
namespace Go.Proofs.YtgpldekhcojimaaDoor.Sim
open Go.RowKit
set_option maxRecDepth 100000
open Pr7
section
variable (G:Nat→AV)
theorem XJ (o:Int) (j:Nat) (hj:j < 4) (ho:1≤o∧o≤13):PC Tryd.prog G 98 [I o,I (j:Nat)] (Bo (Conf.opB o j)):=by
 obtain rfl|rfl|rfl|rfl|rfl|rfl|rfl|rfl|rfl|rfl|rfl|rfl|rfl:o=1∨o=2∨o=3∨o=4∨o=5∨o=6∨o=7∨o=8∨o=9∨o=10∨o=11∨o=12∨o=13:=by omega
 all_goals obtain rfl|rfl|rfl|rfl:j=0∨j=1∨j=2∨j=3:=by omega
 all_goals
  refine zf cop98 ?_
  repeat' ((conv=>whnf);first|(refine SeqP.go ?_)|((refine ObN.mk ?_ ?_);exact zN)|(with_reducible first|refine ObT.tt ?_|refine ObT.ff ?_)|((refine ObB.yes ?_ ?_);exact zB)|((refine ObB.no ?_ ?_);exact zC)|((refine ObEq.mk ?_);exact zE))
theorem rplain88 (o:Int) (x y z:ByteArray) (i:Int):PC Tryd.prog G 88 [xA o x y z i] (xA o (Conf.plS o 0 x) (Conf.plS o 1 y) (Conf.plS o 2 z) (Conf.plH o i)):=by
 by_cases ho:1≤o∧o≤13
 ·have u0 := XJ G o 0 (by omega) ho
  have u1:=XJ G o 1 (by omega) ho
  have u2:=XJ G o 2 (by omega) ho
  have u3:=XJ G o 3 (by omega) ho
  unfold Conf.plS Conf.plH
  generalize Conf.opB o 0=a0 at *
  generalize Conf.opB o 1=a1 at *
  generalize Conf.opB o 2=a2 at *
  generalize Conf.opB o 3=a3 at *
  cases a0<;>cases a1<;>cases a2<;>cases a3
  all_goals
   refine zf cop88 ?_
   repeat' ((conv=>whnf);first|(refine SeqP.go ?_)|((refine ObD.mk ?_ ?_);exact zD)|((refine ObN.mk ?_ ?_);exact zN)|(with_reducible first|refine ObT.tt ?_|refine ObT.ff ?_)|((refine ObB.no ?_ ?_);exact zC)|((with_reducible refine (?_:ObU _ _));(refine ObU.mk _ zU ?_))|((with_reducible refine (?_:ObR _ _ _));(first|(refine ObR.mk _ zA ?_)|(refine ObR.map zX (fun x hx=>?_))|(refine ObR.mk _ rfl ?_)))|((refine ObC.f 98 ?_);(refine ObC.mk _ (u0) ?_))|((refine ObC.f 98 ?_);(refine ObC.mk _ (u1) ?_))|((refine ObC.f 98 ?_);(refine ObC.mk _ (u2) ?_))|((refine ObC.f 98 ?_);(refine ObC.mk _ (u3) ?_))|((refine ObEq.mk ?_);exact zE))
 ·have e:∀ j,Conf.opB o j=false:=fun j=>by unfold Conf.opB;rw [if_neg ho]
  unfold Conf.plS Conf.plH
  rw [e,e,e,e]
  by_cases h1:o < 1
  ·refine zf cop88 ?_
   repeat' ((conv=>whnf);first|(refine SeqP.go ?_)|((refine ObD.mk ?_ ?_);exact zD)|((refine ObN.mk ?_ ?_);exact zN)|(refine ObT.tt ?_)|((refine ObB.yes ?_ ?_);exact zB)|((with_reducible refine (?_:ObU _ _));(refine ObU.mk _ zU ?_))|((with_reducible refine (?_:ObR _ _ _));(first|(refine ObR.mk _ zA ?_)|(refine ObR.map zX (fun x hx=>?_))|(refine ObR.mk _ rfl ?_)))|((refine ObEq.mk ?_);exact zE))
  ·have h2 : 13 < o := by omega
   refine zf cop88 ?_
   repeat' ((conv=>whnf);first|(refine SeqP.go ?_)|((refine ObD.mk ?_ ?_);exact zD)|((refine ObN.mk ?_ ?_);exact zN)|(with_reducible first|refine ObT.tt ?_|refine ObT.ff ?_)|((refine ObB.yes ?_ ?_);exact zB)|((refine ObB.no ?_ ?_);exact zC)|((with_reducible refine (?_:ObU _ _));(refine ObU.mk _ zU ?_))|((with_reducible refine (?_:ObR _ _ _));(first|(refine ObR.mk _ zA ?_)|(refine ObR.map zX (fun x hx=>?_))|(refine ObR.mk _ rfl ?_)))|((refine ObEq.mk ?_);exact zE))
theorem rmay62 (k s t h b:Int) (hk:i64 k) (hs:i64 s) (ht:i64 t) (hh:i64 h) (hb:i64 b):PC Tryd.prog G 62 [cA k s t h b] (I (Conf.mayE k s t h b)) :=
 yh (ys:=[.agg #[.int .i64 k,.int .i64 s,.int .i64 t,.int .i64 h,.int .i64 b]]) rfl rfl fun w=>(Conf.RefMay_calls k s t h b w hk hs ht hh hb).mono fun e w' h=>h
theorem rfits63 (k s t h b o:Int) (x y z:ByteArray) (i:Int) (hk:1≤k∧k≤3) (hx:x.size≤9223372036854775807) (hy:y.size≤9223372036854775807) (hz:z.size≤9223372036854775807) (r:Int) (hr:r=Conf.fits k o x y z i):PC Tryd.prog G 63 [cA k s t h b,xA o x y z i] (I r):=by
 have p:=rplain88 G o x y z i
 have e:∀ (j:Nat) (a:ByteArray),a.size≤9223372036854775807→(Conf.plS o j a).size≤9223372036854775807:=fun j a ha=>by
  have:=Conf.plS_size o j a (by rw [ZQ];exact ha)
  rwa [ZQ] at this
 have e0:=e 0 x hx
 have e1:=e 1 y hy
 have e2:=e 2 z hz
 clear e
 unfold Conf.fits Conf.ft at hr
 generalize Conf.plS o 0 x=X at *
 generalize Conf.plS o 1 y=Y at *
 generalize Conf.plS o 2 z=Z at *
 generalize Conf.plH o i=V at *
 split at hr
 ·rename_i q
  subst hr
  by_cases o1:o < 1
  ·refine zf Yd ?_
   repeat' ((conv=>whnf);first|(refine SeqP.go ?_)|((refine ObD.mk ?_ ?_);exact zD)|((refine ObN.mk ?_ ?_);exact zN)|(refine ObT.tt ?_)|((refine ObB.yes ?_ ?_);exact zB)|((with_reducible refine (?_:ObR _ _ _));(first|(refine ObR.mk _ zA ?_)|(refine ObR.map zX (fun x hx=>?_))|(refine ObR.mk _ rfl ?_)))|((with_reducible refine ObEq.i ?_);exact zF))
  ·have o2 : 13 < o := by omega
   refine zf Yd ?_
   repeat' ((conv=>whnf);first|(refine SeqP.go ?_)|((refine ObD.mk ?_ ?_);exact zD)|((refine ObN.mk ?_ ?_);exact zN)|(with_reducible first|refine ObT.tt ?_|refine ObT.ff ?_)|((refine ObB.yes ?_ ?_);exact zB)|((refine ObB.no ?_ ?_);exact zC)|((with_reducible refine (?_:ObR _ _ _));(first|(refine ObR.mk _ zA ?_)|(refine ObR.map zX (fun x hx=>?_))|(refine ObR.mk _ rfl ?_)))|((with_reducible refine ObEq.i ?_);exact zF))
 rename_i q
 have o1:¬ o < 1:=by omega
 have o2:¬ 13 < o:=by omega
 split at hr
 ·rename_i q2
  subst hr
  obtain ⟨rfl,q3⟩:=q2
  refine zf Yd ?_
  repeat' ((conv=>whnf);first|(refine SeqP.go ?_)|((refine ObD.mk ?_ ?_);exact zD)|((refine ObN.mk ?_ ?_);exact zN)|(with_reducible first|refine ObT.tt ?_|refine ObT.ff ?_)|((refine ObB.yes ?_ ?_);exact zB)|((refine ObB.no ?_ ?_);exact zC)|((with_reducible refine (?_:ObR _ _ _));(first|(refine ObR.mk _ zA ?_)|(refine ObR.map zX (fun x hx=>?_))|(refine ObR.mk _ rfl ?_)))|((with_reducible refine ObEq.i ?_);exact zF))
 rename_i q2
 have last:∀ (f:PC Tryd.prog G 63 [cA k s t h b,xA o x y z i] (I r)),PC Tryd.prog G 63 [cA k s t h b,xA o x y z i] (I r):=fun f=>f
 by_cases o6:o=6
 ·have k2 : k = 2 := by omega
  subst o6;subst k2
  split at hr
  ·rename_i q4
   subst hr
   by_cases g1:(16:Int) < (X.size:Int)
   ·refine zf Yd ?_
    repeat' ((conv=>whnf);first|(refine SeqP.go ?_)|((refine ObD.mk ?_ ?_);exact zD)|((refine ObN.mk ?_ ?_);exact zN)|(with_reducible first|refine ObT.tt ?_|refine ObT.ff ?_)|((refine ObB.yes ?_ ?_);exact zB)|((refine ObB.no ?_ ?_);exact zC)|((with_reducible refine (?_:ObL _ _));(refine ObL.mk _ zL ?_))|((with_reducible refine (?_:ObU _ _));(refine ObU.mk _ zU ?_))|((with_reducible refine (?_:ObR _ _ _));(first|(refine ObR.mk _ zA ?_)|(refine ObR.map zX (fun x hx=>?_))|(refine ObR.mk _ rfl ?_)))|((refine ObC.f 88 ?_);(refine ObC.mk _ (p) ?_))|((with_reducible refine ObEq.i ?_);exact zF))
   by_cases g2:(16:Int) < (Y.size:Int)
   ·refine zf Yd ?_
    repeat' ((conv=>whnf);first|(refine SeqP.go ?_)|((refine ObD.mk ?_ ?_);exact zD)|((refine ObN.mk ?_ ?_);exact zN)|(with_reducible first|refine ObT.tt ?_|refine ObT.ff ?_)|((refine ObB.yes ?_ ?_);exact zB)|((refine ObB.no ?_ ?_);exact zC)|((with_reducible refine (?_:ObL _ _));(refine ObL.mk _ zL ?_))|((with_reducible refine (?_:ObU _ _));(refine ObU.mk _ zU ?_))|((with_reducible refine (?_:ObR _ _ _));(first|(refine ObR.mk _ zA ?_)|(refine ObR.map zX (fun x hx=>?_))|(refine ObR.mk _ rfl ?_)))|((refine ObC.f 88 ?_);(refine ObC.mk _ (p) ?_))|((with_reducible refine ObEq.i ?_);exact zF))
   have g3:(16:Int) < (Z.size:Int):=by omega
   refine zf Yd ?_
   repeat' ((conv=>whnf);first|(refine SeqP.go ?_)|((refine ObD.mk ?_ ?_);exact zD)|((refine ObN.mk ?_ ?_);exact zN)|(with_reducible first|refine ObT.tt ?_|refine ObT.ff ?_)|((refine ObB.yes ?_ ?_);exact zB)|((refine ObB.no ?_ ?_);exact zC)|((with_reducible refine (?_:ObL _ _));(refine ObL.mk _ zL ?_))|((with_reducible refine (?_:ObU _ _));(refine ObU.mk _ zU ?_))|((with_reducible refine (?_:ObR _ _ _));(first|(refine ObR.mk _ zA ?_)|(refine ObR.map zX (fun x hx=>?_))|(refine ObR.mk _ rfl ?_)))|((refine ObC.f 88 ?_);(refine ObC.mk _ (p) ?_))|((with_reducible refine ObEq.i ?_);exact zF))
  ·rename_i q4
   have g1:¬ (16:Int) < (X.size:Int):=by omega
   have g2:¬ (16:Int) < (Y.size:Int):=by omega
   have g3:¬ (16:Int) < (Z.size:Int):=by omega
   split at hr
   ·subst hr
    refine zf Yd ?_
    repeat' ((conv=>whnf);first|(refine SeqP.go ?_)|((refine ObD.mk ?_ ?_);exact zD)|((refine ObN.mk ?_ ?_);exact zN)|(with_reducible first|refine ObT.tt ?_|refine ObT.ff ?_)|((refine ObB.yes ?_ ?_);exact zB)|((refine ObB.no ?_ ?_);exact zC)|((with_reducible refine (?_:ObL _ _));(refine ObL.mk _ zL ?_))|((with_reducible refine (?_:ObU _ _));(refine ObU.mk _ zU ?_))|((with_reducible refine (?_:ObR _ _ _));(first|(refine ObR.mk _ zA ?_)|(refine ObR.map zX (fun x hx=>?_))|(refine ObR.mk _ rfl ?_)))|((refine ObC.f 88 ?_);(refine ObC.mk _ (p) ?_))|((with_reducible refine ObEq.i ?_);exact zF))
   ·subst hr
    refine zf Yd ?_
    repeat' ((conv=>whnf);first|(refine SeqP.go ?_)|((refine ObD.mk ?_ ?_);exact zD)|((refine ObN.mk ?_ ?_);exact zN)|(with_reducible first|refine ObT.tt ?_|refine ObT.ff ?_)|((refine ObB.yes ?_ ?_);exact zB)|((refine ObB.no ?_ ?_);exact zC)|((with_reducible refine (?_:ObL _ _));(refine ObL.mk _ zL ?_))|((with_reducible refine (?_:ObU _ _));(refine ObU.mk _ zU ?_))|((with_reducible refine (?_:ObR _ _ _));(first|(refine ObR.mk _ zA ?_)|(refine ObR.map zX (fun x hx=>?_))|(refine ObR.mk _ rfl ?_)))|((refine ObC.f 88 ?_);(refine ObC.mk _ (p) ?_))|((with_reducible refine ObEq.i ?_);exact zF))
 ·split at hr
  ·rename_i q4
   subst hr
   by_cases g1:(16:Int) < (X.size:Int)
   ·refine zf Yd ?_
    repeat' ((conv=>whnf);first|(refine SeqP.go ?_)|((refine ObD.mk ?_ ?_);exact zD)|((refine ObN.mk ?_ ?_);exact zN)|(with_reducible first|refine ObT.tt ?_|refine ObT.ff ?_)|((refine ObB.yes ?_ ?_);exact zB)|((refine ObB.no ?_ ?_);exact zC)|((with_reducible refine (?_:ObL _ _));(refine ObL.mk _ zL ?_))|((with_reducible refine (?_:ObU _ _));(refine ObU.mk _ zU ?_))|((with_reducible refine (?_:ObR _ _ _));(first|(refine ObR.mk _ zA ?_)|(refine ObR.map zX (fun x hx=>?_))|(refine ObR.mk _ rfl ?_)))|((refine ObC.f 88 ?_);(refine ObC.mk _ (p) ?_))|((with_reducible refine ObEq.i ?_);exact zF))
   by_cases g2:(16:Int) < (Y.size:Int)
   ·refine zf Yd ?_
    repeat' ((conv=>whnf);first|(refine SeqP.go ?_)|((refine ObD.mk ?_ ?_);exact zD)|((refine ObN.mk ?_ ?_);exact zN)|(with_reducible first|refine ObT.tt ?_|refine ObT.ff ?_)|((refine ObB.yes ?_ ?_);exact zB)|((refine ObB.no ?_ ?_);exact zC)|((with_reducible refine (?_:ObL _ _));(refine ObL.mk _ zL ?_))|((with_reducible refine (?_:ObU _ _));(refine ObU.mk _ zU ?_))|((with_reducible refine (?_:ObR _ _ _));(first|(refine ObR.mk _ zA ?_)|(refine ObR.map zX (fun x hx=>?_))|(refine ObR.mk _ rfl ?_)))|((refine ObC.f 88 ?_);(refine ObC.mk _ (p) ?_))|((with_reducible refine ObEq.i ?_);exact zF))
   have g3:(16:Int) < (Z.size:Int):=by omega
   refine zf Yd ?_
   repeat' ((conv=>whnf);first|(refine SeqP.go ?_)|((refine ObD.mk ?_ ?_);exact zD)|((refine ObN.mk ?_ ?_);exact zN)|(with_reducible first|refine ObT.tt ?_|refine ObT.ff ?_)|((refine ObB.yes ?_ ?_);exact zB)|((refine ObB.no ?_ ?_);exact zC)|((with_reducible refine (?_:ObL _ _));(refine ObL.mk _ zL ?_))|((with_reducible refine (?_:ObU _ _));(refine ObU.mk _ zU ?_))|((with_reducible refine (?_:ObR _ _ _));(first|(refine ObR.mk _ zA ?_)|(refine ObR.map zX (fun x hx=>?_))|(refine ObR.mk _ rfl ?_)))|((refine ObC.f 88 ?_);(refine ObC.mk _ (p) ?_))|((with_reducible refine ObEq.i ?_);exact zF))
  ·rename_i q4
   have g1:¬ (16:Int) < (X.size:Int):=by omega
   have g2:¬ (16:Int) < (Y.size:Int):=by omega
   have g3:¬ (16:Int) < (Z.size:Int):=by omega
   split at hr
   ·subst hr
    refine zf Yd ?_
    repeat' ((conv=>whnf);first|(refine SeqP.go ?_)|((refine ObD.mk ?_ ?_);exact zD)|((refine ObN.mk ?_ ?_);exact zN)|(with_reducible first|refine ObT.tt ?_|refine ObT.ff ?_)|((refine ObB.yes ?_ ?_);exact zB)|((refine ObB.no ?_ ?_);exact zC)|((with_reducible refine (?_:ObL _ _));(refine ObL.mk _ zL ?_))|((with_reducible refine (?_:ObU _ _));(refine ObU.mk _ zU ?_))|((with_reducible refine (?_:ObR _ _ _));(first|(refine ObR.mk _ zA ?_)|(refine ObR.map zX (fun x hx=>?_))|(refine ObR.mk _ rfl ?_)))|((refine ObC.f 88 ?_);(refine ObC.mk _ (p) ?_))|((with_reducible refine ObEq.i ?_);exact zF))
   ·subst hr
    refine zf Yd ?_
    repeat' ((conv=>whnf);first|(refine SeqP.go ?_)|((refine ObD.mk ?_ ?_);exact zD)|((refine ObN.mk ?_ ?_);exact zN)|(refine ObT.ff ?_)|((refine ObB.no ?_ ?_);exact zC)|((with_reducible refine (?_:ObL _ _));(refine ObL.mk _ zL ?_))|((with_reducible refine (?_:ObU _ _));(refine ObU.mk _ zU ?_))|((with_reducible refine (?_:ObR _ _ _));(first|(refine ObR.mk _ zA ?_)|(refine ObR.map zX (fun x hx=>?_))|(refine ObR.mk _ rfl ?_)))|((refine ObC.f 88 ?_);(refine ObC.mk _ (p) ?_))|((with_reducible refine ObEq.i ?_);exact zF))
theorem mayE_kind {k s t h b:Int} (e:Conf.mayE k s t h b=0):1≤k∧k≤3:=by
 unfold Conf.mayE at e
 split at e
 ·omega
 ·omega
theorem rfits31 (k s t h b o:Int) (x y z:ByteArray) (i:Int) (hk:i64 k) (hs:i64 s) (ht:i64 t) (hh:i64 h) (hb:i64 b) (hx:x.size≤9223372036854775807) (hy:y.size≤9223372036854775807) (hz:z.size≤9223372036854775807) (r:Bool) (hr:r=fOk k s t h b o x y z i):PC Tryd.prog G 31 [cA k s t h b,xA o x y z i] (Bo r):=by
 have c1:=rmay62 G k s t h b hk hs ht hh hb
 unfold fOk at hr
 by_cases hm:Conf.mayE k s t h b=0
 ·have c2 := rfits63 G k s t h b o x y z i (mayE_kind hm) hx hy hz _ rfl
  rw [hm] at c1 hr
  generalize Conf.fits k o x y z i=n at *
  by_cases hn:n=0
  ·subst hn
   obtain rfl:r=true:=by simpa using hr
   refine zf cop31 ?_
   repeat' ((conv=>whnf);first|(refine SeqP.go ?_)|((refine ObD.mk ?_ ?_);exact zD)|((refine ObN.mk ?_ ?_);exact zN)|(refine ObT.tt ?_)|((refine ObB.yes ?_ ?_);exact zB)|((with_reducible refine (?_:ObR _ _ _));(first|(refine ObR.mk _ zA ?_)|(refine ObR.map zX (fun x hx=>?_))|(refine ObR.mk _ rfl ?_)))|((refine ObC.f 62 ?_);(refine ObC.mk _ (c1) ?_))|((refine ObC.f 63 ?_);(refine ObC.mk _ (c2) ?_))|((refine ObEq.mk ?_);exact zE))
  ·obtain rfl : r = false := by simpa [hn] using hr
   refine zf cop31 ?_
   repeat' ((conv=>whnf);first|(refine SeqP.go ?_)|((refine ObD.mk ?_ ?_);exact zD)|((refine ObN.mk ?_ ?_);exact zN)|(refine ObT.tt ?_)|((refine ObB.yes ?_ ?_);exact zB)|((refine ObB.no ?_ ?_);exact zC)|((with_reducible refine (?_:ObR _ _ _));(first|(refine ObR.mk _ zA ?_)|(refine ObR.map zX (fun x hx=>?_))|(refine ObR.mk _ rfl ?_)))|((refine ObC.f 62 ?_);(refine ObC.mk _ (c1) ?_))|((refine ObC.f 63 ?_);(refine ObC.mk _ (c2) ?_))|((refine ObEq.mk ?_);exact zE))
 ·generalize Conf.mayE k s t h b = m at *
  obtain rfl:r=false:=by simpa [hm] using hr
  refine zf cop31 ?_
  repeat' ((conv=>whnf);first|(refine SeqP.go ?_)|((refine ObD.mk ?_ ?_);exact zD)|((refine ObN.mk ?_ ?_);exact zN)|(refine ObT.ff ?_)|((refine ObB.no ?_ ?_);exact zC)|((with_reducible refine (?_:ObR _ _ _));(first|(refine ObR.mk _ zA ?_)|(refine ObR.map zX (fun x hx=>?_))|(refine ObR.mk _ rfl ?_)))|((refine ObC.f 62 ?_);(refine ObC.mk _ (c1) ?_))|((refine ObEq.mk ?_);exact zE))
end
def hN (s:ByteArray) (b:Int):Nat:=Hash.fnv s.data.toList % 2 ^ Hash.cl b
theorem xC (s:ByteArray) (b:Int):hN s b < 18446744073709551616:=by
 unfold hN
 exact Nat.lt_of_le_of_lt (Nat.mod_le _ _) (Hash.fnv_lt _)
def bk (b:Int) (x y:ByteArray):Bool:=Hash.bef (hN x b) (hN y b) (Hash.cl b) || (decide (hN x b=hN y b) && decide (cB x y < 0))
def bfo (k b:Int) (x y:ByteArray):Bool:=if k=2 then decide (cB x y < 0) else bk b x y
section
variable (G:Nat→AV)
theorem of74 (s:ByteArray) (b:Int) (hs:s.size≤100000) (hb:i64 b):PC Tryd.prog G 74 [S s,I b] (.v (.int .u64 ((hN s b:Nat):Int))) :=
 yh (ys:=[.string s,.int .i64 b]) rfl rfl fun w=>(Hash.Of_calls s b w hs hb).mono fun e w' h=>h.fresh
theorem of76 (s:ByteArray) (b:Int) (hs:s.size≤100000) (hb:i64 b):PC Tryd.prog G 76 [S s,I b] (.v (.int .u64 ((hN s b:Nat):Int))) :=
 yh (ys:=[.string s,.int .i64 b]) rfl rfl fun w=>(Hash.RefOf_calls s b w hs hb).mono fun e w' h=>h.fresh
theorem be75 (x y:Nat) (b:Int) (hx:x < 18446744073709551616) (hy:y < 18446744073709551616) (hb:i64 b):PC Tryd.prog G 75 [.v (.int .u64 (x:Int)),.v (.int .u64 (y:Int)),I b] (Bo (Hash.bef x y (Hash.cl b))) :=
 yh (ys:=[.int .u64 x,.int .u64 y,.int .i64 b]) rfl rfl fun w=>(Hash.Before_calls x y b w hx hy hb).mono fun e w' h=>h.fresh
theorem be77 (x y:Nat) (b:Int) (hx:x < 18446744073709551616) (hy:y < 18446744073709551616) (hb:i64 b):PC Tryd.prog G 77 [.v (.int .u64 (x:Int)),.v (.int .u64 (y:Int)),I b] (Bo (Hash.bef x y (Hash.cl b))) :=
 yh (ys:=[.int .u64 x,.int .u64 y,.int .i64 b]) rfl rfl fun w=>(Hash.RefBefore_calls x y b w hx hy hb).mono fun e w' h=>h.fresh
theorem sb45 (x y:ByteArray) (b:Int) (hx:x.size≤100000) (hy:y.size≤100000) (hb:i64 b) (r:Bool) (hr:r=bk b x y):PC Tryd.prog G 45 [S x,S y,I b] (Bo r):=by
 have c1:=of74 G x b hx hb
 have c2:=of74 G y b hy hb
 have c3:=be75 G (hN x b) (hN y b) b (xC x b) (xC y b) hb
 have c4:=Wh G x y (by omega) (by omega)
 unfold bk at hr
 have l1:=xC x b
 have l2:=xC y b
 generalize hN x b=X at *
 generalize hN y b=Y at *
 generalize Hash.bef X Y (Hash.cl b)=u at *
 generalize cB x y=v at *
 cases u
 ·by_cases hXY : X = Y
  ·subst hXY
   by_cases hv:v < 0
   ·obtain rfl : r = true := by simpa [hv] using hr
    refine zf cop45 ?_
    repeat' ((conv=>whnf);first|(refine SeqP.go ?_)|((refine ObN.mk ?_ ?_);exact zN)|(with_reducible first|refine ObT.tt ?_|refine ObT.ff ?_)|((refine ObB.yes ?_ ?_);exact zB)|((refine ObC.f 74 ?_);(refine ObC.mk _ (c1) ?_))|((refine ObC.f 74 ?_);(refine ObC.mk _ (c2) ?_))|((refine ObC.f 75 ?_);(refine ObC.mk _ (c3) ?_))|((refine ObC.f 44 ?_);(refine ObC.mk _ (c4) ?_))|((refine ObEq.mk ?_);exact zE))
   ·obtain rfl : r = false := by simpa [hv] using hr
    refine zf cop45 ?_
    repeat' ((conv=>whnf);first|(refine SeqP.go ?_)|((refine ObN.mk ?_ ?_);exact zN)|(with_reducible first|refine ObT.tt ?_|refine ObT.ff ?_)|((refine ObB.yes ?_ ?_);exact zB)|((refine ObB.no ?_ ?_);exact zC)|((refine ObC.f 74 ?_);(refine ObC.mk _ (c1) ?_))|((refine ObC.f 74 ?_);(refine ObC.mk _ (c2) ?_))|((refine ObC.f 75 ?_);(refine ObC.mk _ (c3) ?_))|((refine ObC.f 44 ?_);(refine ObC.mk _ (c4) ?_))|((refine ObEq.mk ?_);exact zE))
  ·obtain rfl : r = false := by simpa [hXY] using hr
   have h2:¬ (X:Int)=(Y:Int):=by omega
   refine zf cop45 ?_
   repeat' ((conv=>whnf);first|(refine SeqP.go ?_)|((refine ObN.mk ?_ ?_);exact zN)|(refine ObT.ff ?_)|((refine ObB.no ?_ ?_);exact zC)|((refine ObC.f 74 ?_);(refine ObC.mk _ (c1) ?_))|((refine ObC.f 74 ?_);(refine ObC.mk _ (c2) ?_))|((refine ObC.f 75 ?_);(refine ObC.mk _ (c3) ?_))|((refine ObEq.mk ?_);exact zE))
 ·obtain rfl : r = true := by simpa using hr
  refine zf cop45 ?_
  repeat' ((conv=>whnf);first|(with_reducible first|refine SeqP.go ?_|refine ObT.tt ?_)|((refine ObC.f 74 ?_);(refine ObC.mk _ (c1) ?_))|((refine ObC.f 74 ?_);(refine ObC.mk _ (c2) ?_))|((refine ObC.f 75 ?_);(refine ObC.mk _ (c3) ?_))|((refine ObEq.mk ?_);exact zE))
theorem rb47 (x y:ByteArray) (b:Int) (hx:x.size≤100000) (hy:y.size≤100000) (hb:i64 b) (r:Bool) (hr:r=bk b x y):PC Tryd.prog G 47 [S x,S y,I b] (Bo r):=by
 have c1:=of76 G x b hx hb
 have c2:=of76 G y b hy hb
 have c3:=be77 G (hN x b) (hN y b) b (xC x b) (xC y b) hb
 have c5:=be77 G (hN y b) (hN x b) b (xC y b) (xC x b) hb
 have c4:=Xc G x y (by omega) (by omega)
 obtain ⟨T,_⟩:=Hash.bef_total (Hash.cl b) (hN x b) (hN y b) (Nat.mod_lt _ (Nat.two_pow_pos _)) (Nat.mod_lt _ (Nat.two_pow_pos _))
 unfold bk at hr
 generalize hN x b=X at *
 generalize hN y b=Y at *
 generalize Hash.bef X Y (Hash.cl b)=u at *
 generalize Hash.bef Y X (Hash.cl b)=v at *
 generalize cB x y=w at *
 cases u
 ·cases v
  ·obtain rfl : X = Y := by simpa using T
   obtain rfl:r=decide (w < 0):=by simpa using hr
   by_cases hw:w < 0
   ·rw [decide_eq_true hw] at c4 ⊢
    refine zf cop47 ?_
    repeat' ((conv=>whnf);first|(with_reducible first|refine SeqP.go ?_|refine ObT.ff ?_)|((refine ObC.f 76 ?_);(refine ObC.mk _ (c1) ?_))|((refine ObC.f 76 ?_);(refine ObC.mk _ (c2) ?_))|((refine ObC.f 77 ?_);(refine ObC.mk _ (c3) ?_))|((refine ObC.f 46 ?_);(refine ObC.mk _ (c4) ?_))|((refine ObEq.mk ?_);exact zE))
   ·rw [decide_eq_false hw] at c4 ⊢
    refine zf cop47 ?_
    repeat' ((conv=>whnf);first|(with_reducible first|refine SeqP.go ?_|refine ObT.ff ?_)|((refine ObC.f 76 ?_);(refine ObC.mk _ (c1) ?_))|((refine ObC.f 76 ?_);(refine ObC.mk _ (c2) ?_))|((refine ObC.f 77 ?_);(refine ObC.mk _ (c3) ?_))|((refine ObC.f 46 ?_);(refine ObC.mk _ (c4) ?_))|((refine ObEq.mk ?_);exact zE))
  ·have hXY : ¬ X = Y := by simpa using T
   obtain rfl:r=false:=by simpa [hXY] using hr
   refine zf cop47 ?_
   repeat' ((conv=>whnf);first|(with_reducible first|refine SeqP.go ?_|refine ObT.tt ?_|refine ObT.ff ?_)|((refine ObC.f 76 ?_);(refine ObC.mk _ (c1) ?_))|((refine ObC.f 76 ?_);(refine ObC.mk _ (c2) ?_))|((refine ObC.f 77 ?_);(refine ObC.mk _ (c3) ?_))|((refine ObC.f 77 ?_);(refine ObC.mk _ (c5) ?_))|((refine ObEq.mk ?_);exact zE))
 ·obtain rfl : r = true := by simpa using hr
  refine zf cop47 ?_
  repeat' ((conv=>whnf);first|(with_reducible first|refine SeqP.go ?_|refine ObT.tt ?_)|((refine ObC.f 76 ?_);(refine ObC.mk _ (c1) ?_))|((refine ObC.f 76 ?_);(refine ObC.mk _ (c2) ?_))|((refine ObC.f 77 ?_);(refine ObC.mk _ (c3) ?_))|((refine ObEq.mk ?_);exact zE))
theorem mb16 (k s t h b:Int) (x y:ByteArray) (hx:x.size≤100000) (hy:y.size≤100000) (hb:i64 b) (r:Bool) (hr:r=bfo k b x y):PC Tryd.prog G 16 [cA k s t h b,S x,S y] (Bo r):=by
 have c1:=Wh G x y (by omega) (by omega)
 have c2:=sb45 G x y b hx hy hb _ rfl
 unfold bfo at hr
 generalize cB x y=w at *
 generalize bk b x y=u at *
 by_cases hk:k=2
 ·rw [if_pos hk] at hr
  subst hk
  by_cases hw:w < 0
  ·obtain rfl : r = true := by simpa [hw] using hr
   refine zf cop16 ?_
   repeat' ((conv=>whnf);first|(refine SeqP.go ?_)|((refine ObD.mk ?_ ?_);exact zD)|((refine ObN.mk ?_ ?_);exact zN)|(refine ObT.tt ?_)|((refine ObB.yes ?_ ?_);exact zB)|((with_reducible refine (?_:ObR _ _ _));(first|(refine ObR.mk _ zA ?_)|(refine ObR.map zX (fun x hx=>?_))|(refine ObR.mk _ rfl ?_)))|((refine ObC.f 44 ?_);(refine ObC.mk _ (c1) ?_))|((refine ObEq.mk ?_);exact zE))
  ·obtain rfl : r = false := by simpa [hw] using hr
   refine zf cop16 ?_
   repeat' ((conv=>whnf);first|(refine SeqP.go ?_)|((refine ObD.mk ?_ ?_);exact zD)|((refine ObN.mk ?_ ?_);exact zN)|(refine ObT.tt ?_)|((refine ObB.yes ?_ ?_);exact zB)|((refine ObB.no ?_ ?_);exact zC)|((with_reducible refine (?_:ObR _ _ _));(first|(refine ObR.mk _ zA ?_)|(refine ObR.map zX (fun x hx=>?_))|(refine ObR.mk _ rfl ?_)))|((refine ObC.f 44 ?_);(refine ObC.mk _ (c1) ?_))|((refine ObEq.mk ?_);exact zE))
 ·rw [if_neg hk] at hr
  subst hr
  refine zf cop16 ?_
  repeat' ((conv=>whnf);first|(refine SeqP.go ?_)|((refine ObD.mk ?_ ?_);exact zD)|((refine ObN.mk ?_ ?_);exact zN)|(refine ObT.ff ?_)|((refine ObB.no ?_ ?_);exact zC)|((with_reducible refine (?_:ObR _ _ _));(first|(refine ObR.mk _ zA ?_)|(refine ObR.map zX (fun x hx=>?_))|(refine ObR.mk _ rfl ?_)))|((refine ObC.f 45 ?_);(refine ObC.mk _ (c2) ?_))|((refine ObEq.mk ?_);exact zE))
theorem rb17 (k s t h b:Int) (x y:ByteArray) (hx:x.size≤100000) (hy:y.size≤100000) (hb:i64 b) (r:Bool) (hr:r=bfo k b x y):PC Tryd.prog G 17 [cA k s t h b,S x,S y] (Bo r):=by
 have c1:=Xc G x y (by omega) (by omega)
 have c2:=rb47 G x y b hx hy hb _ rfl
 unfold bfo at hr
 generalize bk b x y=u at *
 by_cases hk:k=2
 ·rw [if_pos hk] at hr
  subst hk
  subst hr
  refine zf cop17 ?_
  repeat' ((conv=>whnf);first|(refine SeqP.go ?_)|((refine ObD.mk ?_ ?_);exact zD)|((refine ObN.mk ?_ ?_);exact zN)|(refine ObT.tt ?_)|((refine ObB.yes ?_ ?_);exact zB)|((with_reducible refine (?_:ObR _ _ _));(first|(refine ObR.mk _ zA ?_)|(refine ObR.map zX (fun x hx=>?_))|(refine ObR.mk _ rfl ?_)))|((refine ObC.f 46 ?_);(refine ObC.mk _ (c1) ?_))|((refine ObEq.mk ?_);exact zE))
 ·rw [if_neg hk] at hr
  subst hr
  refine zf cop17 ?_
  repeat' ((conv=>whnf);first|(refine SeqP.go ?_)|((refine ObD.mk ?_ ?_);exact zD)|((refine ObN.mk ?_ ?_);exact zN)|(refine ObT.ff ?_)|((refine ObB.no ?_ ?_);exact zC)|((with_reducible refine (?_:ObR _ _ _));(first|(refine ObR.mk _ zA ?_)|(refine ObR.map zX (fun x hx=>?_))|(refine ObR.mk _ rfl ?_)))|((refine ObC.f 47 ?_);(refine ObC.mk _ (c2) ?_))|((refine ObEq.mk ?_);exact zE))
end
end Go.Proofs.YtgpldekhcojimaaDoor.Sim
namespace Go.Proofs.YtgpldekhcojimaaDoor.Sim.Pr7
open Go.RowKit
set_option maxRecDepth 100000
structure Okl (l:List Pr):Prop where
 len:l.length≤1000000
 sz:∀ p ∈ l,p.1.size≤9223372036854775807∧p.2.size≤9223372036854775807
theorem Okl.k {l:List Pr} (h:Okl l) {k:Nat} (hk:k < l.length):(l[k]).1.size≤9223372036854775807:=(h.sz _ (List.getElem_mem hk)).1
theorem slt_idx:∀ {l:List Pr},SLt l↔∀ i (h:i+1 < l.length),cB (l[i]).1 (l[i+1]).1 < 0
 | []=>by simp [SLt]
 | [p]=>by simp [SLt]
 | p::q::l=>by
  have ih:=slt_idx (l:=q::l)
  constructor
  ·intro h i hi
   obtain ⟨h1,h2⟩:=List.pairwise_cons.1 h
   cases i with
   | zero=>exact h1 q (by simp)
   | succ i=>exact ih.1 h2 i (by simpa using hi)
  ·intro h
   have h2:SLt (q::l):=ih.2 fun i hi=>h (i+1) (by simpa using hi)
   refine List.pairwise_cons.2 ⟨fun x hx=>?_,h2⟩
   have h0:cB p.1 q.1 < 0:=h 0 (by simp)
   rcases List.mem_cons.1 hx with rfl|hx
   ·exact h0
   ·have := (List.pairwise_cons.1 h2).1 x hx
    exact Xo h0 (by omega)
theorem is_false {l:List Pr} {r:Bool} (hr:r=true↔SLt l) {i:Nat} (h:i+1 < l.length) (hc:0≤cB (l[i]).1 (l[i+1]).1):r=false:=by
 cases r with
 | false=>rfl
 | true=>have:=slt_idx.1 (hr.1 rfl) i h;omega
set_option maxHeartbeats 4000000 in
theorem is11 (G:Nat→AV) (l:List Pr) (hl:Okl l) (r:Bool) (hr:r=true↔SLt l):PC Tryd.prog G 78 [.sl 2 (l.map pA)] (Bo r):=by
 have hlen:=hl.len
 refine ZP cop78 ?_
 show W _ _ _ _ ⟨_,_⟩;simp only [A78,List.cons_append,List.nil_append,List.length_cons,List.length_nil,Nat.reduceAdd,Nat.reduceSub,List.replicate]
 repeat (first|(with_reducible first|refine zJ ?_|refine zI ?_|refine zZ ?_|refine zk ?_|refine zh ?_)|((with_reducible first|refine ks fun K hK=>?_|refine kd fun K hK=>?_|refine kc fun K hK2 hK hK3=>?_);simp (disch:=omega) only [bg0,bg1,bg2,bg3,bg4,zr,zS,eff,AX.ev,St.put,zQ,zP,ap1,zg,Int.reduceTMod,Int.reduceTDiv,reduceCtorEq,zt,AV.cells,AV.fine,AV.one,Nat.reduceAdd,Nat.reduceSub,Nat.reduceMul,Nat.reduceLT,Nat.reduceLeDiff,Int.reduceLT,Int.reduceLE,Int.reduceAdd,Int.reduceSub,Int.reduceNeg,Int.reduceMul,Int.reduceEq,Int.reduceToNat,zW,zp,live,zo,rdA,ze,wrA,zH,zq,zV,zR,zT,zi,zb,zm,zj,zd,cut,id,ap2,reduceIte,zu,zY,geB,AOp.cls,AOp.xs,ltB,ltC,Nat.reduceBEq,Option.toList,List.cons_append,decide_eq_true,decide_eq_false,if_pos,if_neg,List.length_map,zO,List.cons_append,bVb,bVn,eq_self,Bool.and_self,BEq.rfl,not_true_eq_false];(with_reducible first|(refine hK _ ?_;clear hK K)|(refine hK ?_;clear hK hK3 K hK2)|(refine hK3 ?_;clear hK hK3 K hK2))))
 refine ZN [2,3,7,8,9,10,11,12,13,14,15,16,17,18,19,20,21,22,23] (fun k v H=>v 7=I k∧H=[]∧∀ i (h:i+1 < l.length),i < k→cB (l[i]).1 (l[i+1]).1 < 0) (l.length - 1) ⟨rfl,rfl,fun i h hi=>absurd hi (Nat.not_lt_zero _)⟩ ?_ ?_
 ·rintro k v H hk ⟨h7, rfl, hi⟩
  simp only [mix,z9,Za,Zc,Nat.reduceEqDiff,Nat.reduceLeDiff,reduceCtorEq,if_true,if_false,reduceIte,Nat.reduceAdd,h7]
  have h1:=hl.k (k:=k) (by omega)
  have h2:=hl.k (k:=k+1) (by omega)
  by_cases hc:0≤cB (l[k]).1 (l[k+1]).1
  ·obtain rfl := is_false hr (by omega) hc
   repeat (first|(with_reducible first|refine zJ ?_|refine zI ?_|refine Zu ?_|refine zZ ?_|refine Ze ?_|refine zk ?_|refine Zm ?_|refine zh ?_|refine y8 ?_|refine Zl ?_|refine ZC ?_)|((first|((with_reducible refine kpd 44 ?_ ?_ ?_ ?_ ?_);rotate_left 1));(focus (simp (disch:=omega) only [bg0,bg1,bg2,bg3,bg4,zr,zS,eff,AX.ev,St.put,zQ,zP,ap1,zg,Int.reduceTMod,Int.reduceTDiv,reduceCtorEq,zt,AV.cells,AV.fine,AV.one,Nat.reduceAdd,Nat.reduceSub,Nat.reduceMul,Nat.reduceLT,Nat.reduceLeDiff,Int.reduceLT,Int.reduceLE,Int.reduceAdd,Int.reduceSub,Int.reduceNeg,Int.reduceMul,Int.reduceEq,Int.reduceToNat,zW,zp,live,zo,rdA,ze,wrA,zH,zq,zV,zR,zT,zi,zb,zm,zj,zd,cut,id,ap2,reduceIte,zu,zY,geB,AOp.cls,AOp.xs,ltB,ltC,Nat.reduceBEq,Option.toList,List.cons_append,decide_eq_true,decide_eq_false,if_pos,if_neg,List.length_map,zO,List.cons_append,bVb,bVn,eq_self,Bool.and_self,BEq.rfl,not_true_eq_false,hc];try rfl));(first|(rfl;exact (by refine Wh G _ _ ?_ ?_<;>assumption))))|((with_reducible first|refine ks fun K hK=>?_|refine kd fun K hK=>?_|refine kc fun K hK2 hK hK3=>?_|refine Zr fun K hR=>?_|refine Zj rfl fun K hR=>?_|refine Zi fun K hR=>?_);simp (disch:=omega) only [bg0,bg1,bg2,bg3,bg4,zr,zS,eff,AX.ev,St.put,zQ,zP,ap1,zg,Int.reduceTMod,Int.reduceTDiv,reduceCtorEq,zt,AV.cells,AV.fine,AV.one,Nat.reduceAdd,Nat.reduceSub,Nat.reduceMul,Nat.reduceLT,Nat.reduceLeDiff,Int.reduceLT,Int.reduceLE,Int.reduceAdd,Int.reduceSub,Int.reduceNeg,Int.reduceMul,Int.reduceEq,Int.reduceToNat,zW,zp,live,zo,rdA,ze,wrA,zH,zq,zV,zR,zT,zi,zb,zm,zj,zd,cut,id,ap2,reduceIte,zu,zY,geB,AOp.cls,AOp.xs,ltB,ltC,Nat.reduceBEq,Option.toList,List.cons_append,decide_eq_true,decide_eq_false,if_pos,if_neg,List.length_map,zO,List.cons_append,bVb,bVn,eq_self,Bool.and_self,BEq.rfl,not_true_eq_false,hc];(first|(with_reducible first|(refine hK _ ?_;clear hK K)|(refine hK ?_;clear hK hK3 K hK2)|(refine hK3 ?_;clear hK hK3 K hK2))|((with_reducible refine hR _ ?_ ?_ ?_ ?_);rotate_left 2;rfl;rfl)|((with_reducible refine hR _ ?_);rfl))))
  ·repeat (first|(with_reducible first|refine zJ ?_|refine zI ?_|refine Zu ?_|refine zZ ?_|refine Ze ?_|refine zk ?_|refine Zm ?_|refine zh ?_|refine z6 ?_)|((with_reducible first|refine ks fun K hK=>?_|refine kd fun K hK=>?_|refine kc fun K hK2 hK hK3=>?_);simp (disch:=omega) only [bg0,bg1,bg2,bg3,bg4,zr,zS,eff,AX.ev,St.put,zQ,zP,ap1,zg,Int.reduceTMod,Int.reduceTDiv,reduceCtorEq,zt,AV.cells,AV.fine,AV.one,Nat.reduceAdd,Nat.reduceSub,Nat.reduceMul,Nat.reduceLT,Nat.reduceLeDiff,Int.reduceLT,Int.reduceLE,Int.reduceAdd,Int.reduceSub,Int.reduceNeg,Int.reduceMul,Int.reduceEq,Int.reduceToNat,zW,zp,live,zo,rdA,ze,wrA,zH,zq,zV,zR,zT,zi,zb,zm,zj,zd,cut,id,ap2,reduceIte,zu,zY,geB,AOp.cls,AOp.xs,ltB,ltC,Nat.reduceBEq,Option.toList,List.cons_append,decide_eq_true,decide_eq_false,if_pos,if_neg,List.length_map,zO,List.cons_append,bVb,bVn,eq_self,Bool.and_self,BEq.rfl,not_true_eq_false,hc];(with_reducible first|(refine hK _ ?_;clear hK K)|(refine hK ?_;clear hK hK3 K hK2)|(refine hK3 ?_;clear hK hK3 K hK2)))|((first|((with_reducible refine kpd 44 ?_ ?_ ?_ ?_ ?_);rotate_left 1));(focus (simp (disch:=omega) only [bg0,bg1,bg2,bg3,bg4,zr,zS,eff,AX.ev,St.put,zQ,zP,ap1,zg,Int.reduceTMod,Int.reduceTDiv,reduceCtorEq,zt,AV.cells,AV.fine,AV.one,Nat.reduceAdd,Nat.reduceSub,Nat.reduceMul,Nat.reduceLT,Nat.reduceLeDiff,Int.reduceLT,Int.reduceLE,Int.reduceAdd,Int.reduceSub,Int.reduceNeg,Int.reduceMul,Int.reduceEq,Int.reduceToNat,zW,zp,live,zo,rdA,ze,wrA,zH,zq,zV,zR,zT,zi,zb,zm,zj,zd,cut,id,ap2,reduceIte,zu,zY,geB,AOp.cls,AOp.xs,ltB,ltC,Nat.reduceBEq,Option.toList,List.cons_append,decide_eq_true,decide_eq_false,if_pos,if_neg,List.length_map,zO,List.cons_append,bVb,bVn,eq_self,Bool.and_self,BEq.rfl,not_true_eq_false,hc];try rfl));(first|(rfl;exact (by refine Wh G _ _ ?_ ?_<;>assumption)))))
   refine ⟨rfl,rfl,rfl,fun i h hik=>?_⟩
   by_cases hik2:i=k
   ·subst hik2;omega
   ·exact hi i h (by omega)
 ·rintro v H ⟨h7, rfl, hi⟩
  simp only [mix,z9,Za,Zc,Nat.reduceEqDiff,Nat.reduceLeDiff,reduceCtorEq,if_true,if_false,reduceIte,Nat.reduceAdd,h7]
  obtain rfl:r=true:=hr.2 (slt_idx.2 fun i h=>hi i h (by omega))
  by_cases h0:l.length=0
  all_goals repeat (first|(with_reducible first|refine zJ ?_|refine zI ?_|refine Zp ?_|refine zk ?_|refine zh ?_|refine Zg ?_|refine Zb ?_|refine Zl ?_)|((with_reducible first|refine ks fun K hK=>?_|refine kd fun K hK=>?_|refine kc fun K hK2 hK hK3=>?_|refine Zr fun K hR=>?_|refine Zj rfl fun K hR=>?_|refine Zi fun K hR=>?_);simp (disch:=omega) only [bg0,bg1,bg2,bg3,bg4,zr,zS,eff,AX.ev,St.put,zQ,zP,ap1,zg,Int.reduceTMod,Int.reduceTDiv,reduceCtorEq,zt,AV.cells,AV.fine,AV.one,Nat.reduceAdd,Nat.reduceSub,Nat.reduceMul,Nat.reduceLT,Nat.reduceLeDiff,Int.reduceLT,Int.reduceLE,Int.reduceAdd,Int.reduceSub,Int.reduceNeg,Int.reduceMul,Int.reduceEq,Int.reduceToNat,zW,zp,live,zo,rdA,ze,wrA,zH,zq,zV,zR,zT,zi,zb,zm,zj,zd,cut,id,ap2,reduceIte,zu,zY,geB,AOp.cls,AOp.xs,ltB,ltC,Nat.reduceBEq,Option.toList,List.cons_append,decide_eq_true,decide_eq_false,if_pos,if_neg,List.length_map,zO,List.cons_append,bVb,bVn,eq_self,Bool.and_self,BEq.rfl,not_true_eq_false];(first|(with_reducible first|(refine hK _ ?_;clear hK K)|(refine hK ?_;clear hK hK3 K hK2)|(refine hK3 ?_;clear hK hK3 K hK2))|((with_reducible refine hR _ ?_ ?_ ?_ ?_);rotate_left 2;rfl;rfl)|((with_reducible refine hR _ ?_);rfl))))
set_option maxHeartbeats 4000000 in
theorem last30 (G:Nat→AV) (l:List Pr) (hl:Okl l) (i:Nat) (hi:i < l.length) (r:Bool) (hr:r=true↔fk (l[i]).1 (l.drop (i+1))=[]):PC Tryd.prog G 64 [.sl 2 (l.map pA),I i] (Bo r):=by
 have hlen:=hl.len
 rw [fk_none] at hr
 refine ZP cop64 ?_
 show W _ _ _ _ ⟨_,_⟩;simp only [A64,List.cons_append,List.nil_append,List.length_cons,List.length_nil,Nat.reduceAdd,Nat.reduceSub,List.replicate]
 repeat (first|(with_reducible first|refine zJ ?_|refine zI ?_|refine zZ ?_|refine zk ?_|refine zh ?_)|((with_reducible first|refine ks fun K hK=>?_|refine kd fun K hK=>?_|refine kc fun K hK2 hK hK3=>?_);simp (disch:=omega) only [bg0,bg1,bg2,bg3,bg4,zr,zS,eff,AX.ev,St.put,zQ,zP,ap1,zg,Int.reduceTMod,Int.reduceTDiv,reduceCtorEq,zt,AV.cells,AV.fine,AV.one,Nat.reduceAdd,Nat.reduceSub,Nat.reduceMul,Nat.reduceLT,Nat.reduceLeDiff,Int.reduceLT,Int.reduceLE,Int.reduceAdd,Int.reduceSub,Int.reduceNeg,Int.reduceMul,Int.reduceEq,Int.reduceToNat,zW,zp,live,zo,rdA,ze,wrA,zH,zq,zV,zR,zT,zi,zb,zm,zj,zd,cut,id,ap2,reduceIte,zu,zY,geB,AOp.cls,AOp.xs,ltB,ltC,Nat.reduceBEq,Option.toList,List.cons_append,decide_eq_true,decide_eq_false,if_pos,if_neg,List.length_map,zO,List.cons_append,bVb,bVn,eq_self,Bool.and_self,BEq.rfl,not_true_eq_false];(with_reducible first|(refine hK _ ?_;clear hK K)|(refine hK ?_;clear hK hK3 K hK2)|(refine hK3 ?_;clear hK hK3 K hK2))))
 refine ZN [4,5,8,9,10,11,12,13,14,15,16,17,18,19,20,21,22,23,24] (fun k v H=>v 5=I ((i+1+k:Nat):Int)∧H=[]∧∀ j (h:j < l.length),i < j→j < i+1+k→(l[j]).1 ≠ (l[i]).1) (l.length - (i+1)) ⟨rfl,rfl,fun j h h1 h2=>by omega⟩ ?_ ?_
 ·rintro k v H hk ⟨h5, rfl, hq⟩
  simp only [mix,z9,Za,Zc,Nat.reduceEqDiff,Nat.reduceLeDiff,reduceCtorEq,if_true,if_false,reduceIte,Nat.reduceAdd,h5]
  have hk2:i+1+k < l.length:=by omega
  have e2:((i:Int)+1+(k:Int)).toNat=i+1+k:=by omega
  have e3:((i:Int)+1+(k:Int)+1)=((i+1+(k+1):Nat):Int):=by omega
  by_cases hc:(l[i+1+k]).1=(l[i]).1
  ·obtain rfl : r = false := by
    cases r with
    | false=>rfl
    | true=>exact absurd hc (hr.1 rfl _ (by rw [List.mem_drop_iff_getElem];exact ⟨k,by omega,rfl⟩))
   repeat (first|(with_reducible first|refine zJ ?_|refine zI ?_|refine Zu ?_|refine zZ ?_|refine Ze ?_|refine zk ?_|refine Zm ?_|refine zh ?_|refine y8 ?_|refine Zl ?_|refine ZC ?_)|((with_reducible first|refine ks fun K hK=>?_|refine kd fun K hK=>?_|refine kc fun K hK2 hK hK3=>?_|refine Zr fun K hR=>?_|refine Zj rfl fun K hR=>?_|refine Zi fun K hR=>?_);simp (disch:=omega) only [bg0,bg1,bg2,bg3,bg4,zr,zS,eff,AX.ev,St.put,zQ,zP,ap1,zg,Int.reduceTMod,Int.reduceTDiv,reduceCtorEq,zt,AV.cells,AV.fine,AV.one,Nat.reduceAdd,Nat.reduceSub,Nat.reduceMul,Nat.reduceLT,Nat.reduceLeDiff,Int.reduceLT,Int.reduceLE,Int.reduceAdd,Int.reduceSub,Int.reduceNeg,Int.reduceMul,Int.reduceEq,Int.reduceToNat,zW,zp,live,zo,rdA,ze,wrA,zH,zq,zV,zR,zT,zi,zb,zm,zj,zd,cut,id,ap2,reduceIte,zu,zY,geB,AOp.cls,AOp.xs,ltB,ltC,Nat.reduceBEq,Option.toList,List.cons_append,decide_eq_true,decide_eq_false,if_pos,if_neg,List.length_map,zO,List.cons_append,bVb,bVn,eq_self,Bool.and_self,BEq.rfl,not_true_eq_false,hc,e2];(first|(with_reducible first|(refine hK _ ?_;clear hK K)|(refine hK ?_;clear hK hK3 K hK2)|(refine hK3 ?_;clear hK hK3 K hK2))|((with_reducible refine hR _ ?_ ?_ ?_ ?_);rotate_left 2;rfl;rfl)|((with_reducible refine hR _ ?_);rfl))))
  ·repeat (first|(with_reducible first|refine zJ ?_|refine zI ?_|refine Zu ?_|refine zZ ?_|refine Ze ?_|refine zk ?_|refine Zm ?_|refine zh ?_|refine z6 ?_)|((with_reducible first|refine ks fun K hK=>?_|refine kd fun K hK=>?_|refine kc fun K hK2 hK hK3=>?_);simp (disch:=omega) only [bg0,bg1,bg2,bg3,bg4,zr,zS,eff,AX.ev,St.put,zQ,zP,ap1,zg,Int.reduceTMod,Int.reduceTDiv,reduceCtorEq,zt,AV.cells,AV.fine,AV.one,Nat.reduceAdd,Nat.reduceSub,Nat.reduceMul,Nat.reduceLT,Nat.reduceLeDiff,Int.reduceLT,Int.reduceLE,Int.reduceAdd,Int.reduceSub,Int.reduceNeg,Int.reduceMul,Int.reduceEq,Int.reduceToNat,zW,zp,live,zo,rdA,ze,wrA,zH,zq,zV,zR,zT,zi,zb,zm,zj,zd,cut,id,ap2,reduceIte,zu,zY,geB,AOp.cls,AOp.xs,ltB,ltC,Nat.reduceBEq,Option.toList,List.cons_append,decide_eq_true,decide_eq_false,if_pos,if_neg,List.length_map,zO,List.cons_append,bVb,bVn,eq_self,Bool.and_self,BEq.rfl,not_true_eq_false,hc,e2];(with_reducible first|(refine hK _ ?_;clear hK K)|(refine hK ?_;clear hK hK3 K hK2)|(refine hK3 ?_;clear hK hK3 K hK2))))
   refine ⟨rfl,by simp [at_];omega,rfl,fun j h h1 h2=>?_⟩
   by_cases hj:j=i+1+k
   ·subst hj;exact hc
   ·exact hq j h h1 (by omega)
 ·rintro v H ⟨h5, rfl, hq⟩
  simp only [mix,z9,Za,Zc,Nat.reduceEqDiff,Nat.reduceLeDiff,reduceCtorEq,if_true,if_false,reduceIte,Nat.reduceAdd,h5]
  obtain rfl:r=true:=hr.2 fun p hp=>by
   obtain ⟨j,hj,rfl⟩:=List.mem_drop_iff_getElem.1 hp
   exact hq _ (by omega) (by omega) (by omega)
  repeat (first|(with_reducible first|refine zJ ?_|refine zI ?_|refine Zp ?_|refine zk ?_|refine zh ?_|refine Zg ?_|refine Zb ?_|refine Zl ?_)|((with_reducible first|refine ks fun K hK=>?_|refine kd fun K hK=>?_|refine kc fun K hK2 hK hK3=>?_|refine Zr fun K hR=>?_|refine Zj rfl fun K hR=>?_|refine Zi fun K hR=>?_);simp (disch:=omega) only [bg0,bg1,bg2,bg3,bg4,zr,zS,eff,AX.ev,St.put,zQ,zP,ap1,zg,Int.reduceTMod,Int.reduceTDiv,reduceCtorEq,zt,AV.cells,AV.fine,AV.one,Nat.reduceAdd,Nat.reduceSub,Nat.reduceMul,Nat.reduceLT,Nat.reduceLeDiff,Int.reduceLT,Int.reduceLE,Int.reduceAdd,Int.reduceSub,Int.reduceNeg,Int.reduceMul,Int.reduceEq,Int.reduceToNat,zW,zp,live,zo,rdA,ze,wrA,zH,zq,zV,zR,zT,zi,zb,zm,zj,zd,cut,id,ap2,reduceIte,zu,zY,geB,AOp.cls,AOp.xs,ltB,ltC,Nat.reduceBEq,Option.toList,List.cons_append,decide_eq_true,decide_eq_false,if_pos,if_neg,List.length_map,zO,List.cons_append,bVb,bVn,eq_self,Bool.and_self,BEq.rfl,not_true_eq_false];(first|(with_reducible first|(refine hK _ ?_;clear hK K)|(refine hK ?_;clear hK hK3 K hK2)|(refine hK3 ?_;clear hK hK3 K hK2))|((with_reducible refine hR _ ?_ ?_ ?_ ?_);rotate_left 2;rfl;rfl)|((with_reducible refine hR _ ?_);rfl))))
theorem same_false {a b:List Pr} {r:Bool} (hr:r=true↔a=b) {k:Nat} (h1:k < a.length) (h2:k < b.length) (h:¬ a[k]=b[k]):r=false:=by
 cases r with
 | false=>rfl
 | true=>obtain rfl:=hr.1 rfl;exact absurd rfl h
theorem pr_ne {p q:Pr} (h:¬ p=q):(decide (p.1=q.1) && decide (p.2=q.2))=false:=by
 cases hq:(decide (p.1=q.1) && decide (p.2=q.2)) with
 | false=>rfl
 | true =>
  simp only [Bool.and_eq_true,decide_eq_true_eq] at hq
  exact absurd (Prod.ext hq.1 hq.2) h
set_option maxHeartbeats 4000000 in
theorem XN (G:Nat→AV) (a b:List Pr) (ha:a.length≤1000000) (hb:b.length≤1000000) (r:Bool) (hr:r=true↔a=b):PC Tryd.prog G 43 [.sl 2 (a.map pA),.sl 2 (b.map pA)] (Bo r):=by
 refine ZP cop43 ?_
 show W _ _ _ _ ⟨_,_⟩;simp only [A43,List.cons_append,List.nil_append,List.length_cons,List.length_nil,Nat.reduceAdd,Nat.reduceSub,List.replicate]
 by_cases hn:a.length=b.length
 ·repeat (first|(with_reducible first|refine zJ ?_|refine zI ?_|refine zZ ?_|refine Ze ?_|refine zk ?_|refine zh ?_)|((with_reducible first|refine ks fun K hK=>?_|refine kd fun K hK=>?_|refine kc fun K hK2 hK hK3=>?_);simp (disch:=omega) only [bg0,bg1,bg2,bg3,bg4,zr,zS,eff,AX.ev,St.put,zQ,zP,ap1,zg,Int.reduceTMod,Int.reduceTDiv,reduceCtorEq,zt,AV.cells,AV.fine,AV.one,Nat.reduceAdd,Nat.reduceSub,Nat.reduceMul,Nat.reduceLT,Nat.reduceLeDiff,Int.reduceLT,Int.reduceLE,Int.reduceAdd,Int.reduceSub,Int.reduceNeg,Int.reduceMul,Int.reduceEq,Int.reduceToNat,zW,zp,live,zo,rdA,ze,wrA,zH,zq,zV,zR,zT,zi,zb,zm,zj,zd,cut,id,ap2,reduceIte,zu,zY,geB,AOp.cls,AOp.xs,ltB,ltC,Nat.reduceBEq,Option.toList,List.cons_append,decide_eq_true,decide_eq_false,if_pos,if_neg,List.length_map,zO,List.cons_append,bVb,bVn,eq_self,Bool.and_self,BEq.rfl,not_true_eq_false];(with_reducible first|(refine hK _ ?_;clear hK K)|(refine hK ?_;clear hK hK3 K hK2)|(refine hK3 ?_;clear hK hK3 K hK2))))
  refine ZN [4,5,11,12,13,14,15,16,17,18,19,20,21,22,23,24,25] (fun k v H=>v 5=I k∧H=[]∧a.take k=b.take k) a.length ⟨rfl,rfl,rfl⟩ ?_ ?_
  ·rintro k v H hk ⟨h5, rfl, hq⟩
   simp only [mix,z9,Za,Zc,Nat.reduceEqDiff,Nat.reduceLeDiff,reduceCtorEq,if_true,if_false,reduceIte,Nat.reduceAdd,h5]
   have hk3:k < b.length:=by omega
   by_cases he:a[k]=b[k]
   ·have q1 : a[k].1 = b[k].1 := by rw [he]
    have q2:a[k].2=b[k].2:=by rw [he]
    repeat (first|(with_reducible first|refine zJ ?_|refine zI ?_|refine Zu ?_|refine zZ ?_|refine Ze ?_|refine zk ?_|refine Zm ?_|refine zh ?_|refine z6 ?_)|((with_reducible first|refine ks fun K hK=>?_|refine kd fun K hK=>?_|refine kc fun K hK2 hK hK3=>?_);simp (disch:=omega) only [bg0,bg1,bg2,bg3,bg4,zr,zS,eff,AX.ev,St.put,zQ,zP,ap1,zg,Int.reduceTMod,Int.reduceTDiv,reduceCtorEq,zt,AV.cells,AV.fine,AV.one,Nat.reduceAdd,Nat.reduceSub,Nat.reduceMul,Nat.reduceLT,Nat.reduceLeDiff,Int.reduceLT,Int.reduceLE,Int.reduceAdd,Int.reduceSub,Int.reduceNeg,Int.reduceMul,Int.reduceEq,Int.reduceToNat,zW,zp,live,zo,rdA,ze,wrA,zH,zq,zV,zR,zT,zi,zb,zm,zj,zd,cut,id,ap2,reduceIte,zu,zY,geB,AOp.cls,AOp.xs,ltB,ltC,Nat.reduceBEq,Option.toList,List.cons_append,decide_eq_true,decide_eq_false,if_pos,if_neg,List.length_map,zO,List.cons_append,bVb,bVn,eq_self,Bool.and_self,BEq.rfl,not_true_eq_false,q1,q2];(with_reducible first|(refine hK _ ?_;clear hK K)|(refine hK ?_;clear hK hK3 K hK2)|(refine hK3 ?_;clear hK hK3 K hK2))))
    refine ⟨rfl,rfl,rfl,?_⟩
    rw [List.take_add_one,List.take_add_one,List.getElem?_eq_getElem hk,List.getElem?_eq_getElem hk3,hq,he]
   ·obtain rfl := same_false hr hk hk3 he
    have hb:=pr_ne he
    repeat (first|(with_reducible first|refine zJ ?_|refine zI ?_|refine Zu ?_|refine zZ ?_|refine Ze ?_|refine zk ?_|refine Zm ?_|refine zh ?_|refine y8 ?_|refine Zl ?_|refine ZC ?_)|((with_reducible first|refine ks fun K hK=>?_|refine kd fun K hK=>?_|refine kc fun K hK2 hK hK3=>?_|refine Zr fun K hR=>?_|refine Zj rfl fun K hR=>?_|refine Zi fun K hR=>?_);simp (disch:=omega) only [bg0,bg1,bg2,bg3,bg4,zr,zS,eff,AX.ev,St.put,zQ,zP,ap1,zg,Int.reduceTMod,Int.reduceTDiv,reduceCtorEq,zt,AV.cells,AV.fine,AV.one,Nat.reduceAdd,Nat.reduceSub,Nat.reduceMul,Nat.reduceLT,Nat.reduceLeDiff,Int.reduceLT,Int.reduceLE,Int.reduceAdd,Int.reduceSub,Int.reduceNeg,Int.reduceMul,Int.reduceEq,Int.reduceToNat,zW,zp,live,zo,rdA,ze,wrA,zH,zq,zV,zR,zT,zi,zb,zm,zj,zd,cut,id,ap2,reduceIte,zu,zY,geB,AOp.cls,AOp.xs,ltB,ltC,Nat.reduceBEq,Option.toList,List.cons_append,decide_eq_true,decide_eq_false,if_pos,if_neg,List.length_map,zO,List.cons_append,bVb,bVn,eq_self,Bool.and_self,BEq.rfl,not_true_eq_false,hb];(first|(with_reducible first|(refine hK _ ?_;clear hK K)|(refine hK ?_;clear hK hK3 K hK2)|(refine hK3 ?_;clear hK hK3 K hK2))|((with_reducible refine hR _ ?_ ?_ ?_ ?_);rotate_left 2;rfl;rfl)|((with_reducible refine hR _ ?_);rfl))))
  ·rintro v H ⟨h5, rfl, hq⟩
   simp only [mix,z9,Za,Zc,Nat.reduceEqDiff,Nat.reduceLeDiff,reduceCtorEq,if_true,if_false,reduceIte,Nat.reduceAdd,h5]
   obtain rfl:r=true:=hr.2 (by rwa [List.take_length,hn,List.take_length] at hq)
   repeat (first|(with_reducible first|refine zJ ?_|refine zI ?_|refine Zp ?_|refine zk ?_|refine zh ?_|refine Zg ?_|refine Zb ?_|refine Zl ?_)|((with_reducible first|refine ks fun K hK=>?_|refine kd fun K hK=>?_|refine kc fun K hK2 hK hK3=>?_|refine Zr fun K hR=>?_|refine Zj rfl fun K hR=>?_|refine Zi fun K hR=>?_);simp (disch:=omega) only [bg0,bg1,bg2,bg3,bg4,zr,zS,eff,AX.ev,St.put,zQ,zP,ap1,zg,Int.reduceTMod,Int.reduceTDiv,reduceCtorEq,zt,AV.cells,AV.fine,AV.one,Nat.reduceAdd,Nat.reduceSub,Nat.reduceMul,Nat.reduceLT,Nat.reduceLeDiff,Int.reduceLT,Int.reduceLE,Int.reduceAdd,Int.reduceSub,Int.reduceNeg,Int.reduceMul,Int.reduceEq,Int.reduceToNat,zW,zp,live,zo,rdA,ze,wrA,zH,zq,zV,zR,zT,zi,zb,zm,zj,zd,cut,id,ap2,reduceIte,zu,zY,geB,AOp.cls,AOp.xs,ltB,ltC,Nat.reduceBEq,Option.toList,List.cons_append,decide_eq_true,decide_eq_false,if_pos,if_neg,List.length_map,zO,List.cons_append,bVb,bVn,eq_self,Bool.and_self,BEq.rfl,not_true_eq_false];(first|(with_reducible first|(refine hK _ ?_;clear hK K)|(refine hK ?_;clear hK hK3 K hK2)|(refine hK3 ?_;clear hK hK3 K hK2))|((with_reducible refine hR _ ?_ ?_ ?_ ?_);rotate_left 2;rfl;rfl)|((with_reducible refine hR _ ?_);rfl))))
 ·obtain rfl : r = false := by
   cases r with
   | false=>rfl
   | true=>exact absurd (by rw [hr.1 rfl]) hn
  repeat (first|(with_reducible first|refine zJ ?_|refine zI ?_|refine zk ?_|refine zh ?_|refine Zl ?_|refine ZC ?_)|((with_reducible first|refine ks fun K hK=>?_|refine kd fun K hK=>?_|refine kc fun K hK2 hK hK3=>?_|refine Zr fun K hR=>?_|refine Zj rfl fun K hR=>?_|refine Zi fun K hR=>?_);simp (disch:=omega) only [bg0,bg1,bg2,bg3,bg4,zr,zS,eff,AX.ev,St.put,zQ,zP,ap1,zg,Int.reduceTMod,Int.reduceTDiv,reduceCtorEq,zt,AV.cells,AV.fine,AV.one,Nat.reduceAdd,Nat.reduceSub,Nat.reduceMul,Nat.reduceLT,Nat.reduceLeDiff,Int.reduceLT,Int.reduceLE,Int.reduceAdd,Int.reduceSub,Int.reduceNeg,Int.reduceMul,Int.reduceEq,Int.reduceToNat,zW,zp,live,zo,rdA,ze,wrA,zH,zq,zV,zR,zT,zi,zb,zm,zj,zd,cut,id,ap2,reduceIte,zu,zY,geB,AOp.cls,AOp.xs,ltB,ltC,Nat.reduceBEq,Option.toList,List.cons_append,decide_eq_true,decide_eq_false,if_pos,if_neg,List.length_map,zO,List.cons_append,bVb,bVn,eq_self,Bool.and_self,BEq.rfl,not_true_eq_false];(first|(with_reducible first|(refine hK _ ?_;clear hK K)|(refine hK ?_;clear hK hK3 K hK2)|(refine hK3 ?_;clear hK hK3 K hK2))|((with_reducible refine hR _ ?_ ?_ ?_ ?_);rotate_left 2;rfl;rfl)|((with_reducible refine hR _ ?_);rfl))))
theorem val_take {l:List Pr} {k:ByteArray} {n:Nat} (h:n < l.length):val (l.take (n+1)) k=if (l[n]).1=k then some (l[n]).2 else val (l.take n) k:=by
 rw [List.take_add_one,List.getElem?_eq_getElem h,Option.toList_some,Yi,val_one]
 split<;>rfl
set_option maxHeartbeats 4000000 in
theorem get10 (G:Nat→AV) (l:List Pr) (hl:Okl l) (key:ByteArray):PC Tryd.prog G 32 [.sl 2 (l.map pA),S key] (.tup [S ((val l key).getD ⟨#[]⟩),Bo (val l key).isSome]):=by
 have hlen:=hl.len
 refine ZP cop32 ?_
 show W _ _ _ _ ⟨_,_⟩;simp only [A32,List.cons_append,List.nil_append,List.length_cons,List.length_nil,Nat.reduceAdd,Nat.reduceSub,List.replicate]
 repeat (first|(with_reducible first|refine zJ ?_|refine zI ?_|refine zZ ?_|refine zk ?_|refine zh ?_)|((with_reducible first|refine ks fun K hK=>?_|refine kd fun K hK=>?_|refine kc fun K hK2 hK hK3=>?_);simp (disch:=omega) only [bg0,bg1,bg2,bg3,bg4,zr,zS,eff,AX.ev,St.put,zQ,zP,ap1,zg,Int.reduceTMod,Int.reduceTDiv,reduceCtorEq,zt,AV.cells,AV.fine,AV.one,Nat.reduceAdd,Nat.reduceSub,Nat.reduceMul,Nat.reduceLT,Nat.reduceLeDiff,Int.reduceLT,Int.reduceLE,Int.reduceAdd,Int.reduceSub,Int.reduceNeg,Int.reduceMul,Int.reduceEq,Int.reduceToNat,zW,zp,live,zo,rdA,ze,wrA,zH,zq,zV,zR,zT,zi,zb,zm,zj,zd,cut,id,ap2,reduceIte,zu,zY,geB,AOp.cls,AOp.xs,ltB,ltC,Nat.reduceBEq,Option.toList,List.cons_append,decide_eq_true,decide_eq_false,if_pos,if_neg,List.length_map,zO,List.cons_append,bVb,bVn,eq_self,Bool.and_self,BEq.rfl,not_true_eq_false];(with_reducible first|(refine hK _ ?_;clear hK K)|(refine hK ?_;clear hK hK3 K hK2)|(refine hK3 ?_;clear hK hK3 K hK2))))
 refine ZN [4,5,6,10,11,12,13,14,15,16,17,18,19,20,21,22,23,24,25] (fun k v H=>v 6=I ((l.length:Int) - 1 - k)∧H=[]∧val l key=val (l.take (l.length - k)) key) l.length ⟨by simp [at_],rfl,by simp⟩ ?_ ?_
 ·rintro k v H hk ⟨h6, rfl, hq⟩
  simp only [mix,z9,Za,Zc,Nat.reduceEqDiff,Nat.reduceLeDiff,reduceCtorEq,if_true,if_false,reduceIte,Nat.reduceAdd,h6]
  have hk2:l.length - 1 - k < l.length:=by omega
  have e1:(l.length:Int) - 1 - k=((l.length - 1 - k:Nat):Int):=by omega
  rw [show l.length - k=l.length - 1 - k+1 by omega,val_take hk2] at hq
  by_cases hc:(l[l.length - 1 - k]).1=key
  ·rw [if_pos hc] at hq
   simp only [hq,Option.getD_some,Option.isSome_some]
   repeat (first|(with_reducible first|refine zJ ?_|refine zI ?_|refine zZ ?_|refine Ze ?_|refine zk ?_|refine zh ?_|refine y8 ?_|refine Zl ?_|refine ZC ?_)|((with_reducible first|refine ks fun K hK=>?_|refine kd fun K hK=>?_|refine kc fun K hK2 hK hK3=>?_|refine Zr fun K hR=>?_|refine Zj rfl fun K hR=>?_|refine Zi fun K hR=>?_);simp (disch:=omega) only [bg0,bg1,bg2,bg3,bg4,zr,zS,eff,AX.ev,St.put,zQ,zP,ap1,zg,Int.reduceTMod,Int.reduceTDiv,reduceCtorEq,zt,AV.cells,AV.fine,AV.one,Nat.reduceAdd,Nat.reduceSub,Nat.reduceMul,Nat.reduceLT,Nat.reduceLeDiff,Int.reduceLT,Int.reduceLE,Int.reduceAdd,Int.reduceSub,Int.reduceNeg,Int.reduceMul,Int.reduceEq,Int.reduceToNat,zW,zp,live,zo,rdA,ze,wrA,zH,zq,zV,zR,zT,zi,zb,zm,zj,zd,cut,id,ap2,reduceIte,zu,zY,geB,AOp.cls,AOp.xs,ltB,ltC,Nat.reduceBEq,Option.toList,List.cons_append,decide_eq_true,decide_eq_false,if_pos,if_neg,List.length_map,zO,List.cons_append,bVb,bVn,eq_self,Bool.and_self,BEq.rfl,not_true_eq_false,hc,e1];(first|(with_reducible first|(refine hK _ ?_;clear hK K)|(refine hK ?_;clear hK hK3 K hK2)|(refine hK3 ?_;clear hK hK3 K hK2))|((with_reducible refine hR _ ?_ ?_ ?_ ?_);rotate_left 2;rfl;rfl)|((with_reducible refine hR _ ?_);rfl))))
  ·rw [if_neg hc] at hq
   repeat (first|(with_reducible first|refine zJ ?_|refine zI ?_|refine zZ ?_|refine Ze ?_|refine zk ?_|refine zh ?_|refine z6 ?_)|((with_reducible first|refine ks fun K hK=>?_|refine kd fun K hK=>?_|refine kc fun K hK2 hK hK3=>?_);simp (disch:=omega) only [bg0,bg1,bg2,bg3,bg4,zr,zS,eff,AX.ev,St.put,zQ,zP,ap1,zg,Int.reduceTMod,Int.reduceTDiv,reduceCtorEq,zt,AV.cells,AV.fine,AV.one,Nat.reduceAdd,Nat.reduceSub,Nat.reduceMul,Nat.reduceLT,Nat.reduceLeDiff,Int.reduceLT,Int.reduceLE,Int.reduceAdd,Int.reduceSub,Int.reduceNeg,Int.reduceMul,Int.reduceEq,Int.reduceToNat,zW,zp,live,zo,rdA,ze,wrA,zH,zq,zV,zR,zT,zi,zb,zm,zj,zd,cut,id,ap2,reduceIte,zu,zY,geB,AOp.cls,AOp.xs,ltB,ltC,Nat.reduceBEq,Option.toList,List.cons_append,decide_eq_true,decide_eq_false,if_pos,if_neg,List.length_map,zO,List.cons_append,bVb,bVn,eq_self,Bool.and_self,BEq.rfl,not_true_eq_false,hc,e1];(with_reducible first|(refine hK _ ?_;clear hK K)|(refine hK ?_;clear hK hK3 K hK2)|(refine hK3 ?_;clear hK hK3 K hK2))))
   refine ⟨rfl,by simp [at_];omega,rfl,?_⟩
   rw [hq,show l.length - (k+1)=l.length - 1 - k by omega]
 ·rintro v H ⟨h6, rfl, hq⟩
  simp only [mix,z9,Za,Zc,Nat.reduceEqDiff,Nat.reduceLeDiff,reduceCtorEq,if_true,if_false,reduceIte,Nat.reduceAdd,h6]
  rw [Nat.sub_self,List.take_zero,val_nil] at hq
  simp only [hq,Option.getD_none,Option.isSome_none]
  repeat (first|(with_reducible first|refine zJ ?_|refine zI ?_|refine Zp ?_|refine zk ?_|refine zh ?_|refine Zg ?_|refine Zb ?_|refine Zl ?_)|((with_reducible first|refine ks fun K hK=>?_|refine kd fun K hK=>?_|refine kc fun K hK2 hK hK3=>?_|refine Zr fun K hR=>?_|refine Zj rfl fun K hR=>?_|refine Zi fun K hR=>?_);simp (disch:=omega) only [bg0,bg1,bg2,bg3,bg4,zr,zS,eff,AX.ev,St.put,zQ,zP,ap1,zg,Int.reduceTMod,Int.reduceTDiv,reduceCtorEq,zt,AV.cells,AV.fine,AV.one,Nat.reduceAdd,Nat.reduceSub,Nat.reduceMul,Nat.reduceLT,Nat.reduceLeDiff,Int.reduceLT,Int.reduceLE,Int.reduceAdd,Int.reduceSub,Int.reduceNeg,Int.reduceMul,Int.reduceEq,Int.reduceToNat,zW,zp,live,zo,rdA,ze,wrA,zH,zq,zV,zR,zT,zi,zb,zm,zj,zd,cut,id,ap2,reduceIte,zu,zY,geB,AOp.cls,AOp.xs,ltB,ltC,Nat.reduceBEq,Option.toList,List.cons_append,decide_eq_true,decide_eq_false,if_pos,if_neg,List.length_map,zO,List.cons_append,bVb,bVn,eq_self,Bool.and_self,BEq.rfl,not_true_eq_false];(first|(with_reducible first|(refine hK _ ?_;clear hK K)|(refine hK ?_;clear hK hK3 K hK2)|(refine hK3 ?_;clear hK hK3 K hK2))|((with_reducible refine hR _ ?_ ?_ ?_ ?_);rotate_left 2;rfl;rfl)|((with_reducible refine hR _ ?_);rfl))))
end Go.Proofs.YtgpldekhcojimaaDoor.Sim.Pr7
namespace Go.Proofs.YtgpldekhcojimaaDoor.Sim.Pr7
open Go.RowKit
set_option maxRecDepth 100000
theorem Zn {C:List Pr} {p:Nat} {x:Pr}:(C.map pA).set p (.agg [S x.1,S x.2])=(C.set p x).map pA:=by
 rw [List.map_set];rfl
def px (D:List Pr) (f:Nat→Nat):List Pr:=(List.range D.length).map fun x=>D.getD (f x) default
theorem xp {D:List Pr} {f:Nat→Nat}:(px D f).length=D.length:=by simp [px]
theorem YM {D:List Pr} {f:Nat→Nat} {x:Nat}:(px D f)[x]? = if x < D.length then some (D.getD (f x) default) else none:=by
 unfold px
 rw [List.getElem?_map]
 by_cases h:x < D.length
 ·rw [List.getElem?_range h,if_pos h];rfl
 ·rw [if_neg h,List.getElem?_eq_none (by simpa using h)];rfl
theorem px_get {D:List Pr} {f:Nat→Nat} {x:Nat} (h:x < (px D f).length):(px D f)[x]=D.getD (f x) default:=by
 have h2:x < D.length:=by rwa [xp] at h
 have:=YM (D:=D) (f:=f) (x:=x)
 rw [if_pos h2,List.getElem?_eq_getElem h] at this
 exact Option.some.inj this
theorem YA {D:List Pr} {f g:Nat→Nat} (h:∀ x,x < D.length→f x=g x):px D f=px D g:=by
 apply List.ext_getElem?
 intro x
 rw [YM,YM]
 by_cases hx:x < D.length
 ·rw [if_pos hx,if_pos hx,h x hx]
 ·rw [if_neg hx,if_neg hx]
theorem px_id {D:List Pr}:px D (fun x=>x)=D:=by
 apply List.ext_getElem?
 intro x
 rw [YM]
 by_cases hx:x < D.length
 ·rw [if_pos hx,List.getD_eq_getElem?_getD,List.getElem?_eq_getElem hx];rfl
 ·rw [if_neg hx,List.getElem?_eq_none (by omega)]
theorem px_px {D:List Pr} {f g:Nat→Nat} (h:∀ x,x < D.length→g x < D.length):px (px D f) g=px D (fun x=>f (g x)):=by
 apply List.ext_getElem?
 intro x
 rw [YM,YM,xp]
 by_cases hx:x < D.length
 ·rw [if_pos hx,if_pos hx,List.getD_eq_getElem?_getD,YM,if_pos (h x hx)];rfl
 ·rw [if_neg hx,if_neg hx]
theorem px_set {D : List Pr} {f : Nat → Nat} {p q : Nat} (hp : p < (px D f).length) (hq : q < (px D f).length) :
  ((px D f).set p (px D f)[q]).set q (px D f)[p]=px D (fun x=>if x=q then f p else if x=p then f q else f x):=by
 apply List.ext_getElem?
 intro x
 rw [List.getElem?_set,List.getElem?_set,YM,YM,px_get hp,px_get hq]
 simp only [List.length_set,xp] at *
 by_cases h1:q=x
 ·subst h1;simp [hq]
 ·by_cases h2 : p = x
  ·subst h2;simp [hp,h1,Ne.symm h1]
  ·simp [h1,h2,Ne.symm h1,Ne.symm h2]
def swf (a b n x:Nat):Nat:=if a≤x∧x < a+n then b+(x - a) else if b≤x∧x < b+n then a+(x - b) else x
abbrev rw0 (D:List Pr) (g:Nat):OB:=⟨65,2,D.map pA,g,0⟩
theorem xU {D E:List Pr} {g:Nat} (h:D=E):[rw0 D g]=[rw0 E g]:=by rw [h]
set_option maxHeartbeats 4000000 in
theorem swp46 (G : Nat → AV) (D : List Pr) (g a b n : Nat) (hN : D.length ≤ 1000000) (h1 : a + n ≤ b) (h2 : b + n ≤ D.length) (cf : AV) :
  HC Tryd.prog G 104 [.ol 0 g D.length,I a,I b,I n,cf] [rw0 D g] (.tup []) [rw0 (px D (swf a b n)) g]:=by
 refine yk cop104 ?_
 show W _ _ _ _ ⟨_,_⟩;simp only [A104,List.cons_append,List.nil_append,List.length_cons,List.length_nil,Nat.reduceAdd,Nat.reduceSub,List.replicate]
 repeat (first|(with_reducible first|refine zJ ?_|refine zI ?_|refine zZ ?_|refine zk ?_|refine zh ?_)|((with_reducible first|refine ks fun K hK=>?_|refine kd fun K hK=>?_|refine kc fun K hK2 hK hK3=>?_);simp (disch:=omega) only [bg0,bg1,bg2,bg3,bg4,zr,zS,eff,AX.ev,St.put,zQ,zP,ap1,zg,Int.reduceTMod,Int.reduceTDiv,reduceCtorEq,zt,AV.cells,AV.fine,AV.one,Nat.reduceAdd,Nat.reduceSub,Nat.reduceMul,Nat.reduceLT,Nat.reduceLeDiff,Int.reduceLT,Int.reduceLE,Int.reduceAdd,Int.reduceSub,Int.reduceNeg,Int.reduceMul,Int.reduceEq,Int.reduceToNat,zW,zp,live,zo,rdA,ze,wrA,zH,zq,zV,zR,zT,zi,zb,zm,zj,zd,cut,id,ap2,reduceIte,zu,zY,geB,AOp.cls,AOp.xs,ltB,ltC,Nat.reduceBEq,Option.toList,List.cons_append,decide_eq_true,decide_eq_false,if_pos,if_neg,List.length_map,zO,List.cons_append,bVb,bVn,eq_self,Bool.and_self,BEq.rfl,not_true_eq_false,Zn,List.length_set];(with_reducible first|(refine hK _ ?_;clear hK K)|(refine hK ?_;clear hK hK3 K hK2)|(refine hK3 ?_;clear hK hK3 K hK2))))
 refine ZN [10,11,12,13,14,15,16,17,18,19,20,21,22,23,24,25,26,27,28,29,30,31,32,33,34,35,36,37] (fun k v H=>v 10=I k∧H=[rw0 (px D (swf a b k)) g]) n ⟨rfl,?_⟩ ?_ ?_
 ·refine xU ?_
  have e:px D (swf a b 0)=px D (fun x=>x):=YA fun x _=>by
   simp only [swf]
   repeat' split
   all_goals omega
  rw [e,px_id]
 ·rintro k v H hk ⟨h10, rfl⟩
  have hl:(px D (swf a b k)).length=D.length:=xp
  have hp:a+k < (px D (swf a b k)).length:=by omega
  have hq:b+k < (px D (swf a b k)).length:=by omega
  have hs:=px_set hp hq
  generalize px D (swf a b k)=C at hl hp hq hs
  have q1:=zO (l:=C.set (a+k) C[b+k]) (k:=b+k) (by simp;omega)
  have e1:((a:Int)+(k:Int)).toNat=a+k:=by omega
  have e2:((b:Int)+(k:Int)).toNat=b+k:=by omega
  simp only [mix,z9,Za,Zc,Nat.reduceEqDiff,Nat.reduceLeDiff,reduceCtorEq,if_true,if_false,reduceIte,Nat.reduceAdd,h10]
  repeat (first|(with_reducible first|refine zJ ?_|refine zI ?_)|(with_reducible refine YY ?_ ?_ ?_ ?_;rotate_left 1)|(with_reducible first|exact isSt|refine zZ ?_|refine Ze ?_|refine zk ?_|refine Zm ?_|refine zh ?_|refine z6 ?_)|((with_reducible first|refine ks fun K hK=>?_|refine kd fun K hK=>?_|refine kc fun K hK2 hK hK3=>?_);simp (disch:=omega) only [bg0,bg1,bg2,bg3,bg4,zr,zS,eff,AX.ev,St.put,zQ,zP,ap1,zg,Int.reduceTMod,Int.reduceTDiv,reduceCtorEq,zt,AV.cells,AV.fine,AV.one,Nat.reduceAdd,Nat.reduceSub,Nat.reduceMul,Nat.reduceLT,Nat.reduceLeDiff,Int.reduceLT,Int.reduceLE,Int.reduceAdd,Int.reduceSub,Int.reduceNeg,Int.reduceMul,Int.reduceEq,Int.reduceToNat,zW,zp,live,zo,rdA,ze,wrA,zH,zq,zV,zR,zT,zi,zb,zm,zj,zd,cut,id,ap2,reduceIte,zu,zY,geB,AOp.cls,AOp.xs,ltB,ltC,Nat.reduceBEq,Option.toList,List.cons_append,decide_eq_true,decide_eq_false,if_pos,if_neg,List.length_map,zO,List.cons_append,bVb,bVn,eq_self,Bool.and_self,BEq.rfl,not_true_eq_false,Zn,List.length_set,e1,e2,q1];(with_reducible first|(refine hK _ ?_;clear hK K)|(refine hK ?_;clear hK hK3 K hK2)|(refine hK3 ?_;clear hK hK3 K hK2))))
  refine ⟨rfl,rfl,xU (hs.trans (YA fun x hx=>?_))⟩
  simp only [swf]
  repeat' split
  all_goals omega
 ·rintro v H ⟨h10, rfl⟩
  simp only [mix,z9,Za,Zc,Nat.reduceEqDiff,Nat.reduceLeDiff,reduceCtorEq,if_true,if_false,reduceIte,Nat.reduceAdd,h10]
  repeat (first|(with_reducible first|refine zJ ?_|refine zI ?_|refine Zp ?_|refine zk ?_|refine zh ?_|refine Zg ?_|refine Zb ?_)|((with_reducible first|refine ks fun K hK=>?_|refine kd fun K hK=>?_|refine kc fun K hK2 hK hK3=>?_);simp (disch:=omega) only [bg0,bg1,bg2,bg3,bg4,zr,zS,eff,AX.ev,St.put,zQ,zP,ap1,zg,Int.reduceTMod,Int.reduceTDiv,reduceCtorEq,zt,AV.cells,AV.fine,AV.one,Nat.reduceAdd,Nat.reduceSub,Nat.reduceMul,Nat.reduceLT,Nat.reduceLeDiff,Int.reduceLT,Int.reduceLE,Int.reduceAdd,Int.reduceSub,Int.reduceNeg,Int.reduceMul,Int.reduceEq,Int.reduceToNat,zW,zp,live,zo,rdA,ze,wrA,zH,zq,zV,zR,zT,zi,zb,zm,zj,zd,cut,id,ap2,reduceIte,zu,zY,geB,AOp.cls,AOp.xs,ltB,ltC,Nat.reduceBEq,Option.toList,List.cons_append,decide_eq_true,decide_eq_false,if_pos,if_neg,List.length_map,zO,List.cons_append,bVb,bVn,eq_self,Bool.and_self,BEq.rfl,not_true_eq_false,Zn,List.length_set];(with_reducible first|(refine hK _ ?_;clear hK K)|(refine hK ?_;clear hK hK3 K hK2)|(refine hK3 ?_;clear hK hK3 K hK2)))|((with_reducible refine Y2 ?_);try rfl))
def rtf (a m b x:Nat):Nat:=if a≤x∧x < a+(b - m) then m+(x - a) else if a+(b - m)≤x∧x < b then x - (b - m) else x
theorem wX {a m b x N:Nat} (h1:a≤m) (h2:m≤b) (h3:b≤N) (hx:x < N):rtf a m b x < N:=by
 unfold rtf;repeat' split
 all_goals omega
theorem rt_gt {C:List Pr} {m i j:Nat} (hij:j < i) (hj:0 < j) (hi:i≤m) (hb:m+j≤C.length):px (px C (swf (m - i) m j)) (rtf (m - (i - j)) m (m+j))=px C (rtf (m - i) m (m+j)):=by
 rw [px_px fun x hx=>wX (by omega) (by omega) hb hx]
 refine YA fun x hx=>?_
 simp only [swf,rtf]
 repeat' split
 all_goals omega
theorem rt_lt {C:List Pr} {m i j:Nat} (hij:i < j) (hi0:0 < i) (hi:i≤m) (hb:m+j≤C.length):px (px C (swf (m - i) (m+j - i) i)) (rtf (m - i) m (m+(j - i)))=px C (rtf (m - i) m (m+j)):=by
 rw [px_px fun x hx=>wX (by omega) (by omega) (by omega) hx]
 refine YA fun x hx=>?_
 simp only [swf,rtf]
 repeat' split
 all_goals omega
theorem rt_eq {C:List Pr} {m i:Nat} (hi:i≤m) (hb:m+i≤C.length):px C (swf (m - i) m i)=px C (rtf (m - i) m (m+i)):=by
 refine YA fun x hx=>?_
 simp only [swf,rtf]
 repeat' split
 all_goals omega
set_option maxHeartbeats 4000000 in
theorem rot45 (G : Nat → AV) (D : List Pr) (g a m b : Nat) (hN : D.length ≤ 1000000) (h1 : a < m) (h2 : m < b) (h3 : b ≤ D.length) (cf : AV) :
  HC Tryd.prog G 103 [.ol 0 g D.length,I a,I m,I b,cf] [rw0 D g] (.tup []) [rw0 (px D (rtf a m b)) g]:=by
 refine yk cop103 ?_
 show W _ _ _ _ ⟨_,_⟩;simp only [A103,List.cons_append,List.nil_append,List.length_cons,List.length_nil,Nat.reduceAdd,Nat.reduceSub,List.replicate]
 repeat (first|(with_reducible first|refine zJ ?_|refine zI ?_|refine zZ ?_|refine zk ?_|refine zh ?_)|((with_reducible first|refine ks fun K hK=>?_|refine kd fun K hK=>?_|refine kc fun K hK2 hK hK3=>?_);simp (disch:=omega) only [bg0,bg1,bg2,bg3,bg4,zr,zS,eff,AX.ev,St.put,zQ,zP,ap1,zg,Int.reduceTMod,Int.reduceTDiv,reduceCtorEq,zt,AV.cells,AV.fine,AV.one,Nat.reduceAdd,Nat.reduceSub,Nat.reduceMul,Nat.reduceLT,Nat.reduceLeDiff,Int.reduceLT,Int.reduceLE,Int.reduceAdd,Int.reduceSub,Int.reduceNeg,Int.reduceMul,Int.reduceEq,Int.reduceToNat,zW,zp,live,zo,rdA,ze,wrA,zH,zq,zV,zR,zT,zi,zb,zm,zj,zd,cut,id,ap2,reduceIte,zu,zY,geB,AOp.cls,AOp.xs,ltB,ltC,Nat.reduceBEq,Option.toList,List.cons_append,decide_eq_true,decide_eq_false,if_pos,if_neg,List.length_map,zO,List.cons_append,bVb,bVn,eq_self,Bool.and_self,BEq.rfl,not_true_eq_false,Zn,List.length_set];(with_reducible first|(refine hK _ ?_;clear hK K)|(refine hK ?_;clear hK hK3 K hK2)|(refine hK3 ?_;clear hK hK3 K hK2))))
 refine Yw [10,11,18,19,20,21,22,23,24,25,26,27,28,29,30,31,32,33,34,35,36,37,38,39,40,41,42,43,44,45,46,47,48,49] (fun u v H=>∃ (i j:Nat) (C:List Pr),u=i+j∧v 10=I i∧v 11=I j∧H=[rw0 C g]∧C.length=D.length∧0 < i∧0 < j∧i≤m - a∧j≤b - m∧px C (rtf (m - i) m (m+j))=px D (rtf a m b)) (b - a) ⟨m - a,b - m,D,by omega,by simp [at_];omega,by simp [at_];omega,rfl,rfl,by omega,by omega,by omega,by omega,by rw [show m - (m - a)=a by omega,show m+(b - m)=b by omega]⟩ ?_
 rintro u v H ⟨i,j,C,rfl,h10,h11,rfl,hl,hi,hj,hi2,hj2,hpx⟩
 simp only [mix,z9,Za,Zc,Nat.reduceEqDiff,Nat.reduceLeDiff,reduceCtorEq,if_true,if_false,reduceIte,Nat.reduceAdd,h10,h11]
 have e1:(m:Int) - (i:Int)=((m - i:Nat):Int):=by omega
 by_cases hij:i=j
 ·subst hij
  rw [← hpx,← rt_eq (by omega) (by omega),← hl]
  repeat (first|(with_reducible first|refine zJ ?_|refine zI ?_|refine Zp ?_|refine zk ?_|refine zh ?_|refine Zg ?_|refine Zb ?_)|((with_reducible first|refine ks fun K hK=>?_|refine kd fun K hK=>?_|refine kc fun K hK2 hK hK3=>?_);simp (disch:=omega) only [bg0,bg1,bg2,bg3,bg4,zr,zS,eff,AX.ev,St.put,zQ,zP,ap1,zg,Int.reduceTMod,Int.reduceTDiv,reduceCtorEq,zt,AV.cells,AV.fine,AV.one,Nat.reduceAdd,Nat.reduceSub,Nat.reduceMul,Nat.reduceLT,Nat.reduceLeDiff,Int.reduceLT,Int.reduceLE,Int.reduceAdd,Int.reduceSub,Int.reduceNeg,Int.reduceMul,Int.reduceEq,Int.reduceToNat,zW,zp,live,zo,rdA,ze,wrA,zH,zq,zV,zR,zT,zi,zb,zm,zj,zd,cut,id,ap2,reduceIte,zu,zY,geB,AOp.cls,AOp.xs,ltB,ltC,Nat.reduceBEq,Option.toList,List.cons_append,decide_eq_true,decide_eq_false,if_pos,if_neg,List.length_map,zO,List.cons_append,bVb,bVn,eq_self,Bool.and_self,BEq.rfl,not_true_eq_false,Zn,List.length_set,e1];(with_reducible first|(refine hK _ ?_;clear hK K)|(refine hK ?_;clear hK hK3 K hK2)|(refine hK3 ?_;clear hK hK3 K hK2)))|((with_reducible refine khs 104 ?_ ?_ ?_ ?_);rotate_left 2;exact (swp46 G C g (m - i) m i (by omega) (by omega) (by omega) cf))|((with_reducible refine Y2 ?_);try rfl))
 ·by_cases hgt : j < i
  ·have hn : ¬ ((i : Int) = (j : Int)) := by omega
   have hg:(j:Int) < (i:Int):=by omega
   have e2:(i:Int) - (j:Int)=((i - j:Nat):Int):=by omega
   rw [← hl]
   repeat (first|(with_reducible first|refine zJ ?_|refine zI ?_|refine zZ ?_|refine Ze ?_|refine zk ?_|refine zh ?_|refine z6 ?_)|((with_reducible first|refine ks fun K hK=>?_|refine kd fun K hK=>?_|refine kc fun K hK2 hK hK3=>?_);simp (disch:=omega) only [bg0,bg1,bg2,bg3,bg4,zr,zS,eff,AX.ev,St.put,zQ,zP,ap1,zg,Int.reduceTMod,Int.reduceTDiv,reduceCtorEq,zt,AV.cells,AV.fine,AV.one,Nat.reduceAdd,Nat.reduceSub,Nat.reduceMul,Nat.reduceLT,Nat.reduceLeDiff,Int.reduceLT,Int.reduceLE,Int.reduceAdd,Int.reduceSub,Int.reduceNeg,Int.reduceMul,Int.reduceEq,Int.reduceToNat,zW,zp,live,zo,rdA,ze,wrA,zH,zq,zV,zR,zT,zi,zb,zm,zj,zd,cut,id,ap2,reduceIte,zu,zY,geB,AOp.cls,AOp.xs,ltB,ltC,Nat.reduceBEq,Option.toList,List.cons_append,decide_eq_true,decide_eq_false,if_pos,if_neg,List.length_map,zO,List.cons_append,bVb,bVn,eq_self,Bool.and_self,BEq.rfl,not_true_eq_false,Zn,List.length_set,e1,e2,hn,hg];(with_reducible first|(refine hK _ ?_;clear hK K)|(refine hK ?_;clear hK hK3 K hK2)|(refine hK3 ?_;clear hK hK3 K hK2)))|((with_reducible refine khs 104 ?_ ?_ ?_ ?_);rotate_left 2;exact (swp46 G C g (m - i) m j (by omega) (by omega) (by omega) cf)))
   exact ⟨rfl,i,by omega,i - j,j,_,by omega,rfl,rfl,rfl,by rw [xp,hl],by omega,hj,by omega,hj2,by rw [rt_gt hgt hj (by omega) (by omega)];exact hpx⟩
  ·have hn : ¬ ((i : Int) = (j : Int)) := by omega
   have hg:¬ (j:Int) < (i:Int):=by omega
   have e2:(j:Int) - (i:Int)=((j - i:Nat):Int):=by omega
   have e3:(m:Int)+(j:Int) - (i:Int)=((m+j - i:Nat):Int):=by omega
   rw [← hl]
   repeat (first|(with_reducible first|refine zJ ?_|refine zI ?_|refine zZ ?_|refine Ze ?_|refine zk ?_|refine zh ?_|refine z6 ?_)|((with_reducible first|refine ks fun K hK=>?_|refine kd fun K hK=>?_|refine kc fun K hK2 hK hK3=>?_);simp (disch:=omega) only [bg0,bg1,bg2,bg3,bg4,zr,zS,eff,AX.ev,St.put,zQ,zP,ap1,zg,Int.reduceTMod,Int.reduceTDiv,reduceCtorEq,zt,AV.cells,AV.fine,AV.one,Nat.reduceAdd,Nat.reduceSub,Nat.reduceMul,Nat.reduceLT,Nat.reduceLeDiff,Int.reduceLT,Int.reduceLE,Int.reduceAdd,Int.reduceSub,Int.reduceNeg,Int.reduceMul,Int.reduceEq,Int.reduceToNat,zW,zp,live,zo,rdA,ze,wrA,zH,zq,zV,zR,zT,zi,zb,zm,zj,zd,cut,id,ap2,reduceIte,zu,zY,geB,AOp.cls,AOp.xs,ltB,ltC,Nat.reduceBEq,Option.toList,List.cons_append,decide_eq_true,decide_eq_false,if_pos,if_neg,List.length_map,zO,List.cons_append,bVb,bVn,eq_self,Bool.and_self,BEq.rfl,not_true_eq_false,Zn,List.length_set,e1,e2,e3,hn,hg];(with_reducible first|(refine hK _ ?_;clear hK K)|(refine hK ?_;clear hK hK3 K hK2)|(refine hK3 ?_;clear hK hK3 K hK2)))|((with_reducible refine khs 104 ?_ ?_ ?_ ?_);rotate_left 2;exact (swp46 G C g (m - i) (m+j - i) i (by omega) (by omega) (by omega) cf)))
   exact ⟨rfl,j,by omega,i,j - i,_,by omega,rfl,rfl,rfl,by rw [xp,hl],hi,by omega,hi2,by omega,by rw [rt_lt (by omega) hi (by omega) (by omega)];exact hpx⟩
end Go.Proofs.YtgpldekhcojimaaDoor.Sim.Pr7
namespace Go.Proofs.YtgpldekhcojimaaDoor.Sim.Pr7
open Go.RowKit
set_option maxRecDepth 100000
abbrev cF:AV:=.v (.func (.func 80) #[] #[])
set_option maxHeartbeats 4000000 in
theorem cmp29 (G:Nat→AV) (a b c d:ByteArray) (ha:a.size≤9223372036854775807) (hc:c.size≤9223372036854775807):PC Tryd.prog G 80 [.agg [S a,S b],.agg [S c,S d]] (I (cB a c)):=by
 refine ZP cop80 ?_
 show W _ _ _ _ ⟨_,_⟩;simp only [A80,List.cons_append,List.nil_append,List.length_cons,List.length_nil,Nat.reduceAdd,Nat.reduceSub,List.replicate]
 repeat (first|(with_reducible first|refine zJ ?_|refine zI ?_|refine zk ?_|refine zh ?_|refine Zl ?_)|((with_reducible refine kps 44 ?_ ?_ ?_ ?_);rotate_left 1;rfl;exact (by refine Wh G _ _ ?_ ?_<;>assumption))|((with_reducible first|refine ks fun K hK=>?_|refine kd fun K hK=>?_|refine kc fun K hK2 hK hK3=>?_|refine Zr fun K hR=>?_|refine Zj rfl fun K hR=>?_|refine Zi fun K hR=>?_);simp (disch:=omega) only [bg0,bg1,bg2,bg3,bg4,zr,zS,eff,AX.ev,St.put,zQ,zP,ap1,zg,Int.reduceTMod,Int.reduceTDiv,reduceCtorEq,zt,AV.cells,AV.fine,AV.one,Nat.reduceAdd,Nat.reduceSub,Nat.reduceMul,Nat.reduceLT,Nat.reduceLeDiff,Int.reduceLT,Int.reduceLE,Int.reduceAdd,Int.reduceSub,Int.reduceNeg,Int.reduceMul,Int.reduceEq,Int.reduceToNat,zW,zp,live,zo,rdA,ze,wrA,zH,zq,zV,zR,zT,zi,zb,zm,zj,zd,cut,id,ap2,reduceIte,zu,zY,geB,AOp.cls,AOp.xs,ltB,ltC,Nat.reduceBEq,Option.toList,List.cons_append,decide_eq_true,decide_eq_false,if_pos,if_neg,List.length_map,List.cons_append,bVb,bVn,eq_self,Bool.and_self,BEq.rfl,not_true_eq_false,Zn,List.length_set];(first|(with_reducible first|(refine hK _ ?_;clear hK K)|(refine hK ?_;clear hK hK3 K hK2)|(refine hK3 ?_;clear hK hK3 K hK2))|((with_reducible refine hR _ ?_ ?_ ?_ ?_);rotate_left 2;rfl;rfl)|((with_reducible refine hR _ ?_);rfl))))
theorem XA (G:Nat→AV) (H:Hp) {p q:Pr} (ha:p.1.size≤9223372036854775807) (hc:q.1.size≤9223372036854775807):HC Tryd.prog G 80 [.agg [S p.1,S p.2],.agg [S q.1,S q.2]] H (I (cB p.1 q.1)) H:=Zz rfl (cmp29 G _ _ _ _ ha hc) H
theorem pAq {C:List Pr} {k:Nat} {p:Pr} (h:C[k]? = some p):(C.map pA)[k]? = some (.agg [S p.1,S p.2]):=by rw [List.getElem?_map,h];rfl
theorem ssort_mem {l:List Pr} {x:Pr}:x ∈ z7 l↔x ∈ l:=by
 have h1:x ∈ z7 l↔x ∈ fk x.1 (z7 l):=⟨fun h=>mem_fk.2 ⟨h,rfl⟩,fun h=>(mem_fk.1 h).1⟩
 have h2:x ∈ l↔x ∈ fk x.1 l:=⟨fun h=>mem_fk.2 ⟨h,rfl⟩,fun h=>(mem_fk.1 h).1⟩
 rw [h1,h2,ZI]
theorem ins_len {p:Pr}:∀ {n:List Pr},(ins p n).length=n.length+1
 | []=>rfl
 | q::n=>by unfold ins;split<;>simp [ins_len (n:=n)]
theorem ZM:∀ {l:List Pr},(z7 l).length=l.length
 | []=>rfl
 | p::l=>by rw [z7,ins_len,ZM (l:=l)];rfl
theorem w5 {S S1 S2:List Pr} {x:Pr} {L:List Pr} (hS:S1++S2=z7 L) (h1:∀ p ∈ S1,cB p.1 x.1≤0) (h2:∀ q ∈ S2,cB x.1 q.1 < 0):S1++x::S2=z7 (L++[x]):=by
 have hle:SLe (S1++S2):=by rw [hS];exact Zw L
 obtain ⟨a1,a2,a3⟩:=List.pairwise_append.1 hle
 refine Z6 ?_ (Zw _) fun k=>?_
 ·refine List.pairwise_append.2 ⟨a1,List.pairwise_cons.2 ⟨fun q hq=>by have:=h2 q hq;omega,a2⟩,fun p hp q hq=>?_⟩
  rcases List.mem_cons.1 hq with rfl|hq
  ·exact h1 p hp
  ·exact a3 p hp q hq
 ·rw [ZI, ZH, ZH, ZA, ZA, X9, ← ZI L, ← hS, ZH]
  by_cases hx:x.1=k
  ·have : fk k S2 = [] := fk_none.2 fun q hq e => by
    have:=h2 q hq
    rw [e,hx,Z0] at this
    omega
   simp [hx,this]
  ·simp [hx]
theorem YW {P S R:List Pr} {x:Pr} {k:Nat} (hk:k=P.length+S.length):(P++(S++x::R))[k]? = some x:=by
 subst hk
 rw [List.getElem?_append_right (by omega),List.getElem?_append_right (by omega)]
 simp
theorem wA {P S R:List Pr} {x y:Pr} {k:Nat} (hk:k=P.length+S.length):(P++(S++[y]++x::R))[k]? = some y:=by
 have:=YW (P:=P) (S:=S) (x:=y) (R:=x::R) hk
 simpa using this
theorem sw_mid {P S R:List Pr} {x y:Pr} {k:Nat} (hk:k=P.length+S.length):((P++(S++[y]++x::R)).set (k+1) y).set k x=P++(S++x::y::R):=by
 subst hk
 have e:P++(S++[y]++x::R)=(P++S)++y::x::R:=by simp
 have e2:P++(S++x::y::R)=(P++S)++x::y::R:=by simp
 rw [e,e2,show P.length+S.length=(P++S).length from (List.length_append).symm,List.set_append_right _ _ (by omega),List.set_append_right _ _ (by omega)]
 simp
def seg (D:List Pr) (a b:Nat):List Pr:=(D.take b).drop a
def srt (D:List Pr) (a b:Nat):List Pr:=D.take a++(z7 (seg D a b)++D.drop b)
theorem XM {D:List Pr} {a b:Nat} (h:b≤a+1) (hb:b≤D.length) (hab:a≤b):srt D a b=D:=by
 have e:z7 (seg D a b)=seg D a b:=by
  have:(seg D a b).length≤1:=by simp [seg];omega
  match h:seg D a b,this with
  | [],_=>rfl
  | [p],_=>rfl
 unfold srt
 rw [e]
 unfold seg
 have h1:D.take b=D.take a++(D.take b).drop a:=by
  have:=List.take_append_drop a (D.take b)
  rw [List.take_take,Nat.min_eq_left hab] at this
  exact this.symm
 rw [← List.append_assoc,← h1,List.take_append_drop]
theorem seg_succ {D:List Pr} {a i:Nat} (ha:a≤i) (hi:i < D.length):seg D a (i+1)=seg D a i++[D[i]]:=by
 unfold seg
 rw [List.take_add_one,List.getElem?_eq_getElem hi,List.drop_append_of_le_length (by simp;omega)]
 rfl
theorem seg_len {D:List Pr} {a b:Nat} (hb:b≤D.length):(seg D a b).length=b - a:=by simp [seg];omega
theorem seg_mem {D:List Pr} {a b:Nat} {x:Pr} (h:x ∈ seg D a b):x ∈ D:=List.mem_of_mem_take (List.mem_of_mem_drop h)
theorem le_all {S:List Pr} {y:Pr} {x:ByteArray} {R:List Pr} (h:SLe (S++[y]++R)) (hy:cB y.1 x≤0):∀ p ∈ S++[y],cB p.1 x≤0:=by
 intro p hp
 have h1:=(List.pairwise_append.1 h).1
 rcases List.mem_append.1 hp with hp|hp
 ·have := (List.pairwise_append.1 h1).2.2 p hp y (by simp)
  exact XG this hy
 ·simp at hp;subst hp;exact hy
theorem last_cases {l:List Pr}:l=[]∨∃ S y,l=S++[y]:=by
 rcases List.eq_nil_or_concat l with h|⟨S,y,h⟩
 ·exact .inl h
 ·exact .inr ⟨S,y,by rw [h,List.concat_eq_append]⟩
set_option maxHeartbeats 8000000 in
theorem wH (G : Nat → AV) (D : List Pr) (g a b : Nat) (hN : Okl D) (h1 : a ≤ b) (h2 : b ≤ D.length) :
  HC Tryd.prog G 101 [.ol 0 g D.length,I a,I b,cF] [rw0 D g] (.tup []) [rw0 (srt D a b) g]:=by
 have hlen:=hN.len
 refine yk cop101 ?_
 show W _ _ _ _ ⟨_,_⟩;simp only [A101,List.cons_append,List.nil_append,List.length_cons,List.length_nil,Nat.reduceAdd,Nat.reduceSub,List.replicate]
 repeat (first|(with_reducible first|refine zJ ?_|refine zI ?_|refine zZ ?_|refine zk ?_|refine zh ?_)|((with_reducible first|refine ks fun K hK=>?_|refine kd fun K hK=>?_|refine kc fun K hK2 hK hK3=>?_);simp (disch:=omega) only [bg0,bg1,bg2,bg3,bg4,zr,zS,eff,AX.ev,St.put,zQ,zP,ap1,zg,Int.reduceTMod,Int.reduceTDiv,reduceCtorEq,zt,AV.cells,AV.fine,AV.one,Nat.reduceAdd,Nat.reduceSub,Nat.reduceMul,Nat.reduceLT,Nat.reduceLeDiff,Int.reduceLT,Int.reduceLE,Int.reduceAdd,Int.reduceSub,Int.reduceNeg,Int.reduceMul,Int.reduceEq,Int.reduceToNat,zW,zp,live,zo,rdA,ze,wrA,zH,zq,zV,zR,zT,zi,zb,zm,zj,zd,cut,id,ap2,reduceIte,zu,zY,geB,AOp.cls,AOp.xs,ltB,ltC,Nat.reduceBEq,Option.toList,List.cons_append,decide_eq_true,decide_eq_false,if_pos,if_neg,List.length_map,List.cons_append,bVb,bVn,eq_self,Bool.and_self,BEq.rfl,not_true_eq_false,Zn,List.length_set];(with_reducible first|(refine hK _ ?_;clear hK K)|(refine hK ?_;clear hK hK3 K hK2)|(refine hK3 ?_;clear hK hK3 K hK2))))
 refine ZN [8,9,12,13,14,15,16,17,18,19,20,21,22,23,24,25,26,27,28,29,30,31,32,33,34,35,36,37,38,39,40,41,42,43,44,45,46,47,48,49,50,51,52] (fun k v H=>v 8=I ((a+1+k:Nat):Int)∧H=[rw0 (srt D a (min b (a+1+k))) g]) (b - (a+1)) ⟨rfl,?_⟩ ?_ ?_
 ·rw [XM (by omega) (by omega) (by omega)]
 ·rintro k v H hk ⟨h8, rfl⟩
  have hi:a+1+k < D.length:=by omega
  rw [show min b (a+1+k)=a+1+k by omega]
  obtain ⟨i,hI⟩:∃ i,i=a+1+k:=⟨_,rfl⟩
  rw [show min b (a+1+(k+1))=i+1 by omega]
  rw [← hI] at hi h8 ⊢
  have hd:srt D a i=D.take a++(z7 (seg D a i)++D[i]::D.drop (i+1)):=by
   unfold srt;rw [List.drop_eq_getElem_cons hi]
  have hd2:srt D a (i+1)=D.take a++(z7 (seg D a i++[D[i]])++D.drop (i+1)):=by
   unfold srt;rw [seg_succ (by omega) hi]
  have hsz:∀ p ∈ seg D a i,p.1.size≤9223372036854775807:=fun p hp=>(hN.sz p (seg_mem hp)).1
  have hx:=(hN.sz _ (List.getElem_mem hi)).1
  have hPl:(D.take a).length=a:=by simp;omega
  have hLl:(z7 (seg D a i)).length=i - a:=by rw [ZM,seg_len (by omega)]
  have hN2:(srt D a i).length=D.length:=by rw [hd];simp [hLl];omega
  rw [hd,hd2]
  rw [hd] at hN2
  generalize D[i]=x at *
  generalize seg D a i=L at *
  generalize D.take a=P at *
  generalize D.drop (i+1)=R at *
  simp only [mix,z9,Za,Zc,Nat.reduceEqDiff,Nat.reduceLeDiff,reduceCtorEq,if_true,if_false,reduceIte,Nat.reduceAdd,h8]
  repeat (first|(with_reducible first|refine zJ ?_|refine zI ?_|refine zZ ?_|refine Ze ?_|refine zk ?_|refine zh ?_)|((with_reducible first|refine ks fun K hK=>?_|refine kd fun K hK=>?_|refine kc fun K hK2 hK hK3=>?_);simp (disch:=omega) only [bg0,bg1,bg2,bg3,bg4,zr,zS,eff,AX.ev,St.put,zQ,zP,ap1,zg,Int.reduceTMod,Int.reduceTDiv,reduceCtorEq,zt,AV.cells,AV.fine,AV.one,Nat.reduceAdd,Nat.reduceSub,Nat.reduceMul,Nat.reduceLT,Nat.reduceLeDiff,Int.reduceLT,Int.reduceLE,Int.reduceAdd,Int.reduceSub,Int.reduceNeg,Int.reduceMul,Int.reduceEq,Int.reduceToNat,zW,zp,live,zo,rdA,ze,wrA,zH,zq,zV,zR,zT,zi,zb,zm,zj,zd,cut,id,ap2,reduceIte,zu,zY,geB,AOp.cls,AOp.xs,ltB,ltC,Nat.reduceBEq,Option.toList,List.cons_append,decide_eq_true,decide_eq_false,if_pos,if_neg,List.length_map,List.cons_append,bVb,bVn,eq_self,Bool.and_self,BEq.rfl,not_true_eq_false,Zn,List.length_set];(with_reducible first|(refine hK _ ?_;clear hK K)|(refine hK ?_;clear hK hK3 K hK2)|(refine hK3 ?_;clear hK hK3 K hK2))))
  refine Yw [9,18,19,20,21,22,23,24,25,26,27,28,29,30,31,32,33,34,35,36,37,38,39,40,41,42,43,44,45,46,47,48,49,50,51,52] (fun u v H=>∃ S1 S2,S1++S2=z7 L∧u=S1.length∧v 9=I ((a+S1.length:Nat):Int)∧H=[rw0 (P++(S1++x::(S2++R))) g]∧∀ q ∈ S2,cB x.1 q.1 < 0) (i - a) ⟨z7 L,[],by simp,hLl.symm,by rw [hLl,show a+(i - a)=i by omega];rfl,rfl,by simp⟩ ?_
  rintro u v2 H ⟨S1,S2,hS,rfl,h9,rfl,hgt⟩
  have hCl:(P++(S1++x::(S2++R))).length=D.length:=by
   rw [← hN2,← hS];simp;omega
  have hle:SLe (S1++S2):=by rw [hS];exact Zw L
  rcases last_cases (l:=S1) with rfl|⟨S0,y,rfl⟩
  ·have hfin:=w5 (S:=S2) hS (fun p hp=>by cases hp) hgt
   have hfin2:P++([]++x::(S2++R))=P++(z7 (L++[x])++R):=by rw [← hfin];simp
   rw [hfin2]
   have e0:a+([]:List Pr).length=a:=rfl
   rw [e0] at h9
   simp only [mix,z9,Za,Zc,Nat.reduceEqDiff,Nat.reduceLeDiff,reduceCtorEq,if_true,if_false,reduceIte,Nat.reduceAdd,h9]
   repeat (first|(with_reducible first|refine zJ ?_|refine zI ?_|refine Zu ?_|refine Zp ?_|refine zk ?_|refine Zm ?_|refine zh ?_|refine Zg ?_|refine z6 ?_|refine Zb ?_)|((with_reducible first|refine ks fun K hK=>?_|refine kd fun K hK=>?_|refine kc fun K hK2 hK hK3=>?_);simp (disch:=omega) only [bg0,bg1,bg2,bg3,bg4,zr,zS,eff,AX.ev,St.put,zQ,zP,ap1,zg,Int.reduceTMod,Int.reduceTDiv,reduceCtorEq,zt,AV.cells,AV.fine,AV.one,Nat.reduceAdd,Nat.reduceSub,Nat.reduceMul,Nat.reduceLT,Nat.reduceLeDiff,Int.reduceLT,Int.reduceLE,Int.reduceAdd,Int.reduceSub,Int.reduceNeg,Int.reduceMul,Int.reduceEq,Int.reduceToNat,zW,zp,live,zo,rdA,ze,wrA,zH,zq,zV,zR,zT,zi,zb,zm,zj,zd,cut,id,ap2,reduceIte,zu,zY,geB,AOp.cls,AOp.xs,ltB,ltC,Nat.reduceBEq,Option.toList,List.cons_append,decide_eq_true,decide_eq_false,if_pos,if_neg,List.length_map,List.cons_append,bVb,bVn,eq_self,Bool.and_self,BEq.rfl,not_true_eq_false,Zn,List.length_set];(with_reducible first|(refine hK _ ?_;clear hK K)|(refine hK ?_;clear hK hK3 K hK2)|(refine hK3 ?_;clear hK hK3 K hK2)))|((first|((with_reducible refine wF ?_ ?_ ?_);rotate_left 1;rfl)|((with_reducible refine wG ?_ ?_ ?_);rotate_left 1;rfl));rotate_left 1;(focus (simp (disch:=omega) only [bg0,bg1,bg2,bg3,bg4,zr,zS,eff,AX.ev,St.put,zQ,zP,ap1,zg,Int.reduceTMod,Int.reduceTDiv,reduceCtorEq,zt,AV.cells,AV.fine,AV.one,Nat.reduceAdd,Nat.reduceSub,Nat.reduceMul,Nat.reduceLT,Nat.reduceLeDiff,Int.reduceLT,Int.reduceLE,Int.reduceAdd,Int.reduceSub,Int.reduceNeg,Int.reduceMul,Int.reduceEq,Int.reduceToNat,zW,zp,live,zo,rdA,ze,wrA,zH,zq,zV,zR,zT,zi,zb,zm,zj,zd,cut,id,ap2,reduceIte,zu,zY,geB,AOp.cls,AOp.xs,ltB,ltC,Nat.reduceBEq,Option.toList,List.cons_append,decide_eq_true,decide_eq_false,if_pos,if_neg,List.length_map,List.cons_append,bVb,bVn,eq_self,Bool.and_self,BEq.rfl,not_true_eq_false,Zn,List.length_set];try rfl))))
   exact ⟨rfl,by simp [at_];omega,rfl⟩
  ·have hj : a + (S0 ++ [y]).length = a + S0.length + 1 := by simp; omega
   rw [hj] at h9
   have q1:=pAq (YW (P:=P) (S:=S0++[y]) (x:=x) (R:=S2++R) (k:=a+S0.length+1) (by simp [hPl];omega))
   have q2:=pAq (wA (P:=P) (S:=S0) (x:=x) (y:=y) (R:=S2++R) (k:=a+S0.length) (by omega))
   have hsw:=sw_mid (P:=P) (S:=S0) (x:=x) (y:=y) (R:=S2++R) (k:=a+S0.length) (by omega)
   have hy:y.1.size≤9223372036854775807:=hsz y (by rw [← ssort_mem,← hS];simp)
   have hjl:a+S0.length+1 < D.length:=by rw [← hCl];simp [hPl];omega
   have q3:(((P++(S0++[y]++x::(S2++R))).set (a+S0.length+1) y).map pA)[a+S0.length]? = some (.agg [S y.1,S y.2]):=pAq (by rw [List.getElem?_set_ne (by omega)];exact wA (by omega))
   have e1:((a:Int)+(S0.length:Int)+1).toNat=a+S0.length+1:=by omega
   have e2:((a:Int)+(S0.length:Int)).toNat=a+S0.length:=by omega
   have e3:(a:Int) < (a:Int)+(S0.length:Int)+1:=by omega
   by_cases hc:cB x.1 y.1 < 0
   ·generalize P ++ (S0 ++ [y] ++ x :: (S2 ++ R)) = C at *
    simp only [mix,z9,Za,Zc,Nat.reduceEqDiff,Nat.reduceLeDiff,reduceCtorEq,if_true,if_false,reduceIte,Nat.reduceAdd,h9]
    repeat (first|(with_reducible first|refine zJ ?_|refine zI ?_|refine Zu ?_)|(with_reducible refine YY ?_ ?_ ?_ ?_;rotate_left 1)|(with_reducible first|exact isSt|refine zZ ?_|refine Ze ?_|refine zk ?_|refine Zm ?_|refine zh ?_|refine z6 ?_)|((with_reducible refine xb ?_ ?_);rfl)|((with_reducible first|refine ks fun K hK=>?_|refine kd fun K hK=>?_|refine kc fun K hK2 hK hK3=>?_);simp (disch:=omega) only [bg0,bg1,bg2,bg3,bg4,zr,zS,eff,AX.ev,St.put,zQ,zP,ap1,zg,Int.reduceTMod,Int.reduceTDiv,reduceCtorEq,zt,AV.cells,AV.fine,AV.one,Nat.reduceAdd,Nat.reduceSub,Nat.reduceMul,Nat.reduceLT,Nat.reduceLeDiff,Int.reduceLT,Int.reduceLE,Int.reduceAdd,Int.reduceSub,Int.reduceNeg,Int.reduceMul,Int.reduceEq,Int.reduceToNat,zW,zp,live,zo,rdA,ze,wrA,zH,zq,zV,zR,zT,zi,zb,zm,zj,zd,cut,id,ap2,reduceIte,zu,zY,geB,AOp.cls,AOp.xs,ltB,ltC,Nat.reduceBEq,Option.toList,List.cons_append,decide_eq_true,decide_eq_false,if_pos,if_neg,List.length_map,List.cons_append,bVb,bVn,eq_self,Bool.and_self,BEq.rfl,not_true_eq_false,Zn,List.length_set,q1,q2,q3,e1,e2,e3,hc];(with_reducible first|(refine hK _ ?_;clear hK K)|(refine hK ?_;clear hK hK3 K hK2)|(refine hK3 ?_;clear hK hK3 K hK2)))|((first|((with_reducible refine kvd 80 ?_ ?_ ?_ ?_ ?_ ?_ ?_ ?_);rotate_left 3));(focus (simp (disch:=omega) only [bg0,bg1,bg2,bg3,bg4,zr,zS,eff,AX.ev,St.put,zQ,zP,ap1,zg,Int.reduceTMod,Int.reduceTDiv,reduceCtorEq,zt,AV.cells,AV.fine,AV.one,Nat.reduceAdd,Nat.reduceSub,Nat.reduceMul,Nat.reduceLT,Nat.reduceLeDiff,Int.reduceLT,Int.reduceLE,Int.reduceAdd,Int.reduceSub,Int.reduceNeg,Int.reduceMul,Int.reduceEq,Int.reduceToNat,zW,zp,live,zo,rdA,ze,wrA,zH,zq,zV,zR,zT,zi,zb,zm,zj,zd,cut,id,ap2,reduceIte,zu,zY,geB,AOp.cls,AOp.xs,ltB,ltC,Nat.reduceBEq,Option.toList,List.cons_append,decide_eq_true,decide_eq_false,if_pos,if_neg,List.length_map,List.cons_append,bVb,bVn,eq_self,Bool.and_self,BEq.rfl,not_true_eq_false,Zn,List.length_set,q1,q2,q3,e1,e2,e3,hc];try rfl));(first|(rfl;exact hb80;exact (XA G _ hx hy)))))
    refine ⟨rfl,S0.length,by simp,S0,y::S2,by simpa using hS,rfl,rfl,xU (by simpa using hsw),fun q hq=>?_⟩
    rcases List.mem_cons.1 hq with rfl|hq
    ·exact hc
    ·exact hgt q hq
   ·have hfin := w5 (S := S2) hS (le_all hle (by rw [Z4 x.1 y.1]; omega)) hgt
    have hfin2:P++(S0++[y]++x::(S2++R))=P++(z7 (L++[x])++R):=by rw [← hfin];simp
    rw [hfin2] at q1 q2 q3 ⊢
    simp only [mix,z9,Za,Zc,Nat.reduceEqDiff,Nat.reduceLeDiff,reduceCtorEq,if_true,if_false,reduceIte,Nat.reduceAdd,h9]
    repeat (first|(with_reducible first|refine zJ ?_|refine zI ?_|refine Zu ?_|refine Zp ?_|refine zk ?_|refine Zm ?_|refine zh ?_|refine Zg ?_|refine z6 ?_|refine Zb ?_)|((with_reducible refine xb ?_ ?_);rfl)|((with_reducible first|refine ks fun K hK=>?_|refine kd fun K hK=>?_|refine kc fun K hK2 hK hK3=>?_);simp (disch:=omega) only [bg0,bg1,bg2,bg3,bg4,zr,zS,eff,AX.ev,St.put,zQ,zP,ap1,zg,Int.reduceTMod,Int.reduceTDiv,reduceCtorEq,zt,AV.cells,AV.fine,AV.one,Nat.reduceAdd,Nat.reduceSub,Nat.reduceMul,Nat.reduceLT,Nat.reduceLeDiff,Int.reduceLT,Int.reduceLE,Int.reduceAdd,Int.reduceSub,Int.reduceNeg,Int.reduceMul,Int.reduceEq,Int.reduceToNat,zW,zp,live,zo,rdA,ze,wrA,zH,zq,zV,zR,zT,zi,zb,zm,zj,zd,cut,id,ap2,reduceIte,zu,zY,geB,AOp.cls,AOp.xs,ltB,ltC,Nat.reduceBEq,Option.toList,List.cons_append,decide_eq_true,decide_eq_false,if_pos,if_neg,List.length_map,List.cons_append,bVb,bVn,eq_self,Bool.and_self,BEq.rfl,not_true_eq_false,Zn,List.length_set,q1,q2,q3,e1,e2,e3,hc];(with_reducible first|(refine hK _ ?_;clear hK K)|(refine hK ?_;clear hK hK3 K hK2)|(refine hK3 ?_;clear hK hK3 K hK2)))|((first|((with_reducible refine kvd 80 ?_ ?_ ?_ ?_ ?_ ?_ ?_ ?_);rotate_left 3));(focus (simp (disch:=omega) only [bg0,bg1,bg2,bg3,bg4,zr,zS,eff,AX.ev,St.put,zQ,zP,ap1,zg,Int.reduceTMod,Int.reduceTDiv,reduceCtorEq,zt,AV.cells,AV.fine,AV.one,Nat.reduceAdd,Nat.reduceSub,Nat.reduceMul,Nat.reduceLT,Nat.reduceLeDiff,Int.reduceLT,Int.reduceLE,Int.reduceAdd,Int.reduceSub,Int.reduceNeg,Int.reduceMul,Int.reduceEq,Int.reduceToNat,zW,zp,live,zo,rdA,ze,wrA,zH,zq,zV,zR,zT,zi,zb,zm,zj,zd,cut,id,ap2,reduceIte,zu,zY,geB,AOp.cls,AOp.xs,ltB,ltC,Nat.reduceBEq,Option.toList,List.cons_append,decide_eq_true,decide_eq_false,if_pos,if_neg,List.length_map,List.cons_append,bVb,bVn,eq_self,Bool.and_self,BEq.rfl,not_true_eq_false,Zn,List.length_set,q1,q2,q3,e1,e2,e3,hc];try rfl));(first|(rfl;exact hb80;exact (XA G _ hx hy)))))
    exact ⟨rfl,by simp [at_];omega,rfl⟩
 ·rintro v H ⟨h8, rfl⟩
  simp only [mix,z9,Za,Zc,Nat.reduceEqDiff,Nat.reduceLeDiff,reduceCtorEq,if_true,if_false,reduceIte,Nat.reduceAdd,h8]
  by_cases hab:a=b
  ·subst hab
   rw [show min a (a+1+(a - (a+1)))=a by omega]
   repeat (first|(with_reducible first|refine zJ ?_|refine zI ?_|refine Zp ?_|refine zk ?_|refine zh ?_|refine Zg ?_|refine Zb ?_)|((with_reducible first|refine ks fun K hK=>?_|refine kd fun K hK=>?_|refine kc fun K hK2 hK hK3=>?_);simp (disch:=omega) only [bg0,bg1,bg2,bg3,bg4,zr,zS,eff,AX.ev,St.put,zQ,zP,ap1,zg,Int.reduceTMod,Int.reduceTDiv,reduceCtorEq,zt,AV.cells,AV.fine,AV.one,Nat.reduceAdd,Nat.reduceSub,Nat.reduceMul,Nat.reduceLT,Nat.reduceLeDiff,Int.reduceLT,Int.reduceLE,Int.reduceAdd,Int.reduceSub,Int.reduceNeg,Int.reduceMul,Int.reduceEq,Int.reduceToNat,zW,zp,live,zo,rdA,ze,wrA,zH,zq,zV,zR,zT,zi,zb,zm,zj,zd,cut,id,ap2,reduceIte,zu,zY,geB,AOp.cls,AOp.xs,ltB,ltC,Nat.reduceBEq,Option.toList,List.cons_append,decide_eq_true,decide_eq_false,if_pos,if_neg,List.length_map,List.cons_append,bVb,bVn,eq_self,Bool.and_self,BEq.rfl,not_true_eq_false,Zn,List.length_set];(with_reducible first|(refine hK _ ?_;clear hK K)|(refine hK ?_;clear hK hK3 K hK2)|(refine hK3 ?_;clear hK hK3 K hK2)))|((with_reducible refine Y2 ?_);try rfl))
  ·rw [show min b (a + 1 + (b - (a + 1))) = b by omega]
   repeat (first|(with_reducible first|refine zJ ?_|refine zI ?_|refine Zp ?_|refine zk ?_|refine zh ?_|refine Zg ?_|refine Zb ?_)|((with_reducible first|refine ks fun K hK=>?_|refine kd fun K hK=>?_|refine kc fun K hK2 hK hK3=>?_);simp (disch:=omega) only [bg0,bg1,bg2,bg3,bg4,zr,zS,eff,AX.ev,St.put,zQ,zP,ap1,zg,Int.reduceTMod,Int.reduceTDiv,reduceCtorEq,zt,AV.cells,AV.fine,AV.one,Nat.reduceAdd,Nat.reduceSub,Nat.reduceMul,Nat.reduceLT,Nat.reduceLeDiff,Int.reduceLT,Int.reduceLE,Int.reduceAdd,Int.reduceSub,Int.reduceNeg,Int.reduceMul,Int.reduceEq,Int.reduceToNat,zW,zp,live,zo,rdA,ze,wrA,zH,zq,zV,zR,zT,zi,zb,zm,zj,zd,cut,id,ap2,reduceIte,zu,zY,geB,AOp.cls,AOp.xs,ltB,ltC,Nat.reduceBEq,Option.toList,List.cons_append,decide_eq_true,decide_eq_false,if_pos,if_neg,List.length_map,List.cons_append,bVb,bVn,eq_self,Bool.and_self,BEq.rfl,not_true_eq_false,Zn,List.length_set];(with_reducible first|(refine hK _ ?_;clear hK K)|(refine hK ?_;clear hK hK3 K hK2)|(refine hK3 ?_;clear hK hK3 K hK2)))|((with_reducible refine Y2 ?_);try rfl))
end Go.Proofs.YtgpldekhcojimaaDoor.Sim.Pr7
namespace Go.Proofs.YtgpldekhcojimaaDoor.Sim.Pr7
open Go.RowKit
set_option maxRecDepth 100000
theorem u64w {n:Int} (h:0≤n) (h2:n≤9223372036854775807):IntKind.u64.wrap n=n:=by
 rw [IntKind.wrap]
 simp only [IntKind.signed,IntKind.bits]
 simp
 omega
theorem cVu {n:Int} (h:0≤n) (h2:n≤9223372036854775807):z5 Tryd.prog (convert 3 115 (.int .i64 n))=some (.int .u64 n):=by
 rw [Wi (e:=.int .i64) (k:=.u64) (by kernel_rfl) (by kernel_rfl),u64w h h2]
theorem cVi {n:Int} (h:0≤n) (h2:n≤9223372036854775807):z5 Tryd.prog (convert 115 3 (.int .u64 n))=some (.int .i64 n):=by
 rw [Wi (e:=.int .u64) (k:=.i64) (by kernel_rfl) (by kernel_rfl),XB (by omega) h2]
theorem Z8 {P:Program} {t:TypeId} {xo yo:Operand} {i j:Nat}:yj P .shr t xo yo (.int .u64 ((i:Int)+(j:Int))) (.int .u64 1)=some (.int .u64 (((i+j) / 2:Nat):Int)):=by
 show some (Value.int .u64 (((i:Int)+(j:Int)).fdiv (2 ^ 1)))=_
 have:((i:Int)+(j:Int)).fdiv (2 ^ 1)=(((i+j) / 2:Nat):Int):=by
  rw [Int.fdiv_eq_ediv_of_nonneg _ (by decide)]
  omega
 rw [this]
theorem ssort_app {X Y:List Pr} (h:∀ x ∈ X,∀ y ∈ Y,cB x.1 y.1≤0):z7 (X++Y)=z7 X++z7 Y:=by
 refine Z6 (Zw _) (List.pairwise_append.2 ⟨Zw X,Zw Y,fun x hx y hy=>h x (ssort_mem.1 hx) y (ssort_mem.1 hy)⟩) fun k=>?_
 rw [ZI,ZH,ZH,ZI,ZI]
theorem xR {X:List Pr} (h:SLe X):z7 X=X:=Z6 (Zw X) h fun k=>ZI X
theorem ssort_swap {X A B Y:List Pr} (h:∀ x ∈ A,∀ y ∈ B,cB y.1 x.1 < 0):z7 (X++A++B++Y)=z7 (X++B++A++Y):=by
 refine Z6 (Zw _) (Zw _) fun k=>?_
 simp only [ZI,ZH]
 have:fk k A=[]∨fk k B=[]:=by
  by_cases hb:fk k B=[]
  ·exact .inr hb
  ·left
   refine fk_none.2 fun x hx e=>hb (fk_none.2 fun y hy e2=>?_)
   have:=h x hx y hy
   rw [e,e2,Z0] at this
   omega
 rcases this with h|h<;>simp [h]
theorem ssort_merge {A1 A2 B1 B2 : List Pr} (hA : SLe (A1 ++ A2)) (hB : SLe (B1 ++ B2)) (h1 : ∀ x ∈ A2, ∀ y ∈ B1, cB y.1 x.1 < 0) (h2 : ∀ x ∈ A1, ∀ y ∈ B2, cB x.1 y.1 ≤ 0) :
  z7 (A1++A2++(B1++B2))=z7 (A1++B1)++z7 (A2++B2):=by
 have e1:=ssort_swap (X:=A1) (A:=A2) (B:=B1) (Y:=B2) h1
 rw [show A1++A2++(B1++B2)=A1++A2++B1++B2 by simp,e1,show A1++B1++A2++B2=(A1++B1)++(A2++B2) by simp]
 obtain ⟨_,_,a3⟩:=List.pairwise_append.1 hA
 obtain ⟨_,_,b3⟩:=List.pairwise_append.1 hB
 refine ssort_app fun x hx y hy=>?_
 rcases List.mem_append.1 hx with hx|hx<;>rcases List.mem_append.1 hy with hy|hy
 ·exact a3 x hx y hy
 ·exact h2 x hx y hy
 ·have:=h1 y hy x hx;omega
 ·exact b3 x hx y hy
theorem rot_list {P A B R:List Pr}:px (P++(A++(B++R))) (rtf P.length (P.length+A.length) (P.length+A.length+B.length))=P++(B++(A++R)):=by
 apply List.ext_getElem?
 intro x
 rw [YM]
 have hgd:∀ {L:List Pr} {i:Nat},i < L.length→some (L.getD i default)=L[i]?:=fun {L i} h=>by
  rw [List.getD_eq_getElem?_getD,List.getElem?_eq_getElem h];rfl
 by_cases hx:x < (P++(A++(B++R))).length
 ·rw [if_pos hx, hgd (wX (by omega) (by omega) (by simp; omega) hx)]
  simp only [List.length_append] at hx
  unfold rtf
  by_cases h1:x < P.length
  ·rw [if_neg (by omega),if_neg (by omega),List.getElem?_append_left h1,List.getElem?_append_left h1]
  ·rw [List.getElem?_append_right (l₁ := P) (l₂ := B ++ (A ++ R)) (by omega)]
   by_cases h2:x < P.length+B.length
   ·rw [if_pos (by omega), List.getElem?_append_right (by omega), List.getElem?_append_right (by omega), List.getElem?_append_left (by omega), List.getElem?_append_left (by omega)]
    congr 1;omega
   ·rw [if_neg (by omega), List.getElem?_append_right (l₁ := B) (by omega)]
    by_cases h3:x < P.length+B.length+A.length
    ·rw [if_pos (by omega), List.getElem?_append_right (by omega), List.getElem?_append_left (by omega), List.getElem?_append_left (by omega)]
     congr 1;omega
    ·rw [if_neg (by omega), List.getElem?_append_right (by omega), List.getElem?_append_right (by omega), List.getElem?_append_right (by omega), List.getElem?_append_right (by omega)]
     congr 1;omega
 ·rw [if_neg hx,List.getElem?_eq_none (by simp at hx ⊢;omega)]
theorem w6 {B:List Pr} (h:SLe B) (k:ByteArray) {i:Nat} (hi:i < B.length):cB (B[i]).1 k < 0↔i < (lo B k).length:=by
 have hs:=Y9 h k
 constructor
 ·intro hc
  rcases Nat.lt_or_ge i (lo B k).length with h|h
  ·exact h
  ·exfalso
   have hm:B[i] ∈ B.filter (fun p=>!decide (cB p.1 k < 0)):=by
    have e:B[i]? = (B.filter (fun p=>!decide (cB p.1 k < 0)))[i - (lo B k).length]?:=by
     conv=>lhs;rw [hs]
     exact List.getElem?_append_right h
    rw [List.getElem?_eq_getElem hi] at e
    exact List.mem_of_getElem? e.symm
   have:=(List.mem_filter.1 hm).2
   simp at this
   omega
 ·intro hl
  have e:B[i]? = (lo B k)[i]?:=by
   conv=>lhs;rw [hs]
   exact List.getElem?_append_left hl
  rw [List.getElem?_eq_getElem hi,List.getElem?_eq_getElem hl] at e
  have e2:=Option.some.inj e
  have:=(List.mem_filter.1 (List.getElem_mem hl)).2
  rw [← e2] at this
  simpa using this
theorem w7 {B:List Pr} (h:SLe B) (k:ByteArray) {i:Nat} (hib:i < B.length):cB (B[i]).1 k≤0↔i < (le B k).length:=by
 have hs:=YD h k
 constructor
 ·intro hc
  rcases Nat.lt_or_ge i (le B k).length with h|h
  ·exact h
  ·exfalso
   have hm:B[i] ∈ hi B k:=by
    have e:B[i]? = (hi B k)[i - (le B k).length]?:=by
     conv=>lhs;rw [hs]
     exact List.getElem?_append_right h
    rw [List.getElem?_eq_getElem hib] at e
    exact List.mem_of_getElem? e.symm
   have:=(List.mem_filter.1 hm).2
   simp only [decide_eq_true_eq] at this
   rw [Z4 (B[i]).1 k] at this
   omega
 ·intro hl
  have e:B[i]? = (le B k)[i]?:=by
   conv=>lhs;rw [hs]
   exact List.getElem?_append_left hl
  rw [List.getElem?_eq_getElem hib,List.getElem?_eq_getElem hl] at e
  have e2:=Option.some.inj e
  have:=(List.mem_filter.1 (List.getElem_mem hl)).2
  rw [← e2] at this
  simpa using this
theorem xH {B:List Pr} (h:SLe B) (k:ByteArray):B.take (lo B k).length=lo B k:=by
 have:=List.take_left (l₁:=lo B k) (l₂:=B.filter (fun p=>!decide (cB p.1 k < 0)))
 rwa [← Y9 h k] at this
theorem le_take {B:List Pr} (h:SLe B) (k:ByteArray):B.take (le B k).length=le B k:=by
 have:=List.take_left (l₁:=le B k) (l₂:=hi B k)
 rwa [← YD h k] at this
theorem XZ {B:List Pr} (h:SLe B) (k:ByteArray):B.drop (le B k).length=hi B k:=by
 have:=List.drop_left (l₁:=le B k) (l₂:=hi B k)
 rwa [← YD h k] at this
theorem Xb {B:List Pr} {k:ByteArray}:(lo B k).length≤B.length:=List.length_filter_le ..
theorem YP {B:List Pr} {k:ByteArray}:(le B k).length≤B.length:=List.length_filter_le ..
theorem one_left {B:List Pr} (h:SLe B) (x:Pr):B.take (lo B x.1).length++x::B.drop (lo B x.1).length=z7 (x::B):=by
 have hd:B.drop (lo B x.1).length=B.filter (fun p=>!decide (cB p.1 x.1 < 0)):=by
  have:=List.drop_left (l₁:=lo B x.1) (l₂:=B.filter (fun p=>!decide (cB p.1 x.1 < 0)))
  rwa [← Y9 h x.1] at this
 rw [xH h,hd]
 refine Z6 ?_ (Zw _) fun k=>?_
 ·refine List.pairwise_append.2 ⟨List.Pairwise.filter _ h,List.pairwise_cons.2 ⟨fun q hq=>?_,List.Pairwise.filter _ h⟩,fun p hp q hq=>?_⟩
  ·have := (List.mem_filter.1 hq).2
   simp at this
   rw [Z4 q.1 x.1];omega
  ·have h1 : cB p.1 x.1 < 0 := by have := (List.mem_filter.1 hp).2; simpa using this
   rcases List.mem_cons.1 hq with rfl|hq
   ·omega
   ·have := (List.mem_filter.1 hq).2
    simp at this
    exact XG (b:=x.1) (by omega) (by rw [Z4 q.1 x.1];omega)
 ·rw [ZI, ZH, ZA, ZA]
  have e:fk k B=fk k (lo B x.1)++fk k (B.filter fun p=>!decide (cB p.1 x.1 < 0)):=by
   rw [← ZH,← Y9 h x.1]
  rw [e]
  by_cases hk:x.1=k
  ·subst hk
   have:fk x.1 (lo B x.1)=[]:=by rw [WB,Z0];simp
   simp [this]
  ·simp [hk]
theorem one_right {A:List Pr} (h:SLe A) (x:Pr):A.take (le A x.1).length++x::A.drop (le A x.1).length=z7 (A++[x]):=by
 have hd:A.drop (le A x.1).length=hi A x.1:=XZ h x.1
 rw [hd,le_take h]
 have:=w5 (S:=z7 A) (S1:=le A x.1) (S2:=hi A x.1) (x:=x) (L:=A) (by rw [xR h,← YD h x.1]) (fun p hp=>by have:=(List.mem_filter.1 hp).2;simpa using this) (fun q hq=>by have:=(List.mem_filter.1 hq).2;simpa using this)
 exact this
end Go.Proofs.YtgpldekhcojimaaDoor.Sim.Pr7
namespace Go.Proofs.YtgpldekhcojimaaDoor.Sim.Pr7
open Go.RowKit
set_option maxRecDepth 100000
theorem sw_fwd {P S R:List Pr} {x y:Pr} {k:Nat} (hk:k=P.length+S.length):((P++(S++x::y::R)).set k y).set (k+1) x=P++(S++[y]++x::R):=by
 subst hk
 have e:P++(S++x::y::R)=(P++S)++x::y::R:=by simp
 have e2:P++(S++[y]++x::R)=(P++S)++y::x::R:=by simp
 rw [e,e2,show P.length+S.length=(P++S).length from (List.length_append).symm,List.set_append_right _ _ (by omega),List.set_append_right _ _ (by omega)]
 simp
theorem at_nx {P S R:List Pr} {x y:Pr} {k:Nat} (hk:k=P.length+S.length):(P++(S++x::y::R))[k+1]? = some y:=by
 have:=YW (P:=P) (S:=S++[x]) (x:=y) (R:=R) (k:=k+1) (by simp;omega)
 simpa using this
theorem gdA {P A R:List Pr} {k:Nat} (h1:P.length≤k) (h2:k < P.length+A.length):(P++(A++R))[k]? = some (A[k - P.length]'(by omega)):=by
 rw [List.getElem?_append_right h1,List.getElem?_append_left (by omega),List.getElem?_eq_getElem]
set_option maxHeartbeats 8000000 in
theorem symL (G : Nat → AV) (g : Nat) (P B R : List Pr) (x : Pr) (N a m b : Nat) (hN : (P ++ ([x] ++ (B ++ R))).length = N) (hP : P.length = a) (hA : a + 1 = m) (hB : m + B.length = b) (sB : SLe B) (hok : Okl (P ++ ([x] ++ (B ++ R)))) :
  HC Tryd.prog G 102 [.ol 0 g N,I a,I m,I b,cF] [rw0 (P++([x]++(B++R))) g] (.tup []) [rw0 (P++(z7 ([x]++B)++R)) g]:=by
 have hlen:=hok.len
 rw [hN] at hlen
 have hbN:b≤N:=by rw [← hN];simp;omega
 have hx:x.1.size≤9223372036854775807:=(hok.sz x (by simp)).1
 have hsB:∀ p ∈ B,p.1.size≤9223372036854775807:=fun p hp=>(hok.sz p (by simp [hp])).1
 obtain ⟨c,hc⟩:∃ c,c=(lo B x.1).length:=⟨_,rfl⟩
 have hcl:c≤B.length:=by rw [hc];exact Xb
 have hfin:=one_left sB x
 rw [← hc] at hfin
 have ema:(m:Int) - (a:Int)=1:=by omega
 refine yk Wg ?_
 show W _ _ _ _ ⟨_,_⟩;simp only [A102,List.cons_append,List.nil_append,List.length_cons,List.length_nil,Nat.reduceAdd,Nat.reduceSub,List.replicate]
 (refine ym 77 143 (by simp [Yj]) fun f77=>?_;simp (disch:=omega) only [List.take_succ_cons,List.take_zero,List.drop_succ_cons,List.drop_zero,List.cons_append,List.nil_append,List.take_nil,List.drop_nil,yE,yF,Yk,Nat.reduceSub,Nat.reduceAdd,List.replicate_succ,List.replicate_zero])
 (refine ym 54 23 (by simp [Yj]) fun f54=>?_;simp (disch:=omega) only [List.take_succ_cons,List.take_zero,List.drop_succ_cons,List.drop_zero,List.cons_append,List.nil_append,List.take_nil,List.drop_nil,yE,yF,Yk,Nat.reduceSub,Nat.reduceAdd,List.replicate_succ,List.replicate_zero])
 repeat (first|(with_reducible first|refine zJ ?_|refine zI ?_|refine zZ ?_|refine zk ?_|refine zh ?_)|((with_reducible first|refine ks fun K hK=>?_|refine kd fun K hK=>?_|refine kc fun K hK2 hK hK3=>?_);simp (disch:=omega) only [bg0,bg1,bg2,bg3,bg4,zr,zS,eff,AX.ev,St.put,zQ,zP,ap1,zg,Int.reduceTMod,Int.reduceTDiv,reduceCtorEq,zt,AV.cells,AV.fine,AV.one,Nat.reduceAdd,Nat.reduceSub,Nat.reduceMul,Nat.reduceLT,Nat.reduceLeDiff,Int.reduceLT,Int.reduceLE,Int.reduceAdd,Int.reduceSub,Int.reduceNeg,Int.reduceMul,Int.reduceEq,Int.reduceToNat,zW,zp,live,zo,rdA,ze,wrA,zH,zq,zV,zR,zT,zi,zb,zm,zj,zd,cut,id,ap2,reduceIte,zu,zY,geB,AOp.cls,AOp.xs,ltB,ltC,Nat.reduceBEq,Option.toList,List.cons_append,decide_eq_true,decide_eq_false,if_pos,if_neg,List.length_map,List.cons_append,bVb,bVn,eq_self,Bool.and_self,BEq.rfl,not_true_eq_false,Zn,List.length_set,cVu,cVi,Z8,ema];(with_reducible first|(refine hK _ ?_;clear hK K)|(refine hK ?_;clear hK hK3 K hK2)|(refine hK3 ?_;clear hK hK3 K hK2))))
 refine Yw [10,11,12,31,32,33,34,35,36,37,38,39,40,41,42,43,44,45,46,47,48,49,50,51,52,53] (fun u v H=>∃ i j:Nat,u=j - i∧v 10=I i∧v 11=I j∧m≤i∧i≤m+c∧m+c≤j∧j≤b∧H=[rw0 (P++([x]++(B++R))) g]) (b - m) ⟨m,b,rfl,rfl,rfl,by omega,by omega,by omega,by omega,rfl⟩ ?_
 rintro u v H ⟨i,j,rfl,h10,h11,i1,i2,i3,i4,rfl⟩
 simp only [mix,z9,Za,Zc,Nat.reduceEqDiff,Nat.reduceLeDiff,reduceCtorEq,if_true,if_false,reduceIte,Nat.reduceAdd,h10,h11]
 by_cases hij:i < j
 ·obtain ⟨h, hh⟩ : ∃ h, h = (i + j) / 2 := ⟨_, rfl⟩
  have q1:((P++([x]++(B++R))).map pA)[h]? = some (.agg [S (B[h - m]'(by omega)).1,S (B[h - m]'(by omega)).2]):=pAq (by
   have:=gdA (P:=P++[x]) (A:=B) (R:=R) (k:=h) (by simp;omega) (by simp;omega)
   simp only [List.append_assoc] at this
   rw [this]
   congr 2
   simp;omega)
  have q2:((P++([x]++(B++R))).map pA)[a]? = some (.agg [S x.1,S x.2]):=pAq (YW (S:=[]) (by simp;omega))
  have hy:=hsB _ (List.getElem_mem (l:=B) (n:=h - m) (by omega))
  have hidx:=w6 sB x.1 (i:=h - m) (by omega)
  rw [← hc] at hidx
  generalize B[h - m]'(by omega)=y at *
  have hm:=hh.symm
  have hNl:=hN
  generalize P++([x]++(B++R))=C at *
  by_cases hlt:cB y.1 x.1 < 0
  ·have := hidx.1 hlt
   repeat (first|(with_reducible first|refine zJ ?_|refine zI ?_|refine Zu ?_|refine zZ ?_|refine Ze ?_|refine zk ?_|refine Zm ?_|refine zh ?_|refine z6 ?_)|((with_reducible first|refine ks fun K hK=>?_|refine kd fun K hK=>?_|refine kc fun K hK2 hK hK3=>?_);simp (disch:=omega) only [bg0,bg1,bg2,bg3,bg4,zr,zS,eff,AX.ev,St.put,zQ,zP,ap1,zg,Int.reduceTMod,Int.reduceTDiv,reduceCtorEq,zt,AV.cells,AV.fine,AV.one,Nat.reduceAdd,Nat.reduceSub,Nat.reduceMul,Nat.reduceLT,Nat.reduceLeDiff,Int.reduceLT,Int.reduceLE,Int.reduceAdd,Int.reduceSub,Int.reduceNeg,Int.reduceMul,Int.reduceEq,Int.reduceToNat,zW,zp,live,zo,rdA,ze,wrA,zH,zq,zV,zR,zT,zi,zb,zm,zj,zd,cut,id,ap2,reduceIte,zu,zY,geB,AOp.cls,AOp.xs,ltB,ltC,Nat.reduceBEq,Option.toList,List.cons_append,decide_eq_true,decide_eq_false,if_pos,if_neg,List.length_map,List.cons_append,bVb,bVn,eq_self,Bool.and_self,BEq.rfl,not_true_eq_false,Zn,List.length_set,cVu,cVi,Z8,hm,q1,q2,hlt];(with_reducible first|(refine hK _ ?_;clear hK K)|(refine hK ?_;clear hK hK3 K hK2)|(refine hK3 ?_;clear hK hK3 K hK2)))|((first|((with_reducible refine kvd 80 ?_ ?_ ?_ ?_ ?_ ?_ ?_ ?_);rotate_left 3));(focus (simp (disch:=omega) only [bg0,bg1,bg2,bg3,bg4,zr,zS,eff,AX.ev,St.put,zQ,zP,ap1,zg,Int.reduceTMod,Int.reduceTDiv,reduceCtorEq,zt,AV.cells,AV.fine,AV.one,Nat.reduceAdd,Nat.reduceSub,Nat.reduceMul,Nat.reduceLT,Nat.reduceLeDiff,Int.reduceLT,Int.reduceLE,Int.reduceAdd,Int.reduceSub,Int.reduceNeg,Int.reduceMul,Int.reduceEq,Int.reduceToNat,zW,zp,live,zo,rdA,ze,wrA,zH,zq,zV,zR,zT,zi,zb,zm,zj,zd,cut,id,ap2,reduceIte,zu,zY,geB,AOp.cls,AOp.xs,ltB,ltC,Nat.reduceBEq,Option.toList,List.cons_append,decide_eq_true,decide_eq_false,if_pos,if_neg,List.length_map,List.cons_append,bVb,bVn,eq_self,Bool.and_self,BEq.rfl,not_true_eq_false,Zn,List.length_set,cVu,cVi,Z8,hm,q1,q2,hlt];try rfl));(first|(rfl;exact hb80;exact (XA G _ hy hx)))))
   exact ⟨rfl,j - (h+1),by omega,h+1,j,rfl,rfl,rfl,by omega,by omega,by omega,by omega,rfl⟩
  ·have:¬ (h - m < c):=fun h=>hlt (hidx.2 h)
   repeat (first|(with_reducible first|refine zJ ?_|refine zI ?_|refine Zu ?_|refine zZ ?_|refine Ze ?_|refine zk ?_|refine Zm ?_|refine zh ?_|refine z6 ?_)|((with_reducible first|refine ks fun K hK=>?_|refine kd fun K hK=>?_|refine kc fun K hK2 hK hK3=>?_);simp (disch:=omega) only [bg0,bg1,bg2,bg3,bg4,zr,zS,eff,AX.ev,St.put,zQ,zP,ap1,zg,Int.reduceTMod,Int.reduceTDiv,reduceCtorEq,zt,AV.cells,AV.fine,AV.one,Nat.reduceAdd,Nat.reduceSub,Nat.reduceMul,Nat.reduceLT,Nat.reduceLeDiff,Int.reduceLT,Int.reduceLE,Int.reduceAdd,Int.reduceSub,Int.reduceNeg,Int.reduceMul,Int.reduceEq,Int.reduceToNat,zW,zp,live,zo,rdA,ze,wrA,zH,zq,zV,zR,zT,zi,zb,zm,zj,zd,cut,id,ap2,reduceIte,zu,zY,geB,AOp.cls,AOp.xs,ltB,ltC,Nat.reduceBEq,Option.toList,List.cons_append,decide_eq_true,decide_eq_false,if_pos,if_neg,List.length_map,List.cons_append,bVb,bVn,eq_self,Bool.and_self,BEq.rfl,not_true_eq_false,Zn,List.length_set,cVu,cVi,Z8,hm,q1,q2,hlt];(with_reducible first|(refine hK _ ?_;clear hK K)|(refine hK ?_;clear hK hK3 K hK2)|(refine hK3 ?_;clear hK hK3 K hK2)))|((first|((with_reducible refine kvd 80 ?_ ?_ ?_ ?_ ?_ ?_ ?_ ?_);rotate_left 3));(focus (simp (disch:=omega) only [bg0,bg1,bg2,bg3,bg4,zr,zS,eff,AX.ev,St.put,zQ,zP,ap1,zg,Int.reduceTMod,Int.reduceTDiv,reduceCtorEq,zt,AV.cells,AV.fine,AV.one,Nat.reduceAdd,Nat.reduceSub,Nat.reduceMul,Nat.reduceLT,Nat.reduceLeDiff,Int.reduceLT,Int.reduceLE,Int.reduceAdd,Int.reduceSub,Int.reduceNeg,Int.reduceMul,Int.reduceEq,Int.reduceToNat,zW,zp,live,zo,rdA,ze,wrA,zH,zq,zV,zR,zT,zi,zb,zm,zj,zd,cut,id,ap2,reduceIte,zu,zY,geB,AOp.cls,AOp.xs,ltB,ltC,Nat.reduceBEq,Option.toList,List.cons_append,decide_eq_true,decide_eq_false,if_pos,if_neg,List.length_map,List.cons_append,bVb,bVn,eq_self,Bool.and_self,BEq.rfl,not_true_eq_false,Zn,List.length_set,cVu,cVi,Z8,hm,q1,q2,hlt];try rfl));(first|(rfl;exact hb80;exact (XA G _ hy hx)))))
   exact ⟨rfl,h - i,by omega,i,h,rfl,rfl,rfl,by omega,by omega,by omega,by omega,rfl⟩
 ·obtain rfl : i = m + c := by omega
  obtain rfl:j=m+c:=by omega
  (refine ym 25 29 (by simp [Yj]) fun f25=>?_;simp (disch:=omega) only [List.take_succ_cons,List.take_zero,List.drop_succ_cons,List.drop_zero,List.cons_append,List.nil_append,List.take_nil,List.drop_nil,yE,yF,Yk,Nat.reduceSub,Nat.reduceAdd,List.replicate_succ,List.replicate_zero])
  (have ho:∀ (f:Nat→AV) (L:List AV),skp 23 f L=f 0::f 1::f 2::f 3::f 4::f 5::f 6::f 7::f 8::f 9::f 10::f 11::f 12::f 13::f 14::f 15::f 16::f 17::f 18::f 19::f 20::f 21::f 22::L:=fun _ _=>rfl;simp only [ho];clear ho)
  repeat (first|(with_reducible first|refine zJ ?_|refine zI ?_|refine zZ ?_|refine Zp ?_|refine zk ?_|refine zh ?_|refine Zg ?_|refine Zb ?_)|((with_reducible first|refine ks fun K hK=>?_|refine kd fun K hK=>?_|refine kc fun K hK2 hK hK3=>?_);simp (disch:=omega) only [bg0,bg1,bg2,bg3,bg4,zr,zS,eff,AX.ev,St.put,zQ,zP,ap1,zg,Int.reduceTMod,Int.reduceTDiv,reduceCtorEq,zt,AV.cells,AV.fine,AV.one,Nat.reduceAdd,Nat.reduceSub,Nat.reduceMul,Nat.reduceLT,Nat.reduceLeDiff,Int.reduceLT,Int.reduceLE,Int.reduceAdd,Int.reduceSub,Int.reduceNeg,Int.reduceMul,Int.reduceEq,Int.reduceToNat,zW,zp,live,zo,rdA,ze,wrA,zH,zq,zV,zR,zT,zi,zb,zm,zj,zd,cut,id,ap2,reduceIte,zu,zY,geB,AOp.cls,AOp.xs,ltB,ltC,Nat.reduceBEq,Option.toList,List.cons_append,decide_eq_true,decide_eq_false,if_pos,if_neg,List.length_map,List.cons_append,bVb,bVn,eq_self,Bool.and_self,BEq.rfl,not_true_eq_false,Zn,List.length_set,cVu,cVi,Z8];(with_reducible first|(refine hK _ ?_;clear hK K)|(refine hK ?_;clear hK hK3 K hK2)|(refine hK3 ?_;clear hK hK3 K hK2))))
  refine ZN [13,55,56,57,58,59,60,61,62,63,64,65,66,67,68,69,70,71,72,73,74,75,76] (fun r v H=>v 13=I ((a+r:Nat):Int)∧H=[rw0 (P++(B.take r++x::(B.drop r++R))) g]) c ⟨by simp [at_],rfl⟩ ?_ ?_
  ·rintro r v2 H hr ⟨h13, rfl⟩
   have hrB:r < B.length:=by omega
   have hSl:(B.take r).length=r:=by simp;omega
   have hdr:B.drop r=B[r]::B.drop (r+1):=List.drop_eq_getElem_cons hrB
   have htk:B.take (r+1)=B.take r++[B[r]]:=by rw [List.take_add_one,List.getElem?_eq_getElem hrB];rfl
   rw [hdr,htk]
   generalize B[r]=y at *
   have q1:=pAq (YW (P:=P) (S:=B.take r) (x:=x) (R:=y::(B.drop (r+1)++R)) (k:=a+r) (by omega))
   have q2:=pAq (at_nx (P:=P) (S:=B.take r) (x:=x) (y:=y) (R:=B.drop (r+1)++R) (k:=a+r) (by omega))
   have q3:(((P++(B.take r++x::y::(B.drop (r+1)++R))).set (a+r) y).map pA)[a+r+1]? = some (.agg [S y.1,S y.2]):=pAq (by rw [List.getElem?_set_ne (by omega)];exact at_nx (by omega))
   have hsw:=sw_fwd (P:=P) (S:=B.take r) (x:=x) (y:=y) (R:=B.drop (r+1)++R) (k:=a+r) (by omega)
   have hCl:(P++(B.take r++x::y::(B.drop (r+1)++R))).length=N:=by
    rw [← hN];simp [hSl];omega
   simp only [List.cons_append] at *
   generalize P++(B.take r++x::y::(B.drop (r+1)++R))=C at *
   have e1:((a:Int)+(r:Int)+1).toNat=a+r+1:=by omega
   have e2:((a:Int)+(r:Int)).toNat=a+r:=by omega
   have hw3:a+r+1 < N:=by omega
   have hcN:m+c≤N:=by omega
   clear hSl hdr htk hc hfin hB hbN hcl ema i1 i2 i3 i4 hij
   simp only [mix,z9,Za,Zc,Nat.reduceEqDiff,Nat.reduceLeDiff,reduceCtorEq,if_true,if_false,reduceIte,Nat.reduceAdd,h13]
   repeat (first|(with_reducible first|refine zJ ?_|refine zI ?_)|(with_reducible refine YY ?_ ?_ ?_ ?_;rotate_left 1)|(with_reducible first|exact isSt|refine zZ ?_|refine Ze ?_|refine zk ?_|refine Zm ?_|refine zh ?_|refine z6 ?_)|((with_reducible first|refine ks fun K hK=>?_|refine kd fun K hK=>?_|refine kc fun K hK2 hK hK3=>?_);simp (disch:=omega) only [bg0,bg1,bg2,bg3,bg4,zr,zS,eff,AX.ev,St.put,zQ,zP,ap1,zg,Int.reduceTMod,Int.reduceTDiv,reduceCtorEq,zt,AV.cells,AV.fine,AV.one,Nat.reduceAdd,Nat.reduceSub,Nat.reduceMul,Nat.reduceLT,Nat.reduceLeDiff,Int.reduceLT,Int.reduceLE,Int.reduceAdd,Int.reduceSub,Int.reduceNeg,Int.reduceMul,Int.reduceEq,Int.reduceToNat,zW,zp,live,zo,rdA,ze,wrA,zH,zq,zV,zR,zT,zi,zb,zm,zj,zd,cut,id,ap2,reduceIte,zu,zY,geB,AOp.cls,AOp.xs,ltB,ltC,Nat.reduceBEq,Option.toList,List.cons_append,decide_eq_true,decide_eq_false,if_pos,if_neg,List.length_map,List.cons_append,bVb,bVn,eq_self,Bool.and_self,BEq.rfl,not_true_eq_false,Zn,List.length_set,cVu,cVi,Z8,q1,q2,q3,e1,e2];(with_reducible first|(refine hK _ ?_;clear hK K)|(refine hK ?_;clear hK hK3 K hK2)|(refine hK3 ?_;clear hK hK3 K hK2))))
   exact ⟨rfl,by simp [at_];omega,xU hsw⟩
  ·rintro v2 H ⟨h13, rfl⟩
   simp only [mix,z9,Za,Zc,Nat.reduceEqDiff,Nat.reduceLeDiff,reduceCtorEq,if_true,if_false,reduceIte,Nat.reduceAdd,h13]
   (try simp only [List.cons_append,List.nil_append])
   rw [← hfin]
   simp only [List.append_assoc,List.cons_append]
   repeat (first|(with_reducible first|refine zJ ?_|refine zI ?_|refine Zp ?_|refine zk ?_|refine zh ?_|refine Zg ?_|refine Zb ?_|refine Zl ?_|refine ZC ?_)|((with_reducible first|refine ks fun K hK=>?_|refine kd fun K hK=>?_|refine kc fun K hK2 hK hK3=>?_);simp (disch:=omega) only [bg0,bg1,bg2,bg3,bg4,zr,zS,eff,AX.ev,St.put,zQ,zP,ap1,zg,Int.reduceTMod,Int.reduceTDiv,reduceCtorEq,zt,AV.cells,AV.fine,AV.one,Nat.reduceAdd,Nat.reduceSub,Nat.reduceMul,Nat.reduceLT,Nat.reduceLeDiff,Int.reduceLT,Int.reduceLE,Int.reduceAdd,Int.reduceSub,Int.reduceNeg,Int.reduceMul,Int.reduceEq,Int.reduceToNat,zW,zp,live,zo,rdA,ze,wrA,zH,zq,zV,zR,zT,zi,zb,zm,zj,zd,cut,id,ap2,reduceIte,zu,zY,geB,AOp.cls,AOp.xs,ltB,ltC,Nat.reduceBEq,Option.toList,List.cons_append,decide_eq_true,decide_eq_false,if_pos,if_neg,List.length_map,List.cons_append,bVb,bVn,eq_self,Bool.and_self,BEq.rfl,not_true_eq_false,Zn,List.length_set,cVu,cVi,Z8];(with_reducible first|(refine hK _ ?_;clear hK K)|(refine hK ?_;clear hK hK3 K hK2)|(refine hK3 ?_;clear hK hK3 K hK2)))|((with_reducible refine ret_0r ?_);try rfl))
set_option maxHeartbeats 8000000 in
theorem symR (G : Nat → AV) (g : Nat) (P A R : List Pr) (x : Pr) (N a m b : Nat) (hN : (P ++ (A ++ ([x] ++ R))).length = N) (hP : P.length = a) (hA : a + A.length = m) (hA2 : 2 ≤ A.length) (hB : m + 1 = b) (sA : SLe A) (hok : Okl (P ++ (A ++ ([x] ++ R)))) :
  HC Tryd.prog G 102 [.ol 0 g N,I a,I m,I b,cF] [rw0 (P++(A++([x]++R))) g] (.tup []) [rw0 (P++(z7 (A++[x])++R)) g]:=by
 have hlen:=hok.len
 rw [hN] at hlen
 have hbN:b≤N:=by rw [← hN];simp;omega
 have hx:x.1.size≤9223372036854775807:=(hok.sz x (by simp)).1
 have hsA:∀ p ∈ A,p.1.size≤9223372036854775807:=fun p hp=>(hok.sz p (by simp [hp])).1
 obtain ⟨c,hc⟩:∃ c,c=(le A x.1).length:=⟨_,rfl⟩
 have hcl:c≤A.length:=by rw [hc];exact YP
 have hfin:=one_right sA x
 rw [← hc] at hfin
 have ema:¬ ((m:Int) - (a:Int)=1):=by omega
 have ebm:(b:Int) - (m:Int)=1:=by omega
 refine yk Wg ?_
 show W _ _ _ _ ⟨_,_⟩;simp only [A102,List.cons_append,List.nil_append,List.length_cons,List.length_nil,Nat.reduceAdd,Nat.reduceSub,List.replicate]
 (refine ym 129 91 (by simp [Yj]) fun f129=>?_;simp (disch:=omega) only [List.take_succ_cons,List.take_zero,List.drop_succ_cons,List.drop_zero,List.cons_append,List.nil_append,List.take_nil,List.drop_nil,yE,yF,Yk,Nat.reduceSub,Nat.reduceAdd,List.replicate_succ,List.replicate_zero])
 (refine ym 107 22 (by simp [Yj]) fun f107=>?_;simp (disch:=omega) only [List.take_succ_cons,List.take_zero,List.drop_succ_cons,List.drop_zero,List.cons_append,List.nil_append,List.take_nil,List.drop_nil,yE,yF,Yk,Nat.reduceSub,Nat.reduceAdd,List.replicate_succ,List.replicate_zero])
 repeat (first|(with_reducible first|refine zJ ?_|refine zI ?_|refine zZ ?_|refine Ze ?_|refine zk ?_|refine zh ?_)|((with_reducible first|refine ks fun K hK=>?_|refine kd fun K hK=>?_|refine kc fun K hK2 hK hK3=>?_);simp (disch:=omega) only [bg0,bg1,bg2,bg3,bg4,zr,zS,eff,AX.ev,St.put,zQ,zP,ap1,zg,Int.reduceTMod,Int.reduceTDiv,reduceCtorEq,zt,AV.cells,AV.fine,AV.one,Nat.reduceAdd,Nat.reduceSub,Nat.reduceMul,Nat.reduceLT,Nat.reduceLeDiff,Int.reduceLT,Int.reduceLE,Int.reduceAdd,Int.reduceSub,Int.reduceNeg,Int.reduceMul,Int.reduceEq,Int.reduceToNat,zW,zp,live,zo,rdA,ze,wrA,zH,zq,zV,zR,zT,zi,zb,zm,zj,zd,cut,id,ap2,reduceIte,zu,zY,geB,AOp.cls,AOp.xs,ltB,ltC,Nat.reduceBEq,Option.toList,List.cons_append,decide_eq_true,decide_eq_false,if_pos,if_neg,List.length_map,List.cons_append,bVb,bVn,eq_self,Bool.and_self,BEq.rfl,not_true_eq_false,Zn,List.length_set,cVu,cVi,Z8,ema,ebm];(with_reducible first|(refine hK _ ?_;clear hK K)|(refine hK ?_;clear hK hK3 K hK2)|(refine hK3 ?_;clear hK hK3 K hK2))))
 (refine ym 25 58 (by simp [Yj]) fun f25=>?_;simp (disch:=omega) only [List.take_succ_cons,List.take_zero,List.drop_succ_cons,List.drop_zero,List.cons_append,List.nil_append,List.take_nil,List.drop_nil,yE,yF,Yk,Nat.reduceSub,Nat.reduceAdd,List.replicate_succ,List.replicate_zero])
 refine Yw [14,15,16,83,84,85,86,87,88,89,90,91,92,93,94,95,96,97,98,99,100,101,102,103,104,105,106] (fun u v H=>∃ i j:Nat,u=j - i∧v 14=I i∧v 15=I j∧a≤i∧i≤a+c∧a+c≤j∧j≤m∧H=[rw0 (P++(A++([x]++R))) g]) (m - a) ⟨a,m,rfl,rfl,rfl,by omega,by omega,by omega,by omega,rfl⟩ ?_
 rintro u v H ⟨i,j,rfl,h14,h15,i1,i2,i3,i4,rfl⟩
 simp only [mix,z9,Za,Zc,Nat.reduceEqDiff,Nat.reduceLeDiff,reduceCtorEq,if_true,if_false,reduceIte,Nat.reduceAdd,h14,h15]
 by_cases hij:i < j
 ·obtain ⟨h, hh⟩ : ∃ h, h = (i + j) / 2 := ⟨_, rfl⟩
  have q1:((P++(A++([x]++R))).map pA)[h]? = some (.agg [S (A[h - a]'(by omega)).1,S (A[h - a]'(by omega)).2]):=pAq (by
   have:=gdA (P:=P) (A:=A) (R:=[x]++R) (k:=h) (by omega) (by omega)
   rw [this]
   congr 2
   omega)
  have q2:((P++(A++([x]++R))).map pA)[m]? = some (.agg [S x.1,S x.2]):=pAq (YW (S:=A) (by omega))
  have hy:=hsA _ (List.getElem_mem (l:=A) (n:=h - a) (by omega))
  have hidx:=w7 sA x.1 (i:=h - a) (by omega)
  rw [← hc] at hidx
  generalize A[h - a]'(by omega)=y at *
  have hm:=hh.symm
  have hNl:=hN
  generalize P++(A++([x]++R))=C at *
  have hanti:=Z4 y.1 x.1
  by_cases hlt:cB x.1 y.1 < 0
  ·have:¬ (h - a < c):=fun h=>by have:=hidx.2 h;omega
   repeat (first|(with_reducible first|refine zJ ?_|refine zI ?_|refine Zu ?_|refine zZ ?_|refine Ze ?_|refine zk ?_|refine Zm ?_|refine zh ?_|refine z6 ?_)|((with_reducible first|refine ks fun K hK=>?_|refine kd fun K hK=>?_|refine kc fun K hK2 hK hK3=>?_);simp (disch:=omega) only [bg0,bg1,bg2,bg3,bg4,zr,zS,eff,AX.ev,St.put,zQ,zP,ap1,zg,Int.reduceTMod,Int.reduceTDiv,reduceCtorEq,zt,AV.cells,AV.fine,AV.one,Nat.reduceAdd,Nat.reduceSub,Nat.reduceMul,Nat.reduceLT,Nat.reduceLeDiff,Int.reduceLT,Int.reduceLE,Int.reduceAdd,Int.reduceSub,Int.reduceNeg,Int.reduceMul,Int.reduceEq,Int.reduceToNat,zW,zp,live,zo,rdA,ze,wrA,zH,zq,zV,zR,zT,zi,zb,zm,zj,zd,cut,id,ap2,reduceIte,zu,zY,geB,AOp.cls,AOp.xs,ltB,ltC,Nat.reduceBEq,Option.toList,List.cons_append,decide_eq_true,decide_eq_false,if_pos,if_neg,List.length_map,List.cons_append,bVb,bVn,eq_self,Bool.and_self,BEq.rfl,not_true_eq_false,Zn,List.length_set,cVu,cVi,Z8,hm,q1,q2,hlt];(with_reducible first|(refine hK _ ?_;clear hK K)|(refine hK ?_;clear hK hK3 K hK2)|(refine hK3 ?_;clear hK hK3 K hK2)))|((first|((with_reducible refine kvd 80 ?_ ?_ ?_ ?_ ?_ ?_ ?_ ?_);rotate_left 3));(focus (simp (disch:=omega) only [bg0,bg1,bg2,bg3,bg4,zr,zS,eff,AX.ev,St.put,zQ,zP,ap1,zg,Int.reduceTMod,Int.reduceTDiv,reduceCtorEq,zt,AV.cells,AV.fine,AV.one,Nat.reduceAdd,Nat.reduceSub,Nat.reduceMul,Nat.reduceLT,Nat.reduceLeDiff,Int.reduceLT,Int.reduceLE,Int.reduceAdd,Int.reduceSub,Int.reduceNeg,Int.reduceMul,Int.reduceEq,Int.reduceToNat,zW,zp,live,zo,rdA,ze,wrA,zH,zq,zV,zR,zT,zi,zb,zm,zj,zd,cut,id,ap2,reduceIte,zu,zY,geB,AOp.cls,AOp.xs,ltB,ltC,Nat.reduceBEq,Option.toList,List.cons_append,decide_eq_true,decide_eq_false,if_pos,if_neg,List.length_map,List.cons_append,bVb,bVn,eq_self,Bool.and_self,BEq.rfl,not_true_eq_false,Zn,List.length_set,cVu,cVi,Z8,hm,q1,q2,hlt];try rfl));(first|(rfl;exact hb80;exact (XA G _ hx hy)))))
   exact ⟨rfl,h - i,by omega,i,h,rfl,rfl,rfl,by omega,by omega,by omega,by omega,rfl⟩
  ·have := hidx.1 (by omega)
   repeat (first|(with_reducible first|refine zJ ?_|refine zI ?_|refine Zu ?_|refine zZ ?_|refine Ze ?_|refine zk ?_|refine Zm ?_|refine zh ?_|refine z6 ?_)|((with_reducible first|refine ks fun K hK=>?_|refine kd fun K hK=>?_|refine kc fun K hK2 hK hK3=>?_);simp (disch:=omega) only [bg0,bg1,bg2,bg3,bg4,zr,zS,eff,AX.ev,St.put,zQ,zP,ap1,zg,Int.reduceTMod,Int.reduceTDiv,reduceCtorEq,zt,AV.cells,AV.fine,AV.one,Nat.reduceAdd,Nat.reduceSub,Nat.reduceMul,Nat.reduceLT,Nat.reduceLeDiff,Int.reduceLT,Int.reduceLE,Int.reduceAdd,Int.reduceSub,Int.reduceNeg,Int.reduceMul,Int.reduceEq,Int.reduceToNat,zW,zp,live,zo,rdA,ze,wrA,zH,zq,zV,zR,zT,zi,zb,zm,zj,zd,cut,id,ap2,reduceIte,zu,zY,geB,AOp.cls,AOp.xs,ltB,ltC,Nat.reduceBEq,Option.toList,List.cons_append,decide_eq_true,decide_eq_false,if_pos,if_neg,List.length_map,List.cons_append,bVb,bVn,eq_self,Bool.and_self,BEq.rfl,not_true_eq_false,Zn,List.length_set,cVu,cVi,Z8,hm,q1,q2,hlt];(with_reducible first|(refine hK _ ?_;clear hK K)|(refine hK ?_;clear hK hK3 K hK2)|(refine hK3 ?_;clear hK hK3 K hK2)))|((first|((with_reducible refine kvd 80 ?_ ?_ ?_ ?_ ?_ ?_ ?_ ?_);rotate_left 3));(focus (simp (disch:=omega) only [bg0,bg1,bg2,bg3,bg4,zr,zS,eff,AX.ev,St.put,zQ,zP,ap1,zg,Int.reduceTMod,Int.reduceTDiv,reduceCtorEq,zt,AV.cells,AV.fine,AV.one,Nat.reduceAdd,Nat.reduceSub,Nat.reduceMul,Nat.reduceLT,Nat.reduceLeDiff,Int.reduceLT,Int.reduceLE,Int.reduceAdd,Int.reduceSub,Int.reduceNeg,Int.reduceMul,Int.reduceEq,Int.reduceToNat,zW,zp,live,zo,rdA,ze,wrA,zH,zq,zV,zR,zT,zi,zb,zm,zj,zd,cut,id,ap2,reduceIte,zu,zY,geB,AOp.cls,AOp.xs,ltB,ltC,Nat.reduceBEq,Option.toList,List.cons_append,decide_eq_true,decide_eq_false,if_pos,if_neg,List.length_map,List.cons_append,bVb,bVn,eq_self,Bool.and_self,BEq.rfl,not_true_eq_false,Zn,List.length_set,cVu,cVi,Z8,hm,q1,q2,hlt];try rfl));(first|(rfl;exact hb80;exact (XA G _ hx hy)))))
   exact ⟨rfl,j - (h+1),by omega,h+1,j,rfl,rfl,rfl,by omega,by omega,by omega,by omega,rfl⟩
 ·obtain rfl : i = a + c := by omega
  obtain rfl:j=a+c:=by omega
  (refine ym 83 24 (by simp [Yj]) fun f83=>?_;simp (disch:=omega) only [List.take_succ_cons,List.take_zero,List.drop_succ_cons,List.drop_zero,List.cons_append,List.nil_append,List.take_nil,List.drop_nil,yE,yF,Yk,Nat.reduceSub,Nat.reduceAdd,List.replicate_succ,List.replicate_zero])
  (have ho:∀ (f:Nat→AV) (L:List AV),skp 22 f L=f 0::f 1::f 2::f 3::f 4::f 5::f 6::f 7::f 8::f 9::f 10::f 11::f 12::f 13::f 14::f 15::f 16::f 17::f 18::f 19::f 20::f 21::L:=fun _ _=>rfl;simp only [ho];clear ho)
  repeat (first|(with_reducible first|refine zJ ?_|refine zI ?_|refine zZ ?_|refine Zp ?_|refine zk ?_|refine zh ?_|refine Zg ?_|refine Zb ?_)|((with_reducible first|refine ks fun K hK=>?_|refine kd fun K hK=>?_|refine kc fun K hK2 hK hK3=>?_);simp (disch:=omega) only [bg0,bg1,bg2,bg3,bg4,zr,zS,eff,AX.ev,St.put,zQ,zP,ap1,zg,Int.reduceTMod,Int.reduceTDiv,reduceCtorEq,zt,AV.cells,AV.fine,AV.one,Nat.reduceAdd,Nat.reduceSub,Nat.reduceMul,Nat.reduceLT,Nat.reduceLeDiff,Int.reduceLT,Int.reduceLE,Int.reduceAdd,Int.reduceSub,Int.reduceNeg,Int.reduceMul,Int.reduceEq,Int.reduceToNat,zW,zp,live,zo,rdA,ze,wrA,zH,zq,zV,zR,zT,zi,zb,zm,zj,zd,cut,id,ap2,reduceIte,zu,zY,geB,AOp.cls,AOp.xs,ltB,ltC,Nat.reduceBEq,Option.toList,List.cons_append,decide_eq_true,decide_eq_false,if_pos,if_neg,List.length_map,List.cons_append,bVb,bVn,eq_self,Bool.and_self,BEq.rfl,not_true_eq_false,Zn,List.length_set,cVu,cVi,Z8];(with_reducible first|(refine hK _ ?_;clear hK K)|(refine hK ?_;clear hK hK3 K hK2)|(refine hK3 ?_;clear hK hK3 K hK2))))
  refine ZN [17,108,109,110,111,112,113,114,115,116,117,118,119,120,121,122,123,124,125,126,127,128] (fun r v H=>v 17=I ((m - r:Nat):Int)∧H=[rw0 (P++(A.take (A.length - r)++x::(A.drop (A.length - r)++R))) g]) (A.length - c) ⟨rfl,by simp⟩ ?_ ?_
  ·rintro r v2 H hr ⟨h17, rfl⟩
   obtain ⟨w,hw⟩:∃ w,w+1=A.length - r:=⟨A.length - r - 1,by omega⟩
   have hw2:A.length - (r+1)=w:=by omega
   rw [← hw,hw2]
   have hwA:w < A.length:=by omega
   have hSl:(A.take w).length=w:=by simp;omega
   have hdr:A.drop w=A[w]::A.drop (w+1):=List.drop_eq_getElem_cons hwA
   have htk:A.take (w+1)=A.take w++[A[w]]:=by rw [List.take_add_one,List.getElem?_eq_getElem hwA];rfl
   rw [hdr,htk]
   generalize A[w]=y at *
   have hmr:m - r=a+w+1:=by omega
   have hmr2:m - (r+1)=a+w:=by omega
   rw [hmr] at h17
   rw [hmr2]
   have q1:=pAq (YW (P:=P) (S:=A.take w++[y]) (x:=x) (R:=A.drop (w+1)++R) (k:=a+w+1) (by simp;omega))
   have q2:=pAq (wA (P:=P) (S:=A.take w) (x:=x) (y:=y) (R:=A.drop (w+1)++R) (k:=a+w) (by omega))
   have q3:(((P++(A.take w++[y]++x::(A.drop (w+1)++R))).set (a+w+1) y).map pA)[a+w]? = some (.agg [S y.1,S y.2]):=pAq (by rw [List.getElem?_set_ne (by omega)];exact wA (by omega))
   have hsw:=sw_mid (P:=P) (S:=A.take w) (x:=x) (y:=y) (R:=A.drop (w+1)++R) (k:=a+w) (by omega)
   have hCl:(P++(A.take w++[y]++x::(A.drop (w+1)++R))).length=N:=by
    rw [← hN];simp [hSl];omega
   generalize P++(A.take w++[y]++x::(A.drop (w+1)++R))=C at *
   have e1:((a:Int)+(w:Int)+1).toNat=a+w+1:=by omega
   have e2:((a:Int)+(w:Int)).toNat=a+w:=by omega
   have hw3:a+w+1 < N:=by omega
   have hw4:c≤w:=by omega
   clear hmr hmr2 hw hw2 hr hSl hdr htk hc hfin hA hB hbN hcl ema ebm i1 i2 i3 i4 hij
   simp only [mix,z9,Za,Zc,Nat.reduceEqDiff,Nat.reduceLeDiff,reduceCtorEq,if_true,if_false,reduceIte,Nat.reduceAdd,h17]
   repeat (first|(with_reducible first|refine zJ ?_|refine zI ?_)|(with_reducible refine YY ?_ ?_ ?_ ?_;rotate_left 1)|(with_reducible first|exact isSt|refine zZ ?_|refine Ze ?_|refine zk ?_|refine Zm ?_|refine zh ?_|refine z6 ?_)|((with_reducible first|refine ks fun K hK=>?_|refine kd fun K hK=>?_|refine kc fun K hK2 hK hK3=>?_);simp (disch:=omega) only [bg0,bg1,bg2,bg3,bg4,zr,zS,eff,AX.ev,St.put,zQ,zP,ap1,zg,Int.reduceTMod,Int.reduceTDiv,reduceCtorEq,zt,AV.cells,AV.fine,AV.one,Nat.reduceAdd,Nat.reduceSub,Nat.reduceMul,Nat.reduceLT,Nat.reduceLeDiff,Int.reduceLT,Int.reduceLE,Int.reduceAdd,Int.reduceSub,Int.reduceNeg,Int.reduceMul,Int.reduceEq,Int.reduceToNat,zW,zp,live,zo,rdA,ze,wrA,zH,zq,zV,zR,zT,zi,zb,zm,zj,zd,cut,id,ap2,reduceIte,zu,zY,geB,AOp.cls,AOp.xs,ltB,ltC,Nat.reduceBEq,Option.toList,List.cons_append,decide_eq_true,decide_eq_false,if_pos,if_neg,List.length_map,List.cons_append,bVb,bVn,eq_self,Bool.and_self,BEq.rfl,not_true_eq_false,Zn,List.length_set,cVu,cVi,Z8,q1,q2,q3,e1,e2];(with_reducible first|(refine hK _ ?_;clear hK K)|(refine hK ?_;clear hK hK3 K hK2)|(refine hK3 ?_;clear hK hK3 K hK2))))
   exact ⟨rfl,by simp [at_],xU hsw⟩
  ·rintro v2 H ⟨h17, rfl⟩
   rw [show m - (A.length - c)=a+c by omega] at h17
   rw [show A.length - (A.length - c)=c by omega]
   simp only [mix,z9,Za,Zc,Nat.reduceEqDiff,Nat.reduceLeDiff,reduceCtorEq,if_true,if_false,reduceIte,Nat.reduceAdd,h17]
   rw [← hfin]
   simp only [List.append_assoc,List.cons_append]
   repeat (first|(with_reducible first|refine zJ ?_|refine zI ?_|refine Zp ?_|refine zk ?_|refine zh ?_|refine Zg ?_|refine Zb ?_|refine Zl ?_|refine ZC ?_)|((with_reducible first|refine ks fun K hK=>?_|refine kd fun K hK=>?_|refine kc fun K hK2 hK hK3=>?_);simp (disch:=omega) only [bg0,bg1,bg2,bg3,bg4,zr,zS,eff,AX.ev,St.put,zQ,zP,ap1,zg,Int.reduceTMod,Int.reduceTDiv,reduceCtorEq,zt,AV.cells,AV.fine,AV.one,Nat.reduceAdd,Nat.reduceSub,Nat.reduceMul,Nat.reduceLT,Nat.reduceLeDiff,Int.reduceLT,Int.reduceLE,Int.reduceAdd,Int.reduceSub,Int.reduceNeg,Int.reduceMul,Int.reduceEq,Int.reduceToNat,zW,zp,live,zo,rdA,ze,wrA,zH,zq,zV,zR,zT,zi,zb,zm,zj,zd,cut,id,ap2,reduceIte,zu,zY,geB,AOp.cls,AOp.xs,ltB,ltC,Nat.reduceBEq,Option.toList,List.cons_append,decide_eq_true,decide_eq_false,if_pos,if_neg,List.length_map,List.cons_append,bVb,bVn,eq_self,Bool.and_self,BEq.rfl,not_true_eq_false,Zn,List.length_set,cVu,cVi,Z8];(with_reducible first|(refine hK _ ?_;clear hK K)|(refine hK ?_;clear hK hK3 K hK2)|(refine hK3 ?_;clear hK hK3 K hK2)))|((with_reducible refine ret_0r ?_);try rfl))
end Go.Proofs.YtgpldekhcojimaaDoor.Sim.Pr7
namespace Go.Proofs.YtgpldekhcojimaaDoor.Sim.Pr7
open Go.RowKit
set_option maxRecDepth 100000
def SymOk (G : Nat → AV) : Prop := ∀ (g n : Nat) (P A B R : List Pr) (N a m b : Nat), A.length + B.length ≤ n → (P ++ (A ++ (B ++ R))).length = N → P.length = a → a + A.length = m → m + B.length = b → 0 < A.length → 0 < B.length → SLe A → SLe B → Okl (P ++ (A ++ (B ++ R))) →
  HC Tryd.prog G 102 [.ol 0 g N,I a,I m,I b,cF] [rw0 (P++(A++(B++R))) g] (.tup []) [rw0 (P++(z7 (A++B)++R)) g]
theorem srt_all (D:List Pr):srt D 0 D.length=z7 D:=by simp [srt,seg]
theorem srt_len {D:List Pr} {a b:Nat} (h:a≤b) (hb:b≤D.length):(srt D a b).length=D.length:=by
 simp [srt,ZM,seg];omega
theorem srt_mem {D:List Pr} {a b:Nat} {x:Pr} (h:x ∈ srt D a b):x ∈ D:=by
 simp only [srt,List.mem_append,ssort_mem] at h
 rcases h with h|h|h
 ·exact List.mem_of_mem_take h
 ·exact seg_mem h
 ·exact List.mem_of_mem_drop h
theorem okl_srt {D:List Pr} {a b:Nat} (hD:Okl D) (h:a≤b) (hb:b≤D.length):Okl (srt D a b):=⟨by rw [srt_len h hb];exact hD.len,fun p hp=>hD.sz p (srt_mem hp)⟩
theorem srt_two {D:List Pr} {c:Nat} (hc:c≤D.length):srt (srt D 0 c) c D.length=z7 (D.take c)++(z7 (D.drop c)++[]):=by
 have h1:srt D 0 c=z7 (D.take c)++D.drop c:=by simp [srt,seg]
 have h2:(z7 (D.take c)).length=c:=by rw [ZM];simp;omega
 rw [h1]
 unfold srt seg
 have e1:(z7 (D.take c)++D.drop c).take c=z7 (D.take c):=by
  have:=List.take_left (l₁:=z7 (D.take c)) (l₂:=D.drop c)
  rwa [h2] at this
 have e2:((z7 (D.take c)++D.drop c).take D.length).drop c=D.drop c:=by
  rw [List.take_of_length_le (by simp [h2];omega)]
  have:=List.drop_left (l₁:=z7 (D.take c)) (l₂:=D.drop c)
  rwa [h2] at this
 have e3:(z7 (D.take c)++D.drop c).drop D.length=[]:=List.drop_of_length_le (by simp [h2];omega)
 rw [e1,e2,e3]
theorem ssort_two (X Y:List Pr):z7 (z7 X++z7 Y)=z7 (X++Y) :=
 Z6 (Zw _) (Zw _) fun k=>by simp only [ZI,ZH]
set_option maxHeartbeats 8000000 in
theorem stable37 (G : Nat → AV) (hS : SymOk G) (D : List Pr) (g : Nat) (hD : Okl D) (h40 : D.length ≤ 40) :
  HC Tryd.prog G 97 [.ol 0 g D.length,I D.length,cF] [rw0 D g] (.tup []) [rw0 (z7 D) g]:=by
 obtain ⟨N,hN⟩:∃ N,N=D.length:=⟨_,rfl⟩
 by_cases h1:N < 20
 ·have i1 := wH G D g 0 N hD (by omega) (by omega)
  rw [hN,srt_all] at i1
  rw [← hN] at i1 ⊢
  refine yk cop97 ?_
  show W _ _ _ _ ⟨_,_⟩;simp only [A97,List.cons_append,List.nil_append,List.length_cons,List.length_nil,Nat.reduceAdd,Nat.reduceSub,List.replicate]
  clear hD hS
  repeat (first|(with_reducible first|refine zJ ?_|refine zI ?_|refine zZ ?_|refine Zp ?_|refine zk ?_|refine zh ?_|refine Zg ?_|refine Zb ?_)|(with_reducible first|refine Yh 60 ?_|refine Yg ?_)|((with_reducible first|refine ks fun K hK=>?_|refine kd fun K hK=>?_|refine kc fun K hK2 hK hK3=>?_);simp (disch:=omega) only [bg0,bg1,bg2,bg3,bg4,zr,zS,eff,AX.ev,St.put,zQ,zP,ap1,zg,Int.reduceTMod,Int.reduceTDiv,reduceCtorEq,zt,AV.cells,AV.fine,AV.one,Nat.reduceAdd,Nat.reduceSub,Nat.reduceMul,Nat.reduceLT,Nat.reduceLeDiff,Int.reduceLT,Int.reduceLE,Int.reduceAdd,Int.reduceSub,Int.reduceNeg,Int.reduceMul,Int.reduceEq,Int.reduceToNat,zW,zp,live,zo,rdA,ze,wrA,zH,zq,zV,zR,zT,zi,zb,zm,zj,zd,cut,id,ap2,reduceIte,zu,zY,geB,AOp.cls,AOp.xs,ltB,ltC,Nat.reduceBEq,Option.toList,List.cons_append,decide_eq_true,decide_eq_false,if_pos,if_neg,List.length_map,zO,List.cons_append,bVb,bVn,eq_self,Bool.and_self,BEq.rfl,not_true_eq_false];(with_reducible first|(refine hK _ ?_;clear hK K)|(refine hK ?_;clear hK hK3 K hK2)|(refine hK3 ?_;clear hK hK3 K hK2)))|((with_reducible refine khs 101 ?_ ?_ ?_ ?_);rotate_left 2;exact i1)|((with_reducible refine Y2 ?_);try rfl))
 have i1:=wH G D g 0 20 hD (by omega) (by omega)
 have l1:=srt_len (D:=D) (a:=0) (b:=20) (by omega) (by omega)
 by_cases h2:N=20
 ·have i2 := wH G (srt D 0 20) g 20 20 (okl_srt hD (by omega) (by omega)) (by omega) (by omega)
  rw [XM (D:=srt D 0 20) (by omega) (by omega) (by omega)] at i2
  have e:srt D 0 20=z7 D:=by rw [show 20=D.length by omega];exact srt_all D
  rw [e] at i1 i2 l1
  rw [l1] at i2
  rw [← hN,h2] at i1 i2 ⊢
  refine yk cop97 ?_
  show W _ _ _ _ ⟨_,_⟩;simp only [A97,List.cons_append,List.nil_append,List.length_cons,List.length_nil,Nat.reduceAdd,Nat.reduceSub,List.replicate]
  clear hD hS
  repeat (first|(with_reducible first|refine zJ ?_|refine zI ?_|refine zZ ?_|refine Ze ?_|refine Zp ?_|refine zk ?_|refine zh ?_|refine Zg ?_|refine z6 ?_|refine Zb ?_)|(with_reducible first|refine Yh 60 ?_|refine Yg ?_)|((with_reducible first|refine ks fun K hK=>?_|refine kd fun K hK=>?_|refine kc fun K hK2 hK hK3=>?_);simp (disch:=omega) only [bg0,bg1,bg2,bg3,bg4,zr,zS,eff,AX.ev,St.put,zQ,zP,ap1,zg,Int.reduceTMod,Int.reduceTDiv,reduceCtorEq,zt,AV.cells,AV.fine,AV.one,Nat.reduceAdd,Nat.reduceSub,Nat.reduceMul,Nat.reduceLT,Nat.reduceLeDiff,Int.reduceLT,Int.reduceLE,Int.reduceAdd,Int.reduceSub,Int.reduceNeg,Int.reduceMul,Int.reduceEq,Int.reduceToNat,zW,zp,live,zo,rdA,ze,wrA,zH,zq,zV,zR,zT,zi,zb,zm,zj,zd,cut,id,ap2,reduceIte,zu,zY,geB,AOp.cls,AOp.xs,ltB,ltC,Nat.reduceBEq,Option.toList,List.cons_append,decide_eq_true,decide_eq_false,if_pos,if_neg,List.length_map,zO,List.cons_append,bVb,bVn,eq_self,Bool.and_self,BEq.rfl,not_true_eq_false];(with_reducible first|(refine hK _ ?_;clear hK K)|(refine hK ?_;clear hK hK3 K hK2)|(refine hK3 ?_;clear hK hK3 K hK2)))|((with_reducible refine khs 101 ?_ ?_ ?_ ?_);rotate_left 2;exact i1)|((with_reducible refine khs 101 ?_ ?_ ?_ ?_);rotate_left 2;exact i2)|((with_reducible refine Y2 ?_);try rfl))
 have i2:=wH G (srt D 0 20) g 20 D.length (okl_srt hD (by omega) (by omega)) (by omega) (by omega)
 rw [srt_two (by omega),l1] at i2
 have s3:=hS g D.length [] (z7 (D.take 20)) (z7 (D.drop 20)) [] N 0 20 N wS wS rfl wS wS wS wS (Zw _) (Zw _) ⟨by simp [ZM];omega,fun p hp=>by
  simp only [List.nil_append,List.append_nil,List.mem_append,ssort_mem] at hp
  rcases hp with h|h
  ·exact hD.sz p (List.mem_of_mem_take h)
  ·exact hD.sz p (List.mem_of_mem_drop h)⟩
 rw [ssort_two,List.take_append_drop] at s3
 simp only [List.nil_append,List.append_nil] at s3 i2
 have l2:(z7 (D.take 20)++z7 (D.drop 20)).length=N:=by simp [ZM];omega
 rw [← hN] at i1 i2 ⊢
 by_cases h3:N < 40
 ·generalize srt D 0 20 = D1 at *
  generalize z7 (D.take 20)++z7 (D.drop 20)=D2 at *
  generalize z7 D=D3 at *
  refine yk cop97 ?_
  show W _ _ _ _ ⟨_,_⟩;simp only [A97,List.cons_append,List.nil_append,List.length_cons,List.length_nil,Nat.reduceAdd,Nat.reduceSub,List.replicate]
  clear hD hS
  repeat (first|(with_reducible first|refine zJ ?_|refine zI ?_|refine zZ ?_|refine Ze ?_|refine Zp ?_|refine zk ?_|refine zh ?_|refine Zg ?_|refine z6 ?_|refine Zb ?_)|(with_reducible first|refine Yh 60 ?_|refine Yg ?_)|((with_reducible first|refine ks fun K hK=>?_|refine kd fun K hK=>?_|refine kc fun K hK2 hK hK3=>?_);simp (disch:=omega) only [bg0,bg1,bg2,bg3,bg4,zr,zS,eff,AX.ev,St.put,zQ,zP,ap1,zg,Int.reduceTMod,Int.reduceTDiv,reduceCtorEq,zt,AV.cells,AV.fine,AV.one,Nat.reduceAdd,Nat.reduceSub,Nat.reduceMul,Nat.reduceLT,Nat.reduceLeDiff,Int.reduceLT,Int.reduceLE,Int.reduceAdd,Int.reduceSub,Int.reduceNeg,Int.reduceMul,Int.reduceEq,Int.reduceToNat,zW,zp,live,zo,rdA,ze,wrA,zH,zq,zV,zR,zT,zi,zb,zm,zj,zd,cut,id,ap2,reduceIte,zu,zY,geB,AOp.cls,AOp.xs,ltB,ltC,Nat.reduceBEq,Option.toList,List.cons_append,decide_eq_true,decide_eq_false,if_pos,if_neg,List.length_map,zO,List.cons_append,bVb,bVn,eq_self,Bool.and_self,BEq.rfl,not_true_eq_false];(with_reducible first|(refine hK _ ?_;clear hK K)|(refine hK ?_;clear hK hK3 K hK2)|(refine hK3 ?_;clear hK hK3 K hK2)))|((with_reducible refine khs 101 ?_ ?_ ?_ ?_);rotate_left 2;exact i1)|((with_reducible refine khs 101 ?_ ?_ ?_ ?_);rotate_left 2;exact i2)|((with_reducible refine khs 102 ?_ ?_ ?_ ?_);rotate_left 2;exact s3)|((with_reducible refine Y2 ?_);try rfl))
 ·obtain rfl : N = 40 := by omega
  have i3:=wH G (z7 (D.take 20)++z7 (D.drop 20)) g 40 40 ⟨by rw [l2];omega,fun p hp=>by
   simp only [List.mem_append,ssort_mem] at hp
   rcases hp with h|h
   ·exact hD.sz p (List.mem_of_mem_take h)
   ·exact hD.sz p (List.mem_of_mem_drop h)⟩ (by omega) (by omega)
  rw [XM (by omega) (by omega) (by omega),l2] at i3
  generalize srt D 0 20=D1 at *
  generalize z7 (D.take 20)++z7 (D.drop 20)=D2 at *
  generalize z7 D=D3 at *
  refine yk cop97 ?_
  show W _ _ _ _ ⟨_,_⟩;simp only [A97,List.cons_append,List.nil_append,List.length_cons,List.length_nil,Nat.reduceAdd,Nat.reduceSub,List.replicate]
  clear hD hS
  repeat (first|(with_reducible first|refine zJ ?_|refine zI ?_|refine zZ ?_|refine Ze ?_|refine Zp ?_|refine zk ?_|refine zh ?_|refine Zg ?_|refine z6 ?_|refine Zb ?_)|(with_reducible first|refine Yh 60 ?_|refine Yg ?_)|((with_reducible first|refine ks fun K hK=>?_|refine kd fun K hK=>?_|refine kc fun K hK2 hK hK3=>?_);simp (disch:=omega) only [bg0,bg1,bg2,bg3,bg4,zr,zS,eff,AX.ev,St.put,zQ,zP,ap1,zg,Int.reduceTMod,Int.reduceTDiv,reduceCtorEq,zt,AV.cells,AV.fine,AV.one,Nat.reduceAdd,Nat.reduceSub,Nat.reduceMul,Nat.reduceLT,Nat.reduceLeDiff,Int.reduceLT,Int.reduceLE,Int.reduceAdd,Int.reduceSub,Int.reduceNeg,Int.reduceMul,Int.reduceEq,Int.reduceToNat,zW,zp,live,zo,rdA,ze,wrA,zH,zq,zV,zR,zT,zi,zb,zm,zj,zd,cut,id,ap2,reduceIte,zu,zY,geB,AOp.cls,AOp.xs,ltB,ltC,Nat.reduceBEq,Option.toList,List.cons_append,decide_eq_true,decide_eq_false,if_pos,if_neg,List.length_map,zO,List.cons_append,bVb,bVn,eq_self,Bool.and_self,BEq.rfl,not_true_eq_false];(with_reducible first|(refine hK _ ?_;clear hK K)|(refine hK ?_;clear hK hK3 K hK2)|(refine hK3 ?_;clear hK hK3 K hK2)))|((with_reducible refine khs 101 ?_ ?_ ?_ ?_);rotate_left 2;exact i1)|((with_reducible refine khs 101 ?_ ?_ ?_ ?_);rotate_left 2;exact i2)|((with_reducible refine khs 101 ?_ ?_ ?_ ?_);rotate_left 2;exact i3)|((with_reducible refine khs 102 ?_ ?_ ?_ ?_);rotate_left 2;exact s3)|((with_reducible refine Y2 ?_);try rfl))
set_option maxHeartbeats 4000000 in
theorem sort28 (G : Nat → AV) (hS : SymOk G) (D : List Pr) (g : Nat) (hD : Okl D) (h40 : D.length ≤ 40) :
  HC Tryd.prog G 79 [.ol 0 g D.length,cF] [rw0 D g] (.tup []) [rw0 (z7 D) g]:=by
 have h:=stable37 G hS D g hD h40
 refine yk cop79 ?_
 show W _ _ _ _ ⟨_,_⟩;simp only [A79,List.cons_append,List.nil_append,List.length_cons,List.length_nil,Nat.reduceAdd,Nat.reduceSub,List.replicate]
 repeat (first|(with_reducible first|refine zI ?_|refine zk ?_)|((with_reducible first|refine ks fun K hK=>?_|refine kd fun K hK=>?_|refine kc fun K hK2 hK hK3=>?_);simp (disch:=omega) only [bg0,bg1,bg2,bg3,bg4,zr,zS,eff,AX.ev,St.put,zQ,zP,ap1,zg,Int.reduceTMod,Int.reduceTDiv,reduceCtorEq,zt,AV.cells,AV.fine,AV.one,Nat.reduceAdd,Nat.reduceSub,Nat.reduceMul,Nat.reduceLT,Nat.reduceLeDiff,Int.reduceLT,Int.reduceLE,Int.reduceAdd,Int.reduceSub,Int.reduceNeg,Int.reduceMul,Int.reduceEq,Int.reduceToNat,zW,zp,live,zo,rdA,ze,wrA,zH,zq,zV,zR,zT,zi,zb,zm,zj,zd,cut,id,ap2,reduceIte,zu,zY,geB,AOp.cls,AOp.xs,ltB,ltC,Nat.reduceBEq,Option.toList,List.cons_append,decide_eq_true,decide_eq_false,if_pos,if_neg,List.length_map,zO,List.cons_append,bVb,bVn,eq_self,Bool.and_self,BEq.rfl,not_true_eq_false];(with_reducible first|(refine hK _ ?_;clear hK K)|(refine hK ?_;clear hK hK3 K hK2)|(refine hK3 ?_;clear hK hK3 K hK2)))|((with_reducible refine khs 97 ?_ ?_ ?_ ?_);rotate_left 2;exact h)|((with_reducible refine Y2 ?_);try rfl))
theorem isl:xc Tryd.prog 24=true:=by kernel_rfl
set_option maxHeartbeats 4000000 in
theorem wm (G:Nat→AV) (l:List Pr) (hl:Okl l) (h0:l ≠ []) (H:Hp):HC Tryd.prog G 65 [.sl 2 (l.map pA)] H (.ol H.length 1 l.length) (H++[⟨65,2,l.map pA,1,0⟩]):=by
 have hlen:=hl.len
 have he:(l.map pA).isEmpty=false:=by cases l with|nil=>exact absurd rfl h0|cons=>rfl
 refine yk cop65 ?_
 show W _ _ _ _ ⟨_,_⟩;simp only [A65,List.cons_append,List.nil_append,List.length_cons,List.length_nil,Nat.reduceAdd,Nat.reduceSub,List.replicate]
 repeat (first|(with_reducible first|refine zJ ?_|refine zI ?_|refine Ze ?_|refine zk ?_|refine zh ?_|refine Zl ?_)|((with_reducible first|refine ks fun K hK=>?_|refine kd fun K hK=>?_|refine kc fun K hK2 hK hK3=>?_|refine Zr fun K hR=>?_|refine Zj rfl fun K hR=>?_|refine Zi fun K hR=>?_);simp (disch:=omega) only [bg0,bg1,bg2,bg3,bg4,zr,zS,eff,AX.ev,St.put,zQ,zP,ap1,zg,Int.reduceTMod,Int.reduceTDiv,reduceCtorEq,zt,AV.cells,AV.fine,AV.one,Nat.reduceAdd,Nat.reduceSub,Nat.reduceMul,Nat.reduceLT,Nat.reduceLeDiff,Int.reduceLT,Int.reduceLE,Int.reduceAdd,Int.reduceSub,Int.reduceNeg,Int.reduceMul,Int.reduceEq,Int.reduceToNat,zW,zp,live,zo,rdA,ze,wrA,zH,zq,zV,zR,zT,zi,zb,zm,zj,zd,cut,id,ap2,reduceIte,zu,zY,geB,AOp.cls,AOp.xs,ltB,ltC,Nat.reduceBEq,Option.toList,List.cons_append,decide_eq_true,decide_eq_false,if_pos,if_neg,List.length_map,zO,List.cons_append,bVb,bVn,eq_self,Bool.and_self,BEq.rfl,not_true_eq_false,isl,Yn,yN,Xe,he,Bool.not_false];(first|(with_reducible first|(refine hK _ ?_;clear hK K)|(refine hK ?_;clear hK hK3 K hK2)|(refine hK3 ?_;clear hK hK3 K hK2))|((with_reducible refine hR _ ?_ ?_ ?_ ?_);rotate_left 2;rfl;rfl)|((with_reducible refine hR _ ?_);rfl))))
set_option maxHeartbeats 4000000 in
theorem clone27e (G:Nat→AV):PC Tryd.prog G 65 [.sl 2 []] (.sl 2 []):=by
 refine @pc_em _ _ _ _ _ cop65 [] [] 2 _ fun b=>?_
 cases b
 all_goals
  show W _ _ _ _ ⟨_,_⟩
  simp only [A65,List.cons_append,List.nil_append,List.length_cons,List.length_nil,Nat.reduceAdd,Nat.reduceSub,List.replicate]
  repeat (first|(with_reducible first|refine zJ ?_|refine zI ?_|refine Ze ?_|refine zk ?_|refine zh ?_|refine Zl ?_|refine ZC ?_)|((with_reducible first|refine ks fun K hK=>?_|refine kd fun K hK=>?_|refine kc fun K hK2 hK hK3=>?_|refine Zr fun K hR=>?_|refine Zj rfl fun K hR=>?_|refine Zi fun K hR=>?_);simp (disch:=omega) only [bg0,bg1,bg2,bg3,bg4,zr,zS,eff,AX.ev,St.put,zQ,zP,ap1,zg,Int.reduceTMod,Int.reduceTDiv,reduceCtorEq,zt,AV.cells,AV.fine,AV.one,Nat.reduceAdd,Nat.reduceSub,Nat.reduceMul,Nat.reduceLT,Nat.reduceLeDiff,Int.reduceLT,Int.reduceLE,Int.reduceAdd,Int.reduceSub,Int.reduceNeg,Int.reduceMul,Int.reduceEq,Int.reduceToNat,zW,zp,live,zo,rdA,ze,wrA,zH,zq,zV,zR,zT,zi,zb,zm,zj,zd,cut,id,ap2,reduceIte,zu,zY,geB,AOp.cls,AOp.xs,ltB,ltC,Nat.reduceBEq,Option.toList,List.cons_append,decide_eq_true,decide_eq_false,if_pos,if_neg,List.length_map,zO,List.cons_append,bVb,bVn,eq_self,Bool.and_self,BEq.rfl,not_true_eq_false,isl,Yn,yN,w4,Xe,Bool.not_false,Bool.not_true];(first|(with_reducible first|(refine hK _ ?_;clear hK K)|(refine hK ?_;clear hK hK3 K hK2)|(refine hK3 ?_;clear hK hK3 K hK2))|((with_reducible refine hR _ ?_ ?_ ?_ ?_);rotate_left 2;rfl;rfl)|((with_reducible refine hR _ ?_);rfl))))
end Go.Proofs.YtgpldekhcojimaaDoor.Sim.Pr7
