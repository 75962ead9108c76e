/- Texts of this claim, part 5. -/
import Derived.Test.YtgpldekhcojimaaDoorMModelSame4
set_option linter.unusedVariables false
set_option linter.unusedSimpArgs false
namespace Go.Proofs.YtgpldekhcojimaaDoor.Sim
open Go.RowKit
def opF:List Bool:=Conf.opTable.flatten
def opAV:List AV:=[.agg (opF.map fun b=>.v (.bool b))]
def tabG (g:Nat):AV:=if g=0 then .ad 56 opAV 0 0 else .unk
theorem opF_at:∀ m:Nat,m < 56→opF[m]? = some (Conf.opUse (m / 4) (m % 4)):=by decide
theorem gok {w:World} (hT:Conf.Tab w):GOK tabG (fun b o=>w.cell? ⟨b,o,none⟩):=by
  intro g
  unfold tabG
  split
  · rename_i hg
    subst hg
    have hl:opF.length=56:=by decide
    refine .p (.ad 0 0 56 opAV 0 0 (fun e he=>?_) (fun e he a ha=>?_) (fun i j=>.bool (Conf.opUse (j / 4) (j % 4))) (fun i j hi hj=>?_) (fun i j e a he ha=>?_))
    · simp only [opAV, List.mem_singleton] at he
      subst he
      simp [AV.cells,hl]
    · simp only [opAV, List.mem_singleton] at he
      subst he
      simp only [AV.cells,List.mem_map] at ha
      obtain ⟨b,_,rfl⟩:=ha
      rfl
    · have hi' : i < 1 := hi
      obtain rfl:i=0:=by omega
      have:=hT (j / 4) (j % 4) (by omega) (by omega)
      rw [show 0+0 * 56+j=4 * (j / 4)+j % 4 by omega]
      exact this
    · simp only [opAV, List.getElem?_singleton] at he
      split at he
      · cases he
        simp only [AV.cells,List.getElem?_map] at ha
        obtain ⟨b,hb,rfl⟩:=Option.map_eq_some_iff.1 ha
        have hj:j < 56:=by rw [← hl];exact (List.getElem?_eq_some_iff.1 hb).1
        rw [opF_at j hj] at hb
        cases hb
        exact .v _ rfl
      · cases he
  · exact .unk _
theorem law_ofG {P : Program} {w : World} {G : Nat → AV} {f : FuncId} {bs : List AV} {xs : List Value} (h : PC P G f bs (.v (.bool true))) (hg : GOK G (fun b o => w.cell? ⟨b, o, none⟩)) (hl : xs.length = bs.length) (hv : ∀ (i : Nat) (c : Value) (a : AV), xs[i]? = some c → bs[i]? = some a → PV (fun b o => w.cell? ⟨b, o, none⟩) c a) :
    Calls P f xs.toArray w (fun e w'=>e = .returned (.bool true)∧Go.RowKit.Below w.heap.size w w'):=by
  refine (h w (fun b o=>w.cell? ⟨b,o,none⟩) xs (fun _ _ _ h=>h) hg hl hv).mono ?_
  rintro e w' ⟨v,F',rfl,hp,_,_,_,hb⟩
  cases hp
  exact ⟨rfl,hb⟩
theorem tab_of {w:World} {F:Fz} (hF:∀ b o v,F b o=some v→w.cell? ⟨b,o,none⟩=some v) (hG:GOK tabG F):Conf.Tab w:=by
  intro i j hi hj
  have h0:=hG 0
  have e0:tabG 0 = .ad 56 opAV 0 0:=rfl
  rw [e0] at h0
  cases h0 with
  | p h0 =>
    generalize hx:(Value.pointer (some ⟨0,0,none⟩))=x at h0
    generalize hy:AV.ad 56 opAV 0 0=y at h0
    cases h0 with
    | ad b o k es i' off hk h1 f hf h =>
      injection hy with q1 q2 q3 q4
      subst q1;subst q2;subst q3;subst q4
      injection hx with hx
      injection hx with hx
      injection hx with hx1 hx2
      have o0:o=0:=by omega
      subst o0;subst hx1
      have c:=hf 0 (4 * i+j) (by decide) (by omega)
      have e2:(opF.map fun b=>AV.v (.bool b))[4 * i+j]? = some (.v (.bool (Conf.opUse i j))):=by
        rw [List.getElem?_map,opF_at _ (by omega),show (4 * i+j) / 4=i by omega,show (4 * i+j) % 4=j by omega];rfl
      have pv:=h 0 (4 * i+j) _ _ rfl (by rw [AV.cells];exact e2)
      have e3:f 0 (4 * i+j) = .bool (Conf.opUse i j):=by
        generalize f 0 (4 * i+j)=z at pv
        cases pv;rfl
      rw [e3] at c
      have:=hF _ _ _ c
      rw [show 0+0 * 56+(4 * i+j)=4 * i+j by omega] at this
      exact this
    | _=>cases hy
theorem pc_callsG {P : Program} {f : FuncId} {bs : List AV} {ys : List Value} {v : Value} {r : AV} (hc : concs bs = some ys) (hr : ofVal v = some r)
    (h:∀ w,Conf.Tab w→Calls P f ys.toArray w (fun e w'=>e = .returned v∧Below w.heap.size w w')):PC P tabG f bs r:=by
  intro w F xs hF hG hl hv
  obtain rfl:xs=ys:=concs_ok (F:=F) (O:=[]) hc hl fun i c a hc ha=>.p (hv i c a hc ha)
  refine (h w (tab_of hF hG)).mono ?_
  rintro e w' ⟨rfl,hb⟩
  exact ⟨v,F,rfl,ofVal_pv hr,Fz.le_refl F,fun b o v hv=>by rw [hb.cell (p:=⟨b,o,none⟩) (lt_of_cell (hF b o v hv))];exact hF b o v hv,fun b o v hv=>.inl hv,hb⟩
end Go.Proofs.YtgpldekhcojimaaDoor.Sim
namespace Go.Proofs.YtgpldekhcojimaaDoor.Conf
open Go.RowKit
set_option maxHeartbeats 6400000 in
theorem Plain_in (n : Nat) (a b c : ByteArray) (h : Int) (w : World) (T : Tab w) (h1 : 1 ≤ n) (h2 : n ≤ 13) (b0 b1 b2 b3 : Bool) (e0 : opUse n 0 = b0) (e1 : opUse n 1 = b1) (e2 : opUse n 2 = b2) (e3 : opUse n 3 = b3) :
    Calls Tryd.prog 83 #[.agg #[.int .i64 n,.string a,.string b,.string c,.int .i64 h]] w (Fresh (.agg #[.int .i64 n,.string (if b0 then a else ⟨#[]⟩),.string (if b1 then b else ⟨#[]⟩),.string (if b2 then c else ⟨#[]⟩),.int .i64 (if b3 then h else 0)]) w):=by
  have h0:0 < w.heap.size:=World.block_lt_of_cell? w _ (T 0 0 (by omega) (by omega))
  have t0:w.cell? ⟨0,n * 4,none⟩=some (.bool b0):=by have:=T n 0 (by omega) (by omega);rw [e0,Nat.mul_comm] at this;exact this
  have t1:w.cell? ⟨0,n * 4+1,none⟩=some (.bool b1):=by have:=T n 1 (by omega) (by omega);rw [e1,Nat.mul_comm] at this;exact this
  have t2:w.cell? ⟨0,n * 4+2,none⟩=some (.bool b2):=by have:=T n 2 (by omega) (by omega);rw [e2,Nat.mul_comm] at this;exact this
  have t3:w.cell? ⟨0,n * 4+3,none⟩=some (.bool b3):=by have:=T n 3 (by omega) (by omega);rw [e3,Nat.mul_comm] at this;exact this
  have k1:∀ w,Hid (Calls Tryd.prog 57 #[.int .i64 n] w (Quiet (.bool true) w)):=fun w=>by
    have:=isOp_calls n w (by unfold I64;omega)
    rw [decide_eq_true (by omega)] at this
    exact hide this
  have i1:(0:Int)≤(n:Int):=by omega
  have i2:(n:Int) < 14:=by omega
  clear T e0 e1 e2 e3
  cases b0<;>cases b1<;>cases b2<;>cases b3
  case false.false.false.false =>
    simp only [if_true,Bool.false_eq_true,if_false]
    go_enter Tryd.func83,Tryd.ntmps83
    go_wp2_with (go_at_call 57;(with_reducible refine ((k1 _).out).mono ?_);rintro e w' ⟨rfl,q,rfl⟩)
    all_goals
      refine bodyPost_ret (v:=.agg #[.int .i64 n,.string ⟨#[]⟩,.string ⟨#[]⟩,.string ⟨#[]⟩,.int .i64 0]) (by simp [results,Tryd.results83,go_sem]) rfl ⟨rfl,?_⟩
      exact (by repeat (first|with_reducible exact Below.refl _ _|with_reducible refine below_drewN ?_ _|with_reducible refine below_alloc ?_ (Nat.le_refl _) _|(with_reducible refine Below.setCell ?_ ?h _;(case h=>first|(dsimp only;omega)|(simp;done)|(simp;omega)))|with_reducible refine below_step ?_ (Nat.le_refl _) (by assumption)))
  case true.false.false.false =>
    simp only [if_true,Bool.false_eq_true,if_false]
    go_enter Tryd.func83,Tryd.ntmps83
    go_wp2_with (go_at_call 57;(with_reducible refine ((k1 _).out).mono ?_);rintro e w' ⟨rfl,q,rfl⟩)
    all_goals
      refine bodyPost_ret (v:=.agg #[.int .i64 n,.string a,.string ⟨#[]⟩,.string ⟨#[]⟩,.int .i64 0]) (by simp [results,Tryd.results83,go_sem]) rfl ⟨rfl,?_⟩
      exact (by repeat (first|with_reducible exact Below.refl _ _|with_reducible refine below_drewN ?_ _|with_reducible refine below_alloc ?_ (Nat.le_refl _) _|(with_reducible refine Below.setCell ?_ ?h _;(case h=>first|(dsimp only;omega)|(simp;done)|(simp;omega)))|with_reducible refine below_step ?_ (Nat.le_refl _) (by assumption)))
  case false.true.false.false =>
    simp only [if_true,Bool.false_eq_true,if_false]
    go_enter Tryd.func83,Tryd.ntmps83
    go_wp2_with (go_at_call 57;(with_reducible refine ((k1 _).out).mono ?_);rintro e w' ⟨rfl,q,rfl⟩)
    all_goals
      refine bodyPost_ret (v:=.agg #[.int .i64 n,.string ⟨#[]⟩,.string b,.string ⟨#[]⟩,.int .i64 0]) (by simp [results,Tryd.results83,go_sem]) rfl ⟨rfl,?_⟩
      exact (by repeat (first|with_reducible exact Below.refl _ _|with_reducible refine below_drewN ?_ _|with_reducible refine below_alloc ?_ (Nat.le_refl _) _|(with_reducible refine Below.setCell ?_ ?h _;(case h=>first|(dsimp only;omega)|(simp;done)|(simp;omega)))|with_reducible refine below_step ?_ (Nat.le_refl _) (by assumption)))
  case true.true.false.false =>
    simp only [if_true,Bool.false_eq_true,if_false]
    go_enter Tryd.func83,Tryd.ntmps83
    go_wp2_with (go_at_call 57;(with_reducible refine ((k1 _).out).mono ?_);rintro e w' ⟨rfl,q,rfl⟩)
    all_goals
      refine bodyPost_ret (v:=.agg #[.int .i64 n,.string a,.string b,.string ⟨#[]⟩,.int .i64 0]) (by simp [results,Tryd.results83,go_sem]) rfl ⟨rfl,?_⟩
      exact (by repeat (first|with_reducible exact Below.refl _ _|with_reducible refine below_drewN ?_ _|with_reducible refine below_alloc ?_ (Nat.le_refl _) _|(with_reducible refine Below.setCell ?_ ?h _;(case h=>first|(dsimp only;omega)|(simp;done)|(simp;omega)))|with_reducible refine below_step ?_ (Nat.le_refl _) (by assumption)))
  case false.false.true.false =>
    simp only [if_true,Bool.false_eq_true,if_false]
    go_enter Tryd.func83,Tryd.ntmps83
    go_wp2_with (go_at_call 57;(with_reducible refine ((k1 _).out).mono ?_);rintro e w' ⟨rfl,q,rfl⟩)
    all_goals
      refine bodyPost_ret (v:=.agg #[.int .i64 n,.string ⟨#[]⟩,.string ⟨#[]⟩,.string c,.int .i64 0]) (by simp [results,Tryd.results83,go_sem]) rfl ⟨rfl,?_⟩
      exact (by repeat (first|with_reducible exact Below.refl _ _|with_reducible refine below_drewN ?_ _|with_reducible refine below_alloc ?_ (Nat.le_refl _) _|(with_reducible refine Below.setCell ?_ ?h _;(case h=>first|(dsimp only;omega)|(simp;done)|(simp;omega)))|with_reducible refine below_step ?_ (Nat.le_refl _) (by assumption)))
  case true.false.true.false =>
    simp only [if_true,Bool.false_eq_true,if_false]
    go_enter Tryd.func83,Tryd.ntmps83
    go_wp2_with (go_at_call 57;(with_reducible refine ((k1 _).out).mono ?_);rintro e w' ⟨rfl,q,rfl⟩)
    all_goals
      refine bodyPost_ret (v:=.agg #[.int .i64 n,.string a,.string ⟨#[]⟩,.string c,.int .i64 0]) (by simp [results,Tryd.results83,go_sem]) rfl ⟨rfl,?_⟩
      exact (by repeat (first|with_reducible exact Below.refl _ _|with_reducible refine below_drewN ?_ _|with_reducible refine below_alloc ?_ (Nat.le_refl _) _|(with_reducible refine Below.setCell ?_ ?h _;(case h=>first|(dsimp only;omega)|(simp;done)|(simp;omega)))|with_reducible refine below_step ?_ (Nat.le_refl _) (by assumption)))
  case false.true.true.false =>
    simp only [if_true,Bool.false_eq_true,if_false]
    go_enter Tryd.func83,Tryd.ntmps83
    go_wp2_with (go_at_call 57;(with_reducible refine ((k1 _).out).mono ?_);rintro e w' ⟨rfl,q,rfl⟩)
    all_goals
      refine bodyPost_ret (v:=.agg #[.int .i64 n,.string ⟨#[]⟩,.string b,.string c,.int .i64 0]) (by simp [results,Tryd.results83,go_sem]) rfl ⟨rfl,?_⟩
      exact (by repeat (first|with_reducible exact Below.refl _ _|with_reducible refine below_drewN ?_ _|with_reducible refine below_alloc ?_ (Nat.le_refl _) _|(with_reducible refine Below.setCell ?_ ?h _;(case h=>first|(dsimp only;omega)|(simp;done)|(simp;omega)))|with_reducible refine below_step ?_ (Nat.le_refl _) (by assumption)))
  case true.true.true.false =>
    simp only [if_true,Bool.false_eq_true,if_false]
    go_enter Tryd.func83,Tryd.ntmps83
    go_wp2_with (go_at_call 57;(with_reducible refine ((k1 _).out).mono ?_);rintro e w' ⟨rfl,q,rfl⟩)
    all_goals
      refine bodyPost_ret (v:=.agg #[.int .i64 n,.string a,.string b,.string c,.int .i64 0]) (by simp [results,Tryd.results83,go_sem]) rfl ⟨rfl,?_⟩
      exact (by repeat (first|with_reducible exact Below.refl _ _|with_reducible refine below_drewN ?_ _|with_reducible refine below_alloc ?_ (Nat.le_refl _) _|(with_reducible refine Below.setCell ?_ ?h _;(case h=>first|(dsimp only;omega)|(simp;done)|(simp;omega)))|with_reducible refine below_step ?_ (Nat.le_refl _) (by assumption)))
  case false.false.false.true =>
    simp only [if_true,Bool.false_eq_true,if_false]
    go_enter Tryd.func83,Tryd.ntmps83
    go_wp2_with (go_at_call 57;(with_reducible refine ((k1 _).out).mono ?_);rintro e w' ⟨rfl,q,rfl⟩)
    all_goals
      refine bodyPost_ret (v:=.agg #[.int .i64 n,.string ⟨#[]⟩,.string ⟨#[]⟩,.string ⟨#[]⟩,.int .i64 h]) (by simp [results,Tryd.results83,go_sem]) rfl ⟨rfl,?_⟩
      exact (by repeat (first|with_reducible exact Below.refl _ _|with_reducible refine below_drewN ?_ _|with_reducible refine below_alloc ?_ (Nat.le_refl _) _|(with_reducible refine Below.setCell ?_ ?h _;(case h=>first|(dsimp only;omega)|(simp;done)|(simp;omega)))|with_reducible refine below_step ?_ (Nat.le_refl _) (by assumption)))
  case true.false.false.true =>
    simp only [if_true,Bool.false_eq_true,if_false]
    go_enter Tryd.func83,Tryd.ntmps83
    go_wp2_with (go_at_call 57;(with_reducible refine ((k1 _).out).mono ?_);rintro e w' ⟨rfl,q,rfl⟩)
    all_goals
      refine bodyPost_ret (v:=.agg #[.int .i64 n,.string a,.string ⟨#[]⟩,.string ⟨#[]⟩,.int .i64 h]) (by simp [results,Tryd.results83,go_sem]) rfl ⟨rfl,?_⟩
      exact (by repeat (first|with_reducible exact Below.refl _ _|with_reducible refine below_drewN ?_ _|with_reducible refine below_alloc ?_ (Nat.le_refl _) _|(with_reducible refine Below.setCell ?_ ?h _;(case h=>first|(dsimp only;omega)|(simp;done)|(simp;omega)))|with_reducible refine below_step ?_ (Nat.le_refl _) (by assumption)))
  case false.true.false.true =>
    simp only [if_true,Bool.false_eq_true,if_false]
    go_enter Tryd.func83,Tryd.ntmps83
    go_wp2_with (go_at_call 57;(with_reducible refine ((k1 _).out).mono ?_);rintro e w' ⟨rfl,q,rfl⟩)
    all_goals
      refine bodyPost_ret (v:=.agg #[.int .i64 n,.string ⟨#[]⟩,.string b,.string ⟨#[]⟩,.int .i64 h]) (by simp [results,Tryd.results83,go_sem]) rfl ⟨rfl,?_⟩
      exact (by repeat (first|with_reducible exact Below.refl _ _|with_reducible refine below_drewN ?_ _|with_reducible refine below_alloc ?_ (Nat.le_refl _) _|(with_reducible refine Below.setCell ?_ ?h _;(case h=>first|(dsimp only;omega)|(simp;done)|(simp;omega)))|with_reducible refine below_step ?_ (Nat.le_refl _) (by assumption)))
  case true.true.false.true =>
    simp only [if_true,Bool.false_eq_true,if_false]
    go_enter Tryd.func83,Tryd.ntmps83
    go_wp2_with (go_at_call 57;(with_reducible refine ((k1 _).out).mono ?_);rintro e w' ⟨rfl,q,rfl⟩)
    all_goals
      refine bodyPost_ret (v:=.agg #[.int .i64 n,.string a,.string b,.string ⟨#[]⟩,.int .i64 h]) (by simp [results,Tryd.results83,go_sem]) rfl ⟨rfl,?_⟩
      exact (by repeat (first|with_reducible exact Below.refl _ _|with_reducible refine below_drewN ?_ _|with_reducible refine below_alloc ?_ (Nat.le_refl _) _|(with_reducible refine Below.setCell ?_ ?h _;(case h=>first|(dsimp only;omega)|(simp;done)|(simp;omega)))|with_reducible refine below_step ?_ (Nat.le_refl _) (by assumption)))
  case false.false.true.true =>
    simp only [if_true,Bool.false_eq_true,if_false]
    go_enter Tryd.func83,Tryd.ntmps83
    go_wp2_with (go_at_call 57;(with_reducible refine ((k1 _).out).mono ?_);rintro e w' ⟨rfl,q,rfl⟩)
    all_goals
      refine bodyPost_ret (v:=.agg #[.int .i64 n,.string ⟨#[]⟩,.string ⟨#[]⟩,.string c,.int .i64 h]) (by simp [results,Tryd.results83,go_sem]) rfl ⟨rfl,?_⟩
      exact (by repeat (first|with_reducible exact Below.refl _ _|with_reducible refine below_drewN ?_ _|with_reducible refine below_alloc ?_ (Nat.le_refl _) _|(with_reducible refine Below.setCell ?_ ?h _;(case h=>first|(dsimp only;omega)|(simp;done)|(simp;omega)))|with_reducible refine below_step ?_ (Nat.le_refl _) (by assumption)))
  case true.false.true.true =>
    simp only [if_true,Bool.false_eq_true,if_false]
    go_enter Tryd.func83,Tryd.ntmps83
    go_wp2_with (go_at_call 57;(with_reducible refine ((k1 _).out).mono ?_);rintro e w' ⟨rfl,q,rfl⟩)
    all_goals
      refine bodyPost_ret (v:=.agg #[.int .i64 n,.string a,.string ⟨#[]⟩,.string c,.int .i64 h]) (by simp [results,Tryd.results83,go_sem]) rfl ⟨rfl,?_⟩
      exact (by repeat (first|with_reducible exact Below.refl _ _|with_reducible refine below_drewN ?_ _|with_reducible refine below_alloc ?_ (Nat.le_refl _) _|(with_reducible refine Below.setCell ?_ ?h _;(case h=>first|(dsimp only;omega)|(simp;done)|(simp;omega)))|with_reducible refine below_step ?_ (Nat.le_refl _) (by assumption)))
  case false.true.true.true =>
    simp only [if_true,Bool.false_eq_true,if_false]
    go_enter Tryd.func83,Tryd.ntmps83
    go_wp2_with (go_at_call 57;(with_reducible refine ((k1 _).out).mono ?_);rintro e w' ⟨rfl,q,rfl⟩)
    all_goals
      refine bodyPost_ret (v:=.agg #[.int .i64 n,.string ⟨#[]⟩,.string b,.string c,.int .i64 h]) (by simp [results,Tryd.results83,go_sem]) rfl ⟨rfl,?_⟩
      exact (by repeat (first|with_reducible exact Below.refl _ _|with_reducible refine below_drewN ?_ _|with_reducible refine below_alloc ?_ (Nat.le_refl _) _|(with_reducible refine Below.setCell ?_ ?h _;(case h=>first|(dsimp only;omega)|(simp;done)|(simp;omega)))|with_reducible refine below_step ?_ (Nat.le_refl _) (by assumption)))
  case true.true.true.true =>
    simp only [if_true,Bool.false_eq_true,if_false]
    go_enter Tryd.func83,Tryd.ntmps83
    go_wp2_with (go_at_call 57;(with_reducible refine ((k1 _).out).mono ?_);rintro e w' ⟨rfl,q,rfl⟩)
    all_goals
      refine bodyPost_ret (v:=.agg #[.int .i64 n,.string a,.string b,.string c,.int .i64 h]) (by simp [results,Tryd.results83,go_sem]) rfl ⟨rfl,?_⟩
      exact (by repeat (first|with_reducible exact Below.refl _ _|with_reducible refine below_drewN ?_ _|with_reducible refine below_alloc ?_ (Nat.le_refl _) _|(with_reducible refine Below.setCell ?_ ?h _;(case h=>first|(dsimp only;omega)|(simp;done)|(simp;omega)))|with_reducible refine below_step ?_ (Nat.le_refl _) (by assumption)))
end Go.Proofs.YtgpldekhcojimaaDoor.Conf
namespace Go.Proofs.YtgpldekhcojimaaDoor.Conf
open Go.RowKit
def opB (k:Int) (j:Nat):Bool:=if 1≤k∧k≤13 then opUse k.toNat j else false
def plS (k:Int) (j:Nat) (a:ByteArray):ByteArray:=if opB k j then a else ⟨#[]⟩
def plH (k h:Int):Int:=if opB k 3 then h else 0
theorem plS_size (k:Int) (j:Nat) (a:ByteArray) (h:a.size≤maxLen):(plS k j a).size≤maxLen:=by
  unfold plS;cases opB k j
  · show 0≤_;omega
  · exact h
theorem plH_in (k h:Int) (hh:I64 h):I64 (plH k h):=by
  unfold plH;cases opB k 3
  · unfold I64;simp
  · exact hh
set_option maxHeartbeats 800000 in
theorem Plain_calls (k : Int) (a b c : ByteArray) (h : Int) (w : World) (T : Tab w) (hk : I64 k) :
    Calls Tryd.prog 83 #[.agg #[.int .i64 k,.string a,.string b,.string c,.int .i64 h]] w (Fresh (.agg #[.int .i64 k,.string (plS k 0 a),.string (plS k 1 b),.string (plS k 2 c),.int .i64 (plH k h)]) w):=by
  by_cases hin:1≤k∧k≤13
  · obtain ⟨n, rfl⟩ := Int.eq_ofNat_of_zero_le (show 0 ≤ k by omega)
    have e:∀ j,opB (n:Int) j=opUse n j:=fun j=>by unfold opB;rw [if_pos hin];rfl
    unfold plS plH
    simp only [e]
    exact Plain_in n a b c h w T (by omega) (by omega) _ _ _ _ rfl rfl rfl rfl
  · have e:∀ j,opB k j=false:=fun j=>by unfold opB;rw [if_neg hin]
    unfold plS plH
    simp only [e,Bool.false_eq_true,if_false]
    have k1:∀ w,Hid (Calls Tryd.prog 57 #[.int .i64 k] w (Quiet (.bool false) w)):=fun w=>by
      have:=isOp_calls k w hk
      rw [decide_eq_false hin] at this
      exact hide this
    clear T e hin
    go_enter Tryd.func83,Tryd.ntmps83
    go_wp2_with (go_at_call 57;(with_reducible refine ((k1 _).out).mono ?_);rintro e w' ⟨rfl,q,rfl⟩)
    refine bodyPost_ret (v:=.agg #[.int .i64 k,.string ⟨#[]⟩,.string ⟨#[]⟩,.string ⟨#[]⟩,.int .i64 0]) (by simp [results,Tryd.results83,go_sem]) rfl ⟨rfl,?_⟩
    exact (by repeat (first|with_reducible exact Below.refl _ _|with_reducible refine below_drewN ?_ _|with_reducible refine below_alloc ?_ (Nat.le_refl _) _|(with_reducible refine Below.setCell ?_ ?h _;(case h=>first|(dsimp only;omega)|(simp;done)|(simp;omega)))|with_reducible refine below_step ?_ (Nat.le_refl _) (by assumption)))
def ft (ck k:Int) (A B C:ByteArray) (H:Int):Int :=
  if ¬ (1≤ck∧ck≤3)∨¬ (1≤k∧k≤13) then 11
  else if k=6∧ck ≠ 2 then 2
  else if 16 < A.size∨16 < B.size∨16 < C.size then 6
  else if H < 0 then 10 else 0
def fits (ck k:Int) (a b c:ByteArray) (h:Int):Int:=ft ck k (plS k 0 a) (plS k 1 b) (plS k 2 c) (plH k h)
set_option maxHeartbeats 3200000 in
theorem Fits_calls (ck cs ct ch cb k : Int) (a b c : ByteArray) (h : Int) (w : World) (T : Tab w) (h1 : I64 ck) (hk : I64 k) (hh : I64 h) (ha : a.size ≤ maxLen) (hb : b.size ≤ maxLen) (hc : c.size ≤ maxLen) :
    Calls Tryd.prog 53 #[.agg #[.int .i64 ck,.int .i64 cs,.int .i64 ct,.int .i64 ch,.int .i64 cb],.agg #[.int .i64 k,.string a,.string b,.string c,.int .i64 h]] w (Fresh (.int .i64 (fits ck k a b c h)) w):=by
  have k1:=fun w=>isMap_calls ck w h1
  have k2:=fun w=>isOp_calls k w hk
  have k3:=Lib.hid (Plain_calls k a b c h ((w.alloc (.cells #[.int .i64 ck,.int .i64 cs,.int .i64 ct,.int .i64 ch,.int .i64 cb] 23)).alloc (.cells #[.int .i64 k,.string a,.string b,.string c,.int .i64 h] 29)) (T.below (below_alloc (below_alloc (Below.refl _ w) (Nat.le_refl _) _) (Nat.le_refl _) _)) hk)
  have hA:=plS_size k 0 a ha
  have hB:=plS_size k 1 b hb
  have hC:=plS_size k 2 c hc
  have hH:=plH_in k h hh
  unfold fits
  generalize plS k 0 a=A at *
  generalize plS k 1 b=B at *
  generalize plS k 2 c=C at *
  generalize plH k h=H at *
  unfold maxLen at hA hB hC
  unfold I64 at h1 hk hH
  have em:(decide (1≤ck) && decide (ck≤3))=decide (1≤ck∧ck≤3):=by simp
  simp only [em] at k1
  have z1:w.heap.size < w.heap.size+1+1:=by omega
  have z2:w.heap.size+1 < w.heap.size+1+1:=by omega
  clear T em ha hb hc
  by_cases hm:1≤ck∧ck≤3
  · rw [decide_eq_true hm] at k1
    have K1:=fun w=>Lib.hid (k1 w)
    by_cases ho:1≤k∧k≤13
    · rw [decide_eq_true ho] at k2
      have K2:=fun w=>Lib.hid (k2 w)
      clear k1 k2
      have hft:ft ck k A B C H=if k=6∧ck ≠ 2 then 2 else if 16 < A.size∨16 < B.size∨16 < C.size then 6 else if H < 0 then 10 else 0:=by
        unfold ft;rw [if_neg (by omega)]
      generalize ft ck k A B C H=F at *
      rcases (show (k=6∧ck=2)∨(k=6∧¬ ck=2)∨¬ k=6 by omega) with ⟨rfl,rfl⟩|⟨rfl,hn⟩|hn
      · rw [if_neg (by simp)] at hft
        have HFT:=Lib.hid hft
        clear hft
        go_enter Tryd.func53,Tryd.ntmps53
        go_wp2_with fail
        refine k3.out.mono ?_
        rintro e w1 ⟨rfl,hbw⟩
        have HX:=Lib.hid (below_step (below_alloc (below_alloc (Below.refl _ w) (Nat.le_refl _) _) (Nat.le_refl _) _) (Nat.le_refl _) hbw)
        obtain ⟨hbc,hbf,hbm,hbn⟩:=bcell hbw
        clear hbw
        go_wp2_with (first|(go_at_call 82;(with_reducible refine ((K1 _).out).mono ?_);rintro e w' ⟨rfl,q,rfl⟩)|(go_at_call 57;(with_reducible refine ((K2 _).out).mono ?_);rintro e w' ⟨rfl,q,rfl⟩))
        all_goals
          go_ret
          exact ⟨ret_int (by rw [HFT.out]<;>((repeat' split)<;>omega)),below_drewN (below_alloc HX.out (Nat.le_refl _) _) _⟩
      · rw [if_pos ⟨rfl, hn⟩] at hft
        have hn2:(ck != 2)=true:=by rw [bne_iff_ne];exact hn
        have HFT:=Lib.hid hft
        clear hft
        go_enter Tryd.func53,Tryd.ntmps53
        go_wp2_with fail
        refine k3.out.mono ?_
        rintro e w1 ⟨rfl,hbw⟩
        have HX:=Lib.hid (below_step (below_alloc (below_alloc (Below.refl _ w) (Nat.le_refl _) _) (Nat.le_refl _) _) (Nat.le_refl _) hbw)
        obtain ⟨hbc,hbf,hbm,hbn⟩:=bcell hbw
        clear hbw
        go_wp2_with (first|(go_at_call 82;(with_reducible refine ((K1 _).out).mono ?_);rintro e w' ⟨rfl,q,rfl⟩)|(go_at_call 57;(with_reducible refine ((K2 _).out).mono ?_);rintro e w' ⟨rfl,q,rfl⟩))
        all_goals
          go_ret
          exact ⟨ret_int (by rw [HFT.out]<;>((repeat' split)<;>omega)),below_drewN (below_alloc HX.out (Nat.le_refl _) _) _⟩
      · rw [if_neg (fun x=>hn x.1)] at hft
        have hn2:(k == 6)=false:=by rw [beq_eq_false_iff_ne];exact hn
        have HFT:=Lib.hid hft
        clear hft
        go_enter Tryd.func53,Tryd.ntmps53
        go_wp2_with fail
        refine k3.out.mono ?_
        rintro e w1 ⟨rfl,hbw⟩
        have HX:=Lib.hid (below_step (below_alloc (below_alloc (Below.refl _ w) (Nat.le_refl _) _) (Nat.le_refl _) _) (Nat.le_refl _) hbw)
        obtain ⟨hbc,hbf,hbm,hbn⟩:=bcell hbw
        clear hbw
        go_wp2_with (first|(go_at_call 82;(with_reducible refine ((K1 _).out).mono ?_);rintro e w' ⟨rfl,q,rfl⟩)|(go_at_call 57;(with_reducible refine ((K2 _).out).mono ?_);rintro e w' ⟨rfl,q,rfl⟩))
        all_goals
          go_ret
          exact ⟨ret_int (by rw [HFT.out]<;>((repeat' split)<;>omega)),below_drewN (below_alloc HX.out (Nat.le_refl _) _) _⟩
    · rw [decide_eq_false ho] at k2
      have K2:=fun w=>Lib.hid (k2 w)
      clear k1 k2
      have hft:ft ck k A B C H=11:=by unfold ft;rw [if_pos (by omega)]
      generalize ft ck k A B C H=F at *
      clear ho hm
      have HFT:=Lib.hid hft
      clear hft
      go_enter Tryd.func53,Tryd.ntmps53
      go_wp2_with fail
      refine k3.out.mono ?_
      rintro e w1 ⟨rfl,hbw⟩
      have HX:=Lib.hid (below_step (below_alloc (below_alloc (Below.refl _ w) (Nat.le_refl _) _) (Nat.le_refl _) _) (Nat.le_refl _) hbw)
      obtain ⟨hbc,hbf,hbm,hbn⟩:=bcell hbw
      clear hbw
      go_wp2_with (first|(go_at_call 82;(with_reducible refine ((K1 _).out).mono ?_);rintro e w' ⟨rfl,q,rfl⟩)|(go_at_call 57;(with_reducible refine ((K2 _).out).mono ?_);rintro e w' ⟨rfl,q,rfl⟩))
      all_goals
        go_ret
        exact ⟨ret_int (by rw [HFT.out]<;>((repeat' split)<;>omega)),below_drewN (below_alloc HX.out (Nat.le_refl _) _) _⟩
  · rw [decide_eq_false hm] at k1
    have K1:=fun w=>Lib.hid (k1 w)
    have K2:=fun w=>Lib.hid (k2 w)
    clear k1 k2
    have hft:ft ck k A B C H=11:=by unfold ft;rw [if_pos (by omega)]
    generalize ft ck k A B C H=F at *
    clear hm
    have HFT:=Lib.hid hft
    clear hft
    go_enter Tryd.func53,Tryd.ntmps53
    go_wp2_with fail
    refine k3.out.mono ?_
    rintro e w1 ⟨rfl,hbw⟩
    have HX:=Lib.hid (below_step (below_alloc (below_alloc (Below.refl _ w) (Nat.le_refl _) _) (Nat.le_refl _) _) (Nat.le_refl _) hbw)
    obtain ⟨hbc,hbf,hbm,hbn⟩:=bcell hbw
    clear hbw
    go_wp2_with (first|(go_at_call 82;(with_reducible refine ((K1 _).out).mono ?_);rintro e w' ⟨rfl,q,rfl⟩)|(go_at_call 57;(with_reducible refine ((K2 _).out).mono ?_);rintro e w' ⟨rfl,q,rfl⟩))
    all_goals
      go_ret
      exact ⟨ret_int (by rw [HFT.out]<;>((repeat' split)<;>omega)),below_drewN (below_alloc HX.out (Nat.le_refl _) _) _⟩
end Go.Proofs.YtgpldekhcojimaaDoor.Conf
namespace Go.Proofs.YtgpldekhcojimaaDoor.Sim
open Go.RowKit
set_option maxRecDepth 100000
abbrev i64 (n:Int):Prop:=-9223372036854775808≤n∧n≤9223372036854775807
abbrev cA (k s t h b:Int):AV:=.agg [I k,I s,I t,I h,I b]
abbrev xA (o:Int) (a b c:ByteArray) (h:Int):AV:=.agg [I o,S a,S b,S c,I h]
abbrev aA (e:Int) (h:Bool) (k v:ByteArray) (n:Int):AV:=.agg [I e,Bo h,S k,S v,I n]
theorem may52 (G:Nat→AV) (k s t h b:Int) (hk:i64 k) (hs:i64 s) (ht:i64 t) (hh:i64 h) (hb:i64 b):PC Tryd.prog G 52 [cA k s t h b] (I (Conf.mayE k s t h b)) :=
  pc_calls (ys:=[.agg #[.int .i64 k,.int .i64 s,.int .i64 t,.int .i64 h,.int .i64 b]]) rfl rfl fun w=>(Conf.May_calls k s t h b w hk hs ht hh hb).mono fun e w' h=>h
theorem fits53 (k s t h b o:Int) (x y z:ByteArray) (i:Int) (hk:i64 k) (ho:i64 o) (hi:i64 i) (hx:x.size≤9223372036854775807) (hy:y.size≤9223372036854775807) (hz:z.size≤9223372036854775807):PC Tryd.prog tabG 53 [cA k s t h b,xA o x y z i] (I (Conf.fits k o x y z i)) :=
  pc_callsG (ys:=[.agg #[.int .i64 k,.int .i64 s,.int .i64 t,.int .i64 h,.int .i64 b],.agg #[.int .i64 o,.string x,.string y,.string z,.int .i64 i]]) rfl rfl fun w hT=>(Conf.Fits_calls k s t h b o x y z i w hT hk ho hi (by rw [maxLenE];exact hx) (by rw [maxLenE];exact hy) (by rw [maxLenE];exact hz)).mono fun e w' h=>h
def fOk (k s t h b o:Int) (x y z:ByteArray) (i:Int):Bool:=decide (Conf.mayE k s t h b=0) && decide (Conf.fits k o x y z i=0)
theorem fits25 (k s t h b o:Int) (x y z:ByteArray) (i:Int) (hk:i64 k) (hs:i64 s) (ht:i64 t) (hh:i64 h) (hb:i64 b) (ho:i64 o) (hi:i64 i) (hx:x.size≤9223372036854775807) (hy:y.size≤9223372036854775807) (hz:z.size≤9223372036854775807) (r:Bool) (hr:r=fOk k s t h b o x y z i):PC Tryd.prog tabG 25 [cA k s t h b,xA o x y z i] (Bo r):=by
  have c1:=may52 tabG k s t h b hk hs ht hh hb
  have c2:=fits53 k s t h b o x y z i hk ho hi hx hy hz
  unfold fOk at hr
  generalize Conf.mayE k s t h b=m at *
  generalize Conf.fits k o x y z i=n at *
  by_cases hm:m=0
  · subst hm
    by_cases hn:n=0
    · subst hn
      obtain rfl:r=true:=by simpa using hr
      refine pc_ofV cop25 ?_
      repeat' ((conv=>whnf);first|(with_reducible refine SeqP.go ?_)|((with_reducible refine ObD.mk ?_ ?_);(focus (first|rfl|(simp;done))))|((with_reducible refine ObN.mk ?_ ?_);(focus exact zN))|(with_reducible refine ObT.tt ?_)|((with_reducible refine ObB.yes ?_ ?_);(focus (first|assumption|(with_reducible rfl)|omega)))|((with_reducible refine (?_:ObR _ _ _));(first|(refine ObR.mk _ (by assumption) ?_)|(refine ObR.mk _ (by with_reducible rfl) ?_)|(refine ObR.map zX (fun x hx=>?_))|(refine ObR.mk _ rfl ?_)))|((with_reducible refine ObC.f 52 ?_);(first|(with_reducible refine ObC.mk _ (c1) ?_)|(refine ObC.mk _ (c1) ?_)))|((with_reducible refine ObC.f 53 ?_);(first|(with_reducible refine ObC.mk _ (c2) ?_)|(refine ObC.mk _ (c2) ?_)))|((with_reducible refine ObEq.mk ?_);(focus (first|rfl|assumption))))
    · obtain rfl : r = false := by simpa [hn] using hr
      refine pc_ofV cop25 ?_
      repeat' ((conv=>whnf);first|(with_reducible refine SeqP.go ?_)|((with_reducible refine ObD.mk ?_ ?_);(focus (first|rfl|(simp;done))))|((with_reducible refine ObN.mk ?_ ?_);(focus exact zN))|(with_reducible refine ObT.tt ?_)|((with_reducible refine ObB.yes ?_ ?_);(focus (first|assumption|(with_reducible rfl)|omega)))|((with_reducible refine ObB.no ?_ ?_);(focus (first|assumption|omega)))|((with_reducible refine (?_:ObR _ _ _));(first|(refine ObR.mk _ (by assumption) ?_)|(refine ObR.mk _ (by with_reducible rfl) ?_)|(refine ObR.map zX (fun x hx=>?_))|(refine ObR.mk _ rfl ?_)))|((with_reducible refine ObC.f 52 ?_);(first|(with_reducible refine ObC.mk _ (c1) ?_)|(refine ObC.mk _ (c1) ?_)))|((with_reducible refine ObC.f 53 ?_);(first|(with_reducible refine ObC.mk _ (c2) ?_)|(refine ObC.mk _ (c2) ?_)))|((with_reducible refine ObEq.mk ?_);(focus (first|rfl|assumption))))
  · obtain rfl : r = false := by simpa [hm] using hr
    refine pc_ofV cop25 ?_
    repeat' ((conv=>whnf);first|(with_reducible refine SeqP.go ?_)|((with_reducible refine ObD.mk ?_ ?_);(focus (first|rfl|(simp;done))))|((with_reducible refine ObN.mk ?_ ?_);(focus exact zN))|(with_reducible refine ObT.ff ?_)|((with_reducible refine ObB.no ?_ ?_);(focus (first|assumption|omega)))|((with_reducible refine (?_:ObR _ _ _));(first|(refine ObR.mk _ (by assumption) ?_)|(refine ObR.mk _ (by with_reducible rfl) ?_)|(refine ObR.map zX (fun x hx=>?_))|(refine ObR.mk _ rfl ?_)))|((with_reducible refine ObC.f 52 ?_);(first|(with_reducible refine ObC.mk _ (c1) ?_)|(refine ObC.mk _ (c1) ?_)))|((with_reducible refine ObEq.mk ?_);(focus (first|rfl|assumption))))
theorem isOp57 (G:Nat→AV) (o:Int) (ho:i64 o):PC Tryd.prog G 57 [I o] (Bo (decide (1≤o∧o≤13))) :=
  pc_calls (ys:=[.int .i64 o]) rfl rfl fun w=>(Conf.isOp_calls o w ho).mono fun e w' h=>h.fresh
theorem held28 (o:Int) (ho:i64 o):PC Tryd.prog tabG 28 [I o] (Bo (Conf.opB o 3)):=by
  have c:=isOp57 tabG o ho
  by_cases h:1≤o∧o≤13
  · rw [decide_eq_true h] at c
    obtain rfl|rfl|rfl|rfl|rfl|rfl|rfl|rfl|rfl|rfl|rfl|rfl|rfl:o=1∨o=2∨o=3∨o=4∨o=5∨o=6∨o=7∨o=8∨o=9∨o=10∨o=11∨o=12∨o=13:=by omega
    all_goals
      refine pc_ofV cop28 ?_
      repeat' ((conv=>whnf);first|(with_reducible refine SeqP.go ?_)|(with_reducible refine ObT.tt ?_)|((with_reducible refine ObX.mk _ rfl ?_ ?_);(focus exact zX))|((with_reducible refine (?_:ObR _ _ _));(first|(refine ObR.mk _ (by assumption) ?_)|(refine ObR.mk _ (by with_reducible rfl) ?_)|(refine ObR.map zX (fun x hx=>?_))|(refine ObR.mk _ rfl ?_)))|((with_reducible refine ObC.f 57 ?_);(first|(with_reducible refine ObC.mk _ (c) ?_)|(refine ObC.mk _ (c) ?_)))|((with_reducible refine ObEq.mk ?_);(focus (first|rfl|assumption))))
  · have e : Conf.opB o 3 = false := by unfold Conf.opB; rw [if_neg h]
    rw [decide_eq_false h] at c
    rw [e]
    refine pc_ofV cop28 ?_
    repeat' ((conv=>whnf);first|(with_reducible refine SeqP.go ?_)|(with_reducible refine ObT.ff ?_)|((with_reducible refine ObC.f 57 ?_);(first|(with_reducible refine ObC.mk _ (c) ?_)|(refine ObC.mk _ (c) ?_)))|((with_reducible refine ObEq.mk ?_);(focus (first|rfl|assumption))))
theorem got30 (G:Nat→AV) (l:List Pr7.Pr) (k v:ByteArray) (h:Bool) (c:PC Tryd.prog G 37 [.sl 2 (l.map Pr7.pA),S k] (.tup [S v,Bo h])):PC Tryd.prog G 30 [.sl 2 (l.map Pr7.pA),S k] (aA 0 h ⟨#[]⟩ v 0):=by
  refine pc_ofV cop30 ?_
  repeat' ((conv=>whnf);first|(with_reducible refine SeqP.go ?_)|((with_reducible refine ObD.mk ?_ ?_);(focus (first|rfl|(simp;done))))|((with_reducible refine ObN.mk ?_ ?_);(focus exact zN))|((with_reducible refine (?_:ObU _ _));(refine ObU.mk _ zU ?_))|((with_reducible refine (?_:ObR _ _ _));(first|(refine ObR.mk _ (by assumption) ?_)|(refine ObR.mk _ (by with_reducible rfl) ?_)|(refine ObR.map zX (fun x hx=>?_))|(refine ObR.mk _ rfl ?_)))|((with_reducible refine ObC.f 37 ?_);(first|(with_reducible refine ObC.mk _ (c) ?_)|(refine ObC.mk _ (c) ?_)))|((with_reducible refine ObEq.mk ?_);(focus (first|rfl|assumption))))
end Go.Proofs.YtgpldekhcojimaaDoor.Sim
namespace Go.Proofs.YtgpldekhcojimaaDoor.Sim.Pr7
open Go.RowKit
set_option maxRecDepth 100000
structure Okl (l:List Pr):Prop where
  len:l.length≤1000000
  sz:∀ p ∈ l,p.1.size≤9223372036854775807∧p.2.size≤9223372036854775807
theorem Okl.k {l:List Pr} (h:Okl l) {k:Nat} (hk:k < l.length):(l[k]).1.size≤9223372036854775807:=(h.sz _ (List.getElem_mem hk)).1
theorem slt_idx:∀ {l:List Pr},SLt l↔∀ i (h:i+1 < l.length),cB (l[i]).1 (l[i+1]).1 < 0
  | []=>by simp [SLt]
  | [p]=>by simp [SLt]
  | p::q::l=>by
    have ih:=slt_idx (l:=q::l)
    constructor
    · intro h i hi
      obtain ⟨h1,h2⟩:=List.pairwise_cons.1 h
      cases i with
      | zero=>exact h1 q (by simp)
      | succ i=>exact ih.1 h2 i (by simpa using hi)
    · intro h
      have h2:SLt (q::l):=ih.2 fun i hi=>h (i+1) (by simpa using hi)
      refine List.pairwise_cons.2 ⟨fun x hx=>?_,h2⟩
      have h0:cB p.1 q.1 < 0:=h 0 (by simp)
      rcases List.mem_cons.1 hx with rfl|hx
      · exact h0
      · have := (List.pairwise_cons.1 h2).1 x hx
        exact cB_lt1 h0 (by omega)
theorem is_false {l:List Pr} {r:Bool} (hr:r=true↔SLt l) {i:Nat} (h:i+1 < l.length) (hc:0≤cB (l[i]).1 (l[i+1]).1):r=false:=by
  cases r with
  | false=>rfl
  | true=>have:=slt_idx.1 (hr.1 rfl) i h;omega
set_option maxHeartbeats 4000000 in
theorem is11 (G:Nat→AV) (l:List Pr) (hl:Okl l) (r:Bool) (hr:r=true↔SLt l):PC Tryd.prog G 78 [.sl 2 (l.map pA)] (Bo r):=by
  have hlen:=hl.len
  refine pc_of cop78 ?_
  show W _ _ _ _ ⟨_,_⟩;simp only [A78,List.cons_append,List.nil_append,List.length_cons,List.length_nil,Nat.reduceAdd,Nat.reduceSub,List.replicate]
  repeat (first|with_reducible refine w_seq ?_|with_reducible refine w_reg ?_|with_reducible refine w_block ?_|with_reducible refine ws_nil ?_|with_reducible refine q_then ?_|((first|with_reducible refine ks fun K hK=>?_|with_reducible refine kd fun K hK=>?_|with_reducible refine kc fun K hK2 hK hK3=>?_);simp (disch:=omega) only [bg0,bg1,bg2,bg3,bg4,stepO,rsAs,eff,AX.ev,St.put,binA,conc,ap1,ofVal,Int.reduceTMod,Int.reduceTDiv,reduceCtorEq,fillA,AV.cells,AV.fine,AV.one,Nat.reduceAdd,Nat.reduceSub,Nat.reduceMul,Nat.reduceLT,Nat.reduceLeDiff,Int.reduceLT,Int.reduceLE,Int.reduceAdd,Int.reduceSub,Int.reduceNeg,Int.reduceMul,Int.reduceEq,Int.reduceToNat,nilA,moveA,live,loadA,rdA,storeA,wrA,intA,elemA,lenA,appA,srcA,isPtr,isNilPtr,partA,resOf,sliceA,cut,id,ap2,reduceIte,concs,chkB,geB,AOp.cls,AOp.xs,ltB,ltC,Nat.reduceBEq,Option.toList,List.cons_append,decide_eq_true,decide_eq_false,if_pos,if_neg,List.length_map,pA_at,List.cons_append,bVb,bVn,eq_self,Bool.and_self,BEq.rfl,not_true_eq_false];(first|((with_reducible refine hK _ ?_);clear hK K)|((with_reducible refine hK ?_);clear hK hK3 K hK2)|((with_reducible refine hK3 ?_);clear hK hK3 K hK2))))
  refine w_loop_m [2,3,7,8,9,10,11,12,13,14,15,16,17,18,19,20,21,22,23] (fun k v H=>v 7=I k∧H=[]∧∀ i (h:i+1 < l.length),i < k→cB (l[i]).1 (l[i+1]).1 < 0) (l.length - 1) ⟨rfl,rfl,fun i h hi=>absurd hi (Nat.not_lt_zero _)⟩ ?_ ?_
  · rintro k v H hk ⟨h7, rfl, hi⟩
    simp only [mix,mix_nil,mix_end,mix_skp,Nat.reduceEqDiff,Nat.reduceLeDiff,reduceCtorEq,if_true,if_false,reduceIte,Nat.reduceAdd,h7]
    have h1:=hl.k (k:=k) (by omega)
    have h2:=hl.k (k:=k+1) (by omega)
    by_cases hc:0≤cB (l[k]).1 (l[k+1]).1
    · obtain rfl := is_false hr (by omega) hc
      repeat (first|with_reducible refine w_seq ?_|with_reducible refine w_reg ?_|with_reducible refine w_draw ?_|with_reducible refine w_block ?_|with_reducible refine w_skip ?_|with_reducible refine ws_nil ?_|with_reducible refine wd_nil ?_|with_reducible refine q_then ?_|with_reducible refine q_block_r ?_|with_reducible refine w_ret ?_|with_reducible refine q_then_r ?_|((first|with_reducible refine ks fun K hK=>?_|with_reducible refine kd fun K hK=>?_|with_reducible refine kc fun K hK2 hK hK3=>?_);simp (disch:=omega) only [bg0,bg1,bg2,bg3,bg4,stepO,rsAs,eff,AX.ev,St.put,binA,conc,ap1,ofVal,Int.reduceTMod,Int.reduceTDiv,reduceCtorEq,fillA,AV.cells,AV.fine,AV.one,Nat.reduceAdd,Nat.reduceSub,Nat.reduceMul,Nat.reduceLT,Nat.reduceLeDiff,Int.reduceLT,Int.reduceLE,Int.reduceAdd,Int.reduceSub,Int.reduceNeg,Int.reduceMul,Int.reduceEq,Int.reduceToNat,nilA,moveA,live,loadA,rdA,storeA,wrA,intA,elemA,lenA,appA,srcA,isPtr,isNilPtr,partA,resOf,sliceA,cut,id,ap2,reduceIte,concs,chkB,geB,AOp.cls,AOp.xs,ltB,ltC,Nat.reduceBEq,Option.toList,List.cons_append,decide_eq_true,decide_eq_false,if_pos,if_neg,List.length_map,pA_at,List.cons_append,bVb,bVn,eq_self,Bool.and_self,BEq.rfl,not_true_eq_false,hc];(first|((with_reducible refine hK _ ?_);clear hK K)|((with_reducible refine hK ?_);clear hK hK3 K hK2)|((with_reducible refine hK3 ?_);clear hK hK3 K hK2)))|((first|((with_reducible refine kpd 44 ?_ ?_ ?_ ?_ ?_);rotate_left 1));(focus (simp (disch:=omega) only [bg0,bg1,bg2,bg3,bg4,stepO,rsAs,eff,AX.ev,St.put,binA,conc,ap1,ofVal,Int.reduceTMod,Int.reduceTDiv,reduceCtorEq,fillA,AV.cells,AV.fine,AV.one,Nat.reduceAdd,Nat.reduceSub,Nat.reduceMul,Nat.reduceLT,Nat.reduceLeDiff,Int.reduceLT,Int.reduceLE,Int.reduceAdd,Int.reduceSub,Int.reduceNeg,Int.reduceMul,Int.reduceEq,Int.reduceToNat,nilA,moveA,live,loadA,rdA,storeA,wrA,intA,elemA,lenA,appA,srcA,isPtr,isNilPtr,partA,resOf,sliceA,cut,id,ap2,reduceIte,concs,chkB,geB,AOp.cls,AOp.xs,ltB,ltC,Nat.reduceBEq,Option.toList,List.cons_append,decide_eq_true,decide_eq_false,if_pos,if_neg,List.length_map,pA_at,List.cons_append,bVb,bVn,eq_self,Bool.and_self,BEq.rfl,not_true_eq_false,hc];try rfl));(first|(rfl;exact (by refine cmpP G _ _ ?_ ?_<;>assumption))))|((first|with_reducible refine ret_h fun K hK=>?_|with_reducible refine ret_hh rfl fun K hK=>?_|with_reducible refine ret_pp fun K hK=>?_);simp (disch:=omega) only [bg0,bg1,bg2,bg3,bg4,stepO,rsAs,eff,AX.ev,St.put,binA,conc,ap1,ofVal,Int.reduceTMod,Int.reduceTDiv,reduceCtorEq,fillA,AV.cells,AV.fine,AV.one,Nat.reduceAdd,Nat.reduceSub,Nat.reduceMul,Nat.reduceLT,Nat.reduceLeDiff,Int.reduceLT,Int.reduceLE,Int.reduceAdd,Int.reduceSub,Int.reduceNeg,Int.reduceMul,Int.reduceEq,Int.reduceToNat,nilA,moveA,live,loadA,rdA,storeA,wrA,intA,elemA,lenA,appA,srcA,isPtr,isNilPtr,partA,resOf,sliceA,cut,id,ap2,reduceIte,concs,chkB,geB,AOp.cls,AOp.xs,ltB,ltC,Nat.reduceBEq,Option.toList,List.cons_append,decide_eq_true,decide_eq_false,if_pos,if_neg,List.length_map,pA_at,List.cons_append,bVb,bVn,eq_self,Bool.and_self,BEq.rfl,not_true_eq_false,hc];(first|((with_reducible refine hK _ ?_ ?_ ?_ ?_);rotate_left 2;rfl;rfl)|((with_reducible refine hK _ ?_);rfl))))
    · repeat (first|with_reducible refine w_seq ?_|with_reducible refine w_reg ?_|with_reducible refine w_draw ?_|with_reducible refine w_block ?_|with_reducible refine w_skip ?_|with_reducible refine ws_nil ?_|with_reducible refine wd_nil ?_|with_reducible refine q_then ?_|with_reducible refine q_block_n ?_|((first|with_reducible refine ks fun K hK=>?_|with_reducible refine kd fun K hK=>?_|with_reducible refine kc fun K hK2 hK hK3=>?_);simp (disch:=omega) only [bg0,bg1,bg2,bg3,bg4,stepO,rsAs,eff,AX.ev,St.put,binA,conc,ap1,ofVal,Int.reduceTMod,Int.reduceTDiv,reduceCtorEq,fillA,AV.cells,AV.fine,AV.one,Nat.reduceAdd,Nat.reduceSub,Nat.reduceMul,Nat.reduceLT,Nat.reduceLeDiff,Int.reduceLT,Int.reduceLE,Int.reduceAdd,Int.reduceSub,Int.reduceNeg,Int.reduceMul,Int.reduceEq,Int.reduceToNat,nilA,moveA,live,loadA,rdA,storeA,wrA,intA,elemA,lenA,appA,srcA,isPtr,isNilPtr,partA,resOf,sliceA,cut,id,ap2,reduceIte,concs,chkB,geB,AOp.cls,AOp.xs,ltB,ltC,Nat.reduceBEq,Option.toList,List.cons_append,decide_eq_true,decide_eq_false,if_pos,if_neg,List.length_map,pA_at,List.cons_append,bVb,bVn,eq_self,Bool.and_self,BEq.rfl,not_true_eq_false,hc];(first|((with_reducible refine hK _ ?_);clear hK K)|((with_reducible refine hK ?_);clear hK hK3 K hK2)|((with_reducible refine hK3 ?_);clear hK hK3 K hK2)))|((first|((with_reducible refine kpd 44 ?_ ?_ ?_ ?_ ?_);rotate_left 1));(focus (simp (disch:=omega) only [bg0,bg1,bg2,bg3,bg4,stepO,rsAs,eff,AX.ev,St.put,binA,conc,ap1,ofVal,Int.reduceTMod,Int.reduceTDiv,reduceCtorEq,fillA,AV.cells,AV.fine,AV.one,Nat.reduceAdd,Nat.reduceSub,Nat.reduceMul,Nat.reduceLT,Nat.reduceLeDiff,Int.reduceLT,Int.reduceLE,Int.reduceAdd,Int.reduceSub,Int.reduceNeg,Int.reduceMul,Int.reduceEq,Int.reduceToNat,nilA,moveA,live,loadA,rdA,storeA,wrA,intA,elemA,lenA,appA,srcA,isPtr,isNilPtr,partA,resOf,sliceA,cut,id,ap2,reduceIte,concs,chkB,geB,AOp.cls,AOp.xs,ltB,ltC,Nat.reduceBEq,Option.toList,List.cons_append,decide_eq_true,decide_eq_false,if_pos,if_neg,List.length_map,pA_at,List.cons_append,bVb,bVn,eq_self,Bool.and_self,BEq.rfl,not_true_eq_false,hc];try rfl));(first|(rfl;exact (by refine cmpP G _ _ ?_ ?_<;>assumption)))))
      refine ⟨rfl,rfl,rfl,fun i h hik=>?_⟩
      by_cases hik2:i=k
      · subst hik2;omega
      · exact hi i h (by omega)
  · rintro v H ⟨h7, rfl, hi⟩
    simp only [mix,mix_nil,mix_end,mix_skp,Nat.reduceEqDiff,Nat.reduceLeDiff,reduceCtorEq,if_true,if_false,reduceIte,Nat.reduceAdd,h7]
    obtain rfl:r=true:=hr.2 (slt_idx.2 fun i h=>hi i h (by omega))
    by_cases h0:l.length=0
    all_goals repeat (first|with_reducible refine w_seq ?_|with_reducible refine w_reg ?_|with_reducible refine w_exit ?_|with_reducible refine ws_nil ?_|with_reducible refine q_then ?_|with_reducible refine q_then_x ?_|with_reducible refine q_block_x ?_|with_reducible refine w_ret ?_|((first|with_reducible refine ks fun K hK=>?_|with_reducible refine kd fun K hK=>?_|with_reducible refine kc fun K hK2 hK hK3=>?_);simp (disch:=omega) only [bg0,bg1,bg2,bg3,bg4,stepO,rsAs,eff,AX.ev,St.put,binA,conc,ap1,ofVal,Int.reduceTMod,Int.reduceTDiv,reduceCtorEq,fillA,AV.cells,AV.fine,AV.one,Nat.reduceAdd,Nat.reduceSub,Nat.reduceMul,Nat.reduceLT,Nat.reduceLeDiff,Int.reduceLT,Int.reduceLE,Int.reduceAdd,Int.reduceSub,Int.reduceNeg,Int.reduceMul,Int.reduceEq,Int.reduceToNat,nilA,moveA,live,loadA,rdA,storeA,wrA,intA,elemA,lenA,appA,srcA,isPtr,isNilPtr,partA,resOf,sliceA,cut,id,ap2,reduceIte,concs,chkB,geB,AOp.cls,AOp.xs,ltB,ltC,Nat.reduceBEq,Option.toList,List.cons_append,decide_eq_true,decide_eq_false,if_pos,if_neg,List.length_map,pA_at,List.cons_append,bVb,bVn,eq_self,Bool.and_self,BEq.rfl,not_true_eq_false];(first|((with_reducible refine hK _ ?_);clear hK K)|((with_reducible refine hK ?_);clear hK hK3 K hK2)|((with_reducible refine hK3 ?_);clear hK hK3 K hK2)))|((first|with_reducible refine ret_h fun K hK=>?_|with_reducible refine ret_hh rfl fun K hK=>?_|with_reducible refine ret_pp fun K hK=>?_);simp (disch:=omega) only [bg0,bg1,bg2,bg3,bg4,stepO,rsAs,eff,AX.ev,St.put,binA,conc,ap1,ofVal,Int.reduceTMod,Int.reduceTDiv,reduceCtorEq,fillA,AV.cells,AV.fine,AV.one,Nat.reduceAdd,Nat.reduceSub,Nat.reduceMul,Nat.reduceLT,Nat.reduceLeDiff,Int.reduceLT,Int.reduceLE,Int.reduceAdd,Int.reduceSub,Int.reduceNeg,Int.reduceMul,Int.reduceEq,Int.reduceToNat,nilA,moveA,live,loadA,rdA,storeA,wrA,intA,elemA,lenA,appA,srcA,isPtr,isNilPtr,partA,resOf,sliceA,cut,id,ap2,reduceIte,concs,chkB,geB,AOp.cls,AOp.xs,ltB,ltC,Nat.reduceBEq,Option.toList,List.cons_append,decide_eq_true,decide_eq_false,if_pos,if_neg,List.length_map,pA_at,List.cons_append,bVb,bVn,eq_self,Bool.and_self,BEq.rfl,not_true_eq_false];(first|((with_reducible refine hK _ ?_ ?_ ?_ ?_);rotate_left 2;rfl;rfl)|((with_reducible refine hK _ ?_);rfl))))
set_option maxHeartbeats 4000000 in
theorem last30 (G:Nat→AV) (l:List Pr) (hl:Okl l) (i:Nat) (hi:i < l.length) (r:Bool) (hr:r=true↔fk (l[i]).1 (l.drop (i+1))=[]):PC Tryd.prog G 64 [.sl 2 (l.map pA),I i] (Bo r):=by
  have hlen:=hl.len
  rw [fk_none] at hr
  refine pc_of cop64 ?_
  show W _ _ _ _ ⟨_,_⟩;simp only [A64,List.cons_append,List.nil_append,List.length_cons,List.length_nil,Nat.reduceAdd,Nat.reduceSub,List.replicate]
  repeat (first|with_reducible refine w_seq ?_|with_reducible refine w_reg ?_|with_reducible refine w_block ?_|with_reducible refine ws_nil ?_|with_reducible refine q_then ?_|((first|with_reducible refine ks fun K hK=>?_|with_reducible refine kd fun K hK=>?_|with_reducible refine kc fun K hK2 hK hK3=>?_);simp (disch:=omega) only [bg0,bg1,bg2,bg3,bg4,stepO,rsAs,eff,AX.ev,St.put,binA,conc,ap1,ofVal,Int.reduceTMod,Int.reduceTDiv,reduceCtorEq,fillA,AV.cells,AV.fine,AV.one,Nat.reduceAdd,Nat.reduceSub,Nat.reduceMul,Nat.reduceLT,Nat.reduceLeDiff,Int.reduceLT,Int.reduceLE,Int.reduceAdd,Int.reduceSub,Int.reduceNeg,Int.reduceMul,Int.reduceEq,Int.reduceToNat,nilA,moveA,live,loadA,rdA,storeA,wrA,intA,elemA,lenA,appA,srcA,isPtr,isNilPtr,partA,resOf,sliceA,cut,id,ap2,reduceIte,concs,chkB,geB,AOp.cls,AOp.xs,ltB,ltC,Nat.reduceBEq,Option.toList,List.cons_append,decide_eq_true,decide_eq_false,if_pos,if_neg,List.length_map,pA_at,List.cons_append,bVb,bVn,eq_self,Bool.and_self,BEq.rfl,not_true_eq_false];(first|((with_reducible refine hK _ ?_);clear hK K)|((with_reducible refine hK ?_);clear hK hK3 K hK2)|((with_reducible refine hK3 ?_);clear hK hK3 K hK2))))
  refine w_loop_m [4,5,8,9,10,11,12,13,14,15,16,17,18,19,20,21,22,23,24] (fun k v H=>v 5=I ((i+1+k:Nat):Int)∧H=[]∧∀ j (h:j < l.length),i < j→j < i+1+k→(l[j]).1 ≠ (l[i]).1) (l.length - (i+1)) ⟨rfl,rfl,fun j h h1 h2=>by omega⟩ ?_ ?_
  · rintro k v H hk ⟨h5, rfl, hq⟩
    simp only [mix,mix_nil,mix_end,mix_skp,Nat.reduceEqDiff,Nat.reduceLeDiff,reduceCtorEq,if_true,if_false,reduceIte,Nat.reduceAdd,h5]
    have hk2:i+1+k < l.length:=by omega
    have e2:((i:Int)+1+(k:Int)).toNat=i+1+k:=by omega
    have e3:((i:Int)+1+(k:Int)+1)=((i+1+(k+1):Nat):Int):=by omega
    by_cases hc:(l[i+1+k]).1=(l[i]).1
    · obtain rfl : r = false := by
        cases r with
        | false=>rfl
        | true=>exact absurd hc (hr.1 rfl _ (by rw [List.mem_drop_iff_getElem];exact ⟨k,by omega,rfl⟩))
      repeat (first|with_reducible refine w_seq ?_|with_reducible refine w_reg ?_|with_reducible refine w_draw ?_|with_reducible refine w_block ?_|with_reducible refine w_skip ?_|with_reducible refine ws_nil ?_|with_reducible refine wd_nil ?_|with_reducible refine q_then ?_|with_reducible refine q_block_r ?_|with_reducible refine w_ret ?_|with_reducible refine q_then_r ?_|((first|with_reducible refine ks fun K hK=>?_|with_reducible refine kd fun K hK=>?_|with_reducible refine kc fun K hK2 hK hK3=>?_);simp (disch:=omega) only [bg0,bg1,bg2,bg3,bg4,stepO,rsAs,eff,AX.ev,St.put,binA,conc,ap1,ofVal,Int.reduceTMod,Int.reduceTDiv,reduceCtorEq,fillA,AV.cells,AV.fine,AV.one,Nat.reduceAdd,Nat.reduceSub,Nat.reduceMul,Nat.reduceLT,Nat.reduceLeDiff,Int.reduceLT,Int.reduceLE,Int.reduceAdd,Int.reduceSub,Int.reduceNeg,Int.reduceMul,Int.reduceEq,Int.reduceToNat,nilA,moveA,live,loadA,rdA,storeA,wrA,intA,elemA,lenA,appA,srcA,isPtr,isNilPtr,partA,resOf,sliceA,cut,id,ap2,reduceIte,concs,chkB,geB,AOp.cls,AOp.xs,ltB,ltC,Nat.reduceBEq,Option.toList,List.cons_append,decide_eq_true,decide_eq_false,if_pos,if_neg,List.length_map,pA_at,List.cons_append,bVb,bVn,eq_self,Bool.and_self,BEq.rfl,not_true_eq_false,hc,e2];(first|((with_reducible refine hK _ ?_);clear hK K)|((with_reducible refine hK ?_);clear hK hK3 K hK2)|((with_reducible refine hK3 ?_);clear hK hK3 K hK2)))|((first|with_reducible refine ret_h fun K hK=>?_|with_reducible refine ret_hh rfl fun K hK=>?_|with_reducible refine ret_pp fun K hK=>?_);simp (disch:=omega) only [bg0,bg1,bg2,bg3,bg4,stepO,rsAs,eff,AX.ev,St.put,binA,conc,ap1,ofVal,Int.reduceTMod,Int.reduceTDiv,reduceCtorEq,fillA,AV.cells,AV.fine,AV.one,Nat.reduceAdd,Nat.reduceSub,Nat.reduceMul,Nat.reduceLT,Nat.reduceLeDiff,Int.reduceLT,Int.reduceLE,Int.reduceAdd,Int.reduceSub,Int.reduceNeg,Int.reduceMul,Int.reduceEq,Int.reduceToNat,nilA,moveA,live,loadA,rdA,storeA,wrA,intA,elemA,lenA,appA,srcA,isPtr,isNilPtr,partA,resOf,sliceA,cut,id,ap2,reduceIte,concs,chkB,geB,AOp.cls,AOp.xs,ltB,ltC,Nat.reduceBEq,Option.toList,List.cons_append,decide_eq_true,decide_eq_false,if_pos,if_neg,List.length_map,pA_at,List.cons_append,bVb,bVn,eq_self,Bool.and_self,BEq.rfl,not_true_eq_false,hc,e2];(first|((with_reducible refine hK _ ?_ ?_ ?_ ?_);rotate_left 2;rfl;rfl)|((with_reducible refine hK _ ?_);rfl))))
    · repeat (first|with_reducible refine w_seq ?_|with_reducible refine w_reg ?_|with_reducible refine w_draw ?_|with_reducible refine w_block ?_|with_reducible refine w_skip ?_|with_reducible refine ws_nil ?_|with_reducible refine wd_nil ?_|with_reducible refine q_then ?_|with_reducible refine q_block_n ?_|((first|with_reducible refine ks fun K hK=>?_|with_reducible refine kd fun K hK=>?_|with_reducible refine kc fun K hK2 hK hK3=>?_);simp (disch:=omega) only [bg0,bg1,bg2,bg3,bg4,stepO,rsAs,eff,AX.ev,St.put,binA,conc,ap1,ofVal,Int.reduceTMod,Int.reduceTDiv,reduceCtorEq,fillA,AV.cells,AV.fine,AV.one,Nat.reduceAdd,Nat.reduceSub,Nat.reduceMul,Nat.reduceLT,Nat.reduceLeDiff,Int.reduceLT,Int.reduceLE,Int.reduceAdd,Int.reduceSub,Int.reduceNeg,Int.reduceMul,Int.reduceEq,Int.reduceToNat,nilA,moveA,live,loadA,rdA,storeA,wrA,intA,elemA,lenA,appA,srcA,isPtr,isNilPtr,partA,resOf,sliceA,cut,id,ap2,reduceIte,concs,chkB,geB,AOp.cls,AOp.xs,ltB,ltC,Nat.reduceBEq,Option.toList,List.cons_append,decide_eq_true,decide_eq_false,if_pos,if_neg,List.length_map,pA_at,List.cons_append,bVb,bVn,eq_self,Bool.and_self,BEq.rfl,not_true_eq_false,hc,e2];(first|((with_reducible refine hK _ ?_);clear hK K)|((with_reducible refine hK ?_);clear hK hK3 K hK2)|((with_reducible refine hK3 ?_);clear hK hK3 K hK2))))
      refine ⟨rfl,by simp [at_];omega,rfl,fun j h h1 h2=>?_⟩
      by_cases hj:j=i+1+k
      · subst hj;exact hc
      · exact hq j h h1 (by omega)
  · rintro v H ⟨h5, rfl, hq⟩
    simp only [mix,mix_nil,mix_end,mix_skp,Nat.reduceEqDiff,Nat.reduceLeDiff,reduceCtorEq,if_true,if_false,reduceIte,Nat.reduceAdd,h5]
    obtain rfl:r=true:=hr.2 fun p hp=>by
      obtain ⟨j,hj,rfl⟩:=List.mem_drop_iff_getElem.1 hp
      exact hq _ (by omega) (by omega) (by omega)
    repeat (first|with_reducible refine w_seq ?_|with_reducible refine w_reg ?_|with_reducible refine w_exit ?_|with_reducible refine ws_nil ?_|with_reducible refine q_then ?_|with_reducible refine q_then_x ?_|with_reducible refine q_block_x ?_|with_reducible refine w_ret ?_|((first|with_reducible refine ks fun K hK=>?_|with_reducible refine kd fun K hK=>?_|with_reducible refine kc fun K hK2 hK hK3=>?_);simp (disch:=omega) only [bg0,bg1,bg2,bg3,bg4,stepO,rsAs,eff,AX.ev,St.put,binA,conc,ap1,ofVal,Int.reduceTMod,Int.reduceTDiv,reduceCtorEq,fillA,AV.cells,AV.fine,AV.one,Nat.reduceAdd,Nat.reduceSub,Nat.reduceMul,Nat.reduceLT,Nat.reduceLeDiff,Int.reduceLT,Int.reduceLE,Int.reduceAdd,Int.reduceSub,Int.reduceNeg,Int.reduceMul,Int.reduceEq,Int.reduceToNat,nilA,moveA,live,loadA,rdA,storeA,wrA,intA,elemA,lenA,appA,srcA,isPtr,isNilPtr,partA,resOf,sliceA,cut,id,ap2,reduceIte,concs,chkB,geB,AOp.cls,AOp.xs,ltB,ltC,Nat.reduceBEq,Option.toList,List.cons_append,decide_eq_true,decide_eq_false,if_pos,if_neg,List.length_map,pA_at,List.cons_append,bVb,bVn,eq_self,Bool.and_self,BEq.rfl,not_true_eq_false];(first|((with_reducible refine hK _ ?_);clear hK K)|((with_reducible refine hK ?_);clear hK hK3 K hK2)|((with_reducible refine hK3 ?_);clear hK hK3 K hK2)))|((first|with_reducible refine ret_h fun K hK=>?_|with_reducible refine ret_hh rfl fun K hK=>?_|with_reducible refine ret_pp fun K hK=>?_);simp (disch:=omega) only [bg0,bg1,bg2,bg3,bg4,stepO,rsAs,eff,AX.ev,St.put,binA,conc,ap1,ofVal,Int.reduceTMod,Int.reduceTDiv,reduceCtorEq,fillA,AV.cells,AV.fine,AV.one,Nat.reduceAdd,Nat.reduceSub,Nat.reduceMul,Nat.reduceLT,Nat.reduceLeDiff,Int.reduceLT,Int.reduceLE,Int.reduceAdd,Int.reduceSub,Int.reduceNeg,Int.reduceMul,Int.reduceEq,Int.reduceToNat,nilA,moveA,live,loadA,rdA,storeA,wrA,intA,elemA,lenA,appA,srcA,isPtr,isNilPtr,partA,resOf,sliceA,cut,id,ap2,reduceIte,concs,chkB,geB,AOp.cls,AOp.xs,ltB,ltC,Nat.reduceBEq,Option.toList,List.cons_append,decide_eq_true,decide_eq_false,if_pos,if_neg,List.length_map,pA_at,List.cons_append,bVb,bVn,eq_self,Bool.and_self,BEq.rfl,not_true_eq_false];(first|((with_reducible refine hK _ ?_ ?_ ?_ ?_);rotate_left 2;rfl;rfl)|((with_reducible refine hK _ ?_);rfl))))
theorem same_false {a b:List Pr} {r:Bool} (hr:r=true↔a=b) {k:Nat} (h1:k < a.length) (h2:k < b.length) (h:¬ a[k]=b[k]):r=false:=by
  cases r with
  | false=>rfl
  | true=>obtain rfl:=hr.1 rfl;exact absurd rfl h
theorem pr_ne {p q:Pr} (h:¬ p=q):(decide (p.1=q.1) && decide (p.2=q.2))=false:=by
  cases hq:(decide (p.1=q.1) && decide (p.2=q.2)) with
  | false=>rfl
  | true =>
    simp only [Bool.and_eq_true,decide_eq_true_eq] at hq
    exact absurd (Prod.ext hq.1 hq.2) h
set_option maxHeartbeats 4000000 in
theorem same13 (G:Nat→AV) (a b:List Pr) (ha:a.length≤1000000) (hb:b.length≤1000000) (r:Bool) (hr:r=true↔a=b):PC Tryd.prog G 43 [.sl 2 (a.map pA),.sl 2 (b.map pA)] (Bo r):=by
  refine pc_of cop43 ?_
  show W _ _ _ _ ⟨_,_⟩;simp only [A43,List.cons_append,List.nil_append,List.length_cons,List.length_nil,Nat.reduceAdd,Nat.reduceSub,List.replicate]
  by_cases hn:a.length=b.length
  · repeat (first|with_reducible refine w_seq ?_|with_reducible refine w_reg ?_|with_reducible refine w_block ?_|with_reducible refine w_skip ?_|with_reducible refine ws_nil ?_|with_reducible refine q_then ?_|((first|with_reducible refine ks fun K hK=>?_|with_reducible refine kd fun K hK=>?_|with_reducible refine kc fun K hK2 hK hK3=>?_);simp (disch:=omega) only [bg0,bg1,bg2,bg3,bg4,stepO,rsAs,eff,AX.ev,St.put,binA,conc,ap1,ofVal,Int.reduceTMod,Int.reduceTDiv,reduceCtorEq,fillA,AV.cells,AV.fine,AV.one,Nat.reduceAdd,Nat.reduceSub,Nat.reduceMul,Nat.reduceLT,Nat.reduceLeDiff,Int.reduceLT,Int.reduceLE,Int.reduceAdd,Int.reduceSub,Int.reduceNeg,Int.reduceMul,Int.reduceEq,Int.reduceToNat,nilA,moveA,live,loadA,rdA,storeA,wrA,intA,elemA,lenA,appA,srcA,isPtr,isNilPtr,partA,resOf,sliceA,cut,id,ap2,reduceIte,concs,chkB,geB,AOp.cls,AOp.xs,ltB,ltC,Nat.reduceBEq,Option.toList,List.cons_append,decide_eq_true,decide_eq_false,if_pos,if_neg,List.length_map,pA_at,List.cons_append,bVb,bVn,eq_self,Bool.and_self,BEq.rfl,not_true_eq_false];(first|((with_reducible refine hK _ ?_);clear hK K)|((with_reducible refine hK ?_);clear hK hK3 K hK2)|((with_reducible refine hK3 ?_);clear hK hK3 K hK2))))
    refine w_loop_m [4,5,11,12,13,14,15,16,17,18,19,20,21,22,23,24,25] (fun k v H=>v 5=I k∧H=[]∧a.take k=b.take k) a.length ⟨rfl,rfl,rfl⟩ ?_ ?_
    · rintro k v H hk ⟨h5, rfl, hq⟩
      simp only [mix,mix_nil,mix_end,mix_skp,Nat.reduceEqDiff,Nat.reduceLeDiff,reduceCtorEq,if_true,if_false,reduceIte,Nat.reduceAdd,h5]
      have hk3:k < b.length:=by omega
      by_cases he:a[k]=b[k]
      · have q1 : a[k].1 = b[k].1 := by rw [he]
        have q2:a[k].2=b[k].2:=by rw [he]
        repeat (first|with_reducible refine w_seq ?_|with_reducible refine w_reg ?_|with_reducible refine w_draw ?_|with_reducible refine w_block ?_|with_reducible refine w_skip ?_|with_reducible refine ws_nil ?_|with_reducible refine wd_nil ?_|with_reducible refine q_then ?_|with_reducible refine q_block_n ?_|((first|with_reducible refine ks fun K hK=>?_|with_reducible refine kd fun K hK=>?_|with_reducible refine kc fun K hK2 hK hK3=>?_);simp (disch:=omega) only [bg0,bg1,bg2,bg3,bg4,stepO,rsAs,eff,AX.ev,St.put,binA,conc,ap1,ofVal,Int.reduceTMod,Int.reduceTDiv,reduceCtorEq,fillA,AV.cells,AV.fine,AV.one,Nat.reduceAdd,Nat.reduceSub,Nat.reduceMul,Nat.reduceLT,Nat.reduceLeDiff,Int.reduceLT,Int.reduceLE,Int.reduceAdd,Int.reduceSub,Int.reduceNeg,Int.reduceMul,Int.reduceEq,Int.reduceToNat,nilA,moveA,live,loadA,rdA,storeA,wrA,intA,elemA,lenA,appA,srcA,isPtr,isNilPtr,partA,resOf,sliceA,cut,id,ap2,reduceIte,concs,chkB,geB,AOp.cls,AOp.xs,ltB,ltC,Nat.reduceBEq,Option.toList,List.cons_append,decide_eq_true,decide_eq_false,if_pos,if_neg,List.length_map,pA_at,List.cons_append,bVb,bVn,eq_self,Bool.and_self,BEq.rfl,not_true_eq_false,q1,q2];(first|((with_reducible refine hK _ ?_);clear hK K)|((with_reducible refine hK ?_);clear hK hK3 K hK2)|((with_reducible refine hK3 ?_);clear hK hK3 K hK2))))
        refine ⟨rfl,rfl,rfl,?_⟩
        rw [List.take_add_one,List.take_add_one,List.getElem?_eq_getElem hk,List.getElem?_eq_getElem hk3,hq,he]
      · obtain rfl := same_false hr hk hk3 he
        have hb:=pr_ne he
        repeat (first|with_reducible refine w_seq ?_|with_reducible refine w_reg ?_|with_reducible refine w_draw ?_|with_reducible refine w_block ?_|with_reducible refine w_skip ?_|with_reducible refine ws_nil ?_|with_reducible refine wd_nil ?_|with_reducible refine q_then ?_|with_reducible refine q_block_r ?_|with_reducible refine w_ret ?_|with_reducible refine q_then_r ?_|((first|with_reducible refine ks fun K hK=>?_|with_reducible refine kd fun K hK=>?_|with_reducible refine kc fun K hK2 hK hK3=>?_);simp (disch:=omega) only [bg0,bg1,bg2,bg3,bg4,stepO,rsAs,eff,AX.ev,St.put,binA,conc,ap1,ofVal,Int.reduceTMod,Int.reduceTDiv,reduceCtorEq,fillA,AV.cells,AV.fine,AV.one,Nat.reduceAdd,Nat.reduceSub,Nat.reduceMul,Nat.reduceLT,Nat.reduceLeDiff,Int.reduceLT,Int.reduceLE,Int.reduceAdd,Int.reduceSub,Int.reduceNeg,Int.reduceMul,Int.reduceEq,Int.reduceToNat,nilA,moveA,live,loadA,rdA,storeA,wrA,intA,elemA,lenA,appA,srcA,isPtr,isNilPtr,partA,resOf,sliceA,cut,id,ap2,reduceIte,concs,chkB,geB,AOp.cls,AOp.xs,ltB,ltC,Nat.reduceBEq,Option.toList,List.cons_append,decide_eq_true,decide_eq_false,if_pos,if_neg,List.length_map,pA_at,List.cons_append,bVb,bVn,eq_self,Bool.and_self,BEq.rfl,not_true_eq_false,hb];(first|((with_reducible refine hK _ ?_);clear hK K)|((with_reducible refine hK ?_);clear hK hK3 K hK2)|((with_reducible refine hK3 ?_);clear hK hK3 K hK2)))|((first|with_reducible refine ret_h fun K hK=>?_|with_reducible refine ret_hh rfl fun K hK=>?_|with_reducible refine ret_pp fun K hK=>?_);simp (disch:=omega) only [bg0,bg1,bg2,bg3,bg4,stepO,rsAs,eff,AX.ev,St.put,binA,conc,ap1,ofVal,Int.reduceTMod,Int.reduceTDiv,reduceCtorEq,fillA,AV.cells,AV.fine,AV.one,Nat.reduceAdd,Nat.reduceSub,Nat.reduceMul,Nat.reduceLT,Nat.reduceLeDiff,Int.reduceLT,Int.reduceLE,Int.reduceAdd,Int.reduceSub,Int.reduceNeg,Int.reduceMul,Int.reduceEq,Int.reduceToNat,nilA,moveA,live,loadA,rdA,storeA,wrA,intA,elemA,lenA,appA,srcA,isPtr,isNilPtr,partA,resOf,sliceA,cut,id,ap2,reduceIte,concs,chkB,geB,AOp.cls,AOp.xs,ltB,ltC,Nat.reduceBEq,Option.toList,List.cons_append,decide_eq_true,decide_eq_false,if_pos,if_neg,List.length_map,pA_at,List.cons_append,bVb,bVn,eq_self,Bool.and_self,BEq.rfl,not_true_eq_false,hb];(first|((with_reducible refine hK _ ?_ ?_ ?_ ?_);rotate_left 2;rfl;rfl)|((with_reducible refine hK _ ?_);rfl))))
    · rintro v H ⟨h5, rfl, hq⟩
      simp only [mix,mix_nil,mix_end,mix_skp,Nat.reduceEqDiff,Nat.reduceLeDiff,reduceCtorEq,if_true,if_false,reduceIte,Nat.reduceAdd,h5]
      obtain rfl:r=true:=hr.2 (by rwa [List.take_length,hn,List.take_length] at hq)
      repeat (first|with_reducible refine w_seq ?_|with_reducible refine w_reg ?_|with_reducible refine w_exit ?_|with_reducible refine ws_nil ?_|with_reducible refine q_then ?_|with_reducible refine q_then_x ?_|with_reducible refine q_block_x ?_|with_reducible refine w_ret ?_|((first|with_reducible refine ks fun K hK=>?_|with_reducible refine kd fun K hK=>?_|with_reducible refine kc fun K hK2 hK hK3=>?_);simp (disch:=omega) only [bg0,bg1,bg2,bg3,bg4,stepO,rsAs,eff,AX.ev,St.put,binA,conc,ap1,ofVal,Int.reduceTMod,Int.reduceTDiv,reduceCtorEq,fillA,AV.cells,AV.fine,AV.one,Nat.reduceAdd,Nat.reduceSub,Nat.reduceMul,Nat.reduceLT,Nat.reduceLeDiff,Int.reduceLT,Int.reduceLE,Int.reduceAdd,Int.reduceSub,Int.reduceNeg,Int.reduceMul,Int.reduceEq,Int.reduceToNat,nilA,moveA,live,loadA,rdA,storeA,wrA,intA,elemA,lenA,appA,srcA,isPtr,isNilPtr,partA,resOf,sliceA,cut,id,ap2,reduceIte,concs,chkB,geB,AOp.cls,AOp.xs,ltB,ltC,Nat.reduceBEq,Option.toList,List.cons_append,decide_eq_true,decide_eq_false,if_pos,if_neg,List.length_map,pA_at,List.cons_append,bVb,bVn,eq_self,Bool.and_self,BEq.rfl,not_true_eq_false];(first|((with_reducible refine hK _ ?_);clear hK K)|((with_reducible refine hK ?_);clear hK hK3 K hK2)|((with_reducible refine hK3 ?_);clear hK hK3 K hK2)))|((first|with_reducible refine ret_h fun K hK=>?_|with_reducible refine ret_hh rfl fun K hK=>?_|with_reducible refine ret_pp fun K hK=>?_);simp (disch:=omega) only [bg0,bg1,bg2,bg3,bg4,stepO,rsAs,eff,AX.ev,St.put,binA,conc,ap1,ofVal,Int.reduceTMod,Int.reduceTDiv,reduceCtorEq,fillA,AV.cells,AV.fine,AV.one,Nat.reduceAdd,Nat.reduceSub,Nat.reduceMul,Nat.reduceLT,Nat.reduceLeDiff,Int.reduceLT,Int.reduceLE,Int.reduceAdd,Int.reduceSub,Int.reduceNeg,Int.reduceMul,Int.reduceEq,Int.reduceToNat,nilA,moveA,live,loadA,rdA,storeA,wrA,intA,elemA,lenA,appA,srcA,isPtr,isNilPtr,partA,resOf,sliceA,cut,id,ap2,reduceIte,concs,chkB,geB,AOp.cls,AOp.xs,ltB,ltC,Nat.reduceBEq,Option.toList,List.cons_append,decide_eq_true,decide_eq_false,if_pos,if_neg,List.length_map,pA_at,List.cons_append,bVb,bVn,eq_self,Bool.and_self,BEq.rfl,not_true_eq_false];(first|((with_reducible refine hK _ ?_ ?_ ?_ ?_);rotate_left 2;rfl;rfl)|((with_reducible refine hK _ ?_);rfl))))
  · obtain rfl : r = false := by
      cases r with
      | false=>rfl
      | true=>exact absurd (by rw [hr.1 rfl]) hn
    repeat (first|with_reducible refine w_seq ?_|with_reducible refine w_reg ?_|with_reducible refine ws_nil ?_|with_reducible refine q_then ?_|with_reducible refine w_ret ?_|with_reducible refine q_then_r ?_|((first|with_reducible refine ks fun K hK=>?_|with_reducible refine kd fun K hK=>?_|with_reducible refine kc fun K hK2 hK hK3=>?_);simp (disch:=omega) only [bg0,bg1,bg2,bg3,bg4,stepO,rsAs,eff,AX.ev,St.put,binA,conc,ap1,ofVal,Int.reduceTMod,Int.reduceTDiv,reduceCtorEq,fillA,AV.cells,AV.fine,AV.one,Nat.reduceAdd,Nat.reduceSub,Nat.reduceMul,Nat.reduceLT,Nat.reduceLeDiff,Int.reduceLT,Int.reduceLE,Int.reduceAdd,Int.reduceSub,Int.reduceNeg,Int.reduceMul,Int.reduceEq,Int.reduceToNat,nilA,moveA,live,loadA,rdA,storeA,wrA,intA,elemA,lenA,appA,srcA,isPtr,isNilPtr,partA,resOf,sliceA,cut,id,ap2,reduceIte,concs,chkB,geB,AOp.cls,AOp.xs,ltB,ltC,Nat.reduceBEq,Option.toList,List.cons_append,decide_eq_true,decide_eq_false,if_pos,if_neg,List.length_map,pA_at,List.cons_append,bVb,bVn,eq_self,Bool.and_self,BEq.rfl,not_true_eq_false];(first|((with_reducible refine hK _ ?_);clear hK K)|((with_reducible refine hK ?_);clear hK hK3 K hK2)|((with_reducible refine hK3 ?_);clear hK hK3 K hK2)))|((first|with_reducible refine ret_h fun K hK=>?_|with_reducible refine ret_hh rfl fun K hK=>?_|with_reducible refine ret_pp fun K hK=>?_);simp (disch:=omega) only [bg0,bg1,bg2,bg3,bg4,stepO,rsAs,eff,AX.ev,St.put,binA,conc,ap1,ofVal,Int.reduceTMod,Int.reduceTDiv,reduceCtorEq,fillA,AV.cells,AV.fine,AV.one,Nat.reduceAdd,Nat.reduceSub,Nat.reduceMul,Nat.reduceLT,Nat.reduceLeDiff,Int.reduceLT,Int.reduceLE,Int.reduceAdd,Int.reduceSub,Int.reduceNeg,Int.reduceMul,Int.reduceEq,Int.reduceToNat,nilA,moveA,live,loadA,rdA,storeA,wrA,intA,elemA,lenA,appA,srcA,isPtr,isNilPtr,partA,resOf,sliceA,cut,id,ap2,reduceIte,concs,chkB,geB,AOp.cls,AOp.xs,ltB,ltC,Nat.reduceBEq,Option.toList,List.cons_append,decide_eq_true,decide_eq_false,if_pos,if_neg,List.length_map,pA_at,List.cons_append,bVb,bVn,eq_self,Bool.and_self,BEq.rfl,not_true_eq_false];(first|((with_reducible refine hK _ ?_ ?_ ?_ ?_);rotate_left 2;rfl;rfl)|((with_reducible refine hK _ ?_);rfl))))
end Go.Proofs.YtgpldekhcojimaaDoor.Sim.Pr7
namespace Go.Proofs.YtgpldekhcojimaaDoor.Sim.Pr7
open Go.RowKit
set_option maxRecDepth 100000
theorem set_pA {C:List Pr} {p:Nat} {x:Pr}:(C.map pA).set p (.agg [S x.1,S x.2])=(C.set p x).map pA:=by
  rw [List.map_set];rfl
def px (D:List Pr) (f:Nat→Nat):List Pr:=(List.range D.length).map fun x=>D.getD (f x) default
theorem px_len {D:List Pr} {f:Nat→Nat}:(px D f).length=D.length:=by simp [px]
theorem px_at {D:List Pr} {f:Nat→Nat} {x:Nat}:(px D f)[x]? = if x < D.length then some (D.getD (f x) default) else none:=by
  unfold px
  rw [List.getElem?_map]
  by_cases h:x < D.length
  · rw [List.getElem?_range h,if_pos h];rfl
  · rw [if_neg h,List.getElem?_eq_none (by simpa using h)];rfl
theorem px_get {D:List Pr} {f:Nat→Nat} {x:Nat} (h:x < (px D f).length):(px D f)[x]=D.getD (f x) default:=by
  have h2:x < D.length:=by rwa [px_len] at h
  have:=px_at (D:=D) (f:=f) (x:=x)
  rw [if_pos h2,List.getElem?_eq_getElem h] at this
  exact Option.some.inj this
theorem px_congr {D:List Pr} {f g:Nat→Nat} (h:∀ x,x < D.length→f x=g x):px D f=px D g:=by
  apply List.ext_getElem?
  intro x
  rw [px_at,px_at]
  by_cases hx:x < D.length
  · rw [if_pos hx,if_pos hx,h x hx]
  · rw [if_neg hx,if_neg hx]
theorem px_id {D:List Pr}:px D (fun x=>x)=D:=by
  apply List.ext_getElem?
  intro x
  rw [px_at]
  by_cases hx:x < D.length
  · rw [if_pos hx,List.getD_eq_getElem?_getD,List.getElem?_eq_getElem hx];rfl
  · rw [if_neg hx,List.getElem?_eq_none (by omega)]
theorem px_px {D:List Pr} {f g:Nat→Nat} (h:∀ x,x < D.length→g x < D.length):px (px D f) g=px D (fun x=>f (g x)):=by
  apply List.ext_getElem?
  intro x
  rw [px_at,px_at,px_len]
  by_cases hx:x < D.length
  · rw [if_pos hx,if_pos hx,List.getD_eq_getElem?_getD,px_at,if_pos (h x hx)];rfl
  · rw [if_neg hx,if_neg hx]
theorem px_set {D : List Pr} {f : Nat → Nat} {p q : Nat} (hp : p < (px D f).length) (hq : q < (px D f).length) :
    ((px D f).set p (px D f)[q]).set q (px D f)[p]=px D (fun x=>if x=q then f p else if x=p then f q else f x):=by
  apply List.ext_getElem?
  intro x
  rw [List.getElem?_set,List.getElem?_set,px_at,px_at,px_get hp,px_get hq]
  simp only [List.length_set,px_len] at *
  by_cases h1:q=x
  · subst h1;simp [hq]
  · by_cases h2 : p = x
    · subst h2;simp [hp,h1,Ne.symm h1]
    · simp [h1,h2,Ne.symm h1,Ne.symm h2]
def swf (a b n x:Nat):Nat:=if a≤x∧x < a+n then b+(x - a) else if b≤x∧x < b+n then a+(x - b) else x
abbrev rw0 (D:List Pr) (g:Nat):OB:=⟨65,2,D.map pA,g,0⟩
theorem rw0_eq {D E:List Pr} {g:Nat} (h:D=E):[rw0 D g]=[rw0 E g]:=by rw [h]
set_option maxHeartbeats 4000000 in
theorem swp46 (G : Nat → AV) (D : List Pr) (g a b n : Nat) (hN : D.length ≤ 1000000) (h1 : a + n ≤ b) (h2 : b + n ≤ D.length) (cf : AV) :
    HC Tryd.prog G 104 [.ol 0 g D.length,I a,I b,I n,cf] [rw0 D g] (.tup []) [rw0 (px D (swf a b n)) g]:=by
  refine hc_of cop104 ?_
  show W _ _ _ _ ⟨_,_⟩;simp only [A104,List.cons_append,List.nil_append,List.length_cons,List.length_nil,Nat.reduceAdd,Nat.reduceSub,List.replicate]
  repeat (first|with_reducible refine w_seq ?_|with_reducible refine w_reg ?_|with_reducible refine w_block ?_|with_reducible refine ws_nil ?_|with_reducible refine q_then ?_|((first|with_reducible refine ks fun K hK=>?_|with_reducible refine kd fun K hK=>?_|with_reducible refine kc fun K hK2 hK hK3=>?_);simp (disch:=omega) only [bg0,bg1,bg2,bg3,bg4,stepO,rsAs,eff,AX.ev,St.put,binA,conc,ap1,ofVal,Int.reduceTMod,Int.reduceTDiv,reduceCtorEq,fillA,AV.cells,AV.fine,AV.one,Nat.reduceAdd,Nat.reduceSub,Nat.reduceMul,Nat.reduceLT,Nat.reduceLeDiff,Int.reduceLT,Int.reduceLE,Int.reduceAdd,Int.reduceSub,Int.reduceNeg,Int.reduceMul,Int.reduceEq,Int.reduceToNat,nilA,moveA,live,loadA,rdA,storeA,wrA,intA,elemA,lenA,appA,srcA,isPtr,isNilPtr,partA,resOf,sliceA,cut,id,ap2,reduceIte,concs,chkB,geB,AOp.cls,AOp.xs,ltB,ltC,Nat.reduceBEq,Option.toList,List.cons_append,decide_eq_true,decide_eq_false,if_pos,if_neg,List.length_map,pA_at,List.cons_append,bVb,bVn,eq_self,Bool.and_self,BEq.rfl,not_true_eq_false,set_pA,List.length_set];(first|((with_reducible refine hK _ ?_);clear hK K)|((with_reducible refine hK ?_);clear hK hK3 K hK2)|((with_reducible refine hK3 ?_);clear hK hK3 K hK2))))
  refine w_loop_m [10,11,12,13,14,15,16,17,18,19,20,21,22,23,24,25,26,27,28,29,30,31,32,33,34,35,36,37] (fun k v H=>v 10=I k∧H=[rw0 (px D (swf a b k)) g]) n ⟨rfl,?_⟩ ?_ ?_
  · refine rw0_eq ?_
    have e:px D (swf a b 0)=px D (fun x=>x):=px_congr fun x _=>by
      simp only [swf]
      repeat' split
      all_goals omega
    rw [e,px_id]
  · rintro k v H hk ⟨h10, rfl⟩
    have hl:(px D (swf a b k)).length=D.length:=px_len
    have hp:a+k < (px D (swf a b k)).length:=by omega
    have hq:b+k < (px D (swf a b k)).length:=by omega
    have hs:=px_set hp hq
    generalize px D (swf a b k)=C at hl hp hq hs
    have q1:=pA_at (l:=C.set (a+k) C[b+k]) (k:=b+k) (by simp;omega)
    have e1:((a:Int)+(k:Int)).toNat=a+k:=by omega
    have e2:((b:Int)+(k:Int)).toNat=b+k:=by omega
    simp only [mix,mix_nil,mix_end,mix_skp,Nat.reduceEqDiff,Nat.reduceLeDiff,reduceCtorEq,if_true,if_false,reduceIte,Nat.reduceAdd,h10]
    repeat (first|with_reducible refine w_seq ?_|with_reducible refine w_reg ?_|(with_reducible refine w_drawx2 ?_ ?_ ?_ ?_;rotate_left 1)|with_reducible exact isSt|with_reducible refine w_block ?_|with_reducible refine w_skip ?_|with_reducible refine ws_nil ?_|with_reducible refine wd_nil ?_|with_reducible refine q_then ?_|with_reducible refine q_block_n ?_|((first|with_reducible refine ks fun K hK=>?_|with_reducible refine kd fun K hK=>?_|with_reducible refine kc fun K hK2 hK hK3=>?_);simp (disch:=omega) only [bg0,bg1,bg2,bg3,bg4,stepO,rsAs,eff,AX.ev,St.put,binA,conc,ap1,ofVal,Int.reduceTMod,Int.reduceTDiv,reduceCtorEq,fillA,AV.cells,AV.fine,AV.one,Nat.reduceAdd,Nat.reduceSub,Nat.reduceMul,Nat.reduceLT,Nat.reduceLeDiff,Int.reduceLT,Int.reduceLE,Int.reduceAdd,Int.reduceSub,Int.reduceNeg,Int.reduceMul,Int.reduceEq,Int.reduceToNat,nilA,moveA,live,loadA,rdA,storeA,wrA,intA,elemA,lenA,appA,srcA,isPtr,isNilPtr,partA,resOf,sliceA,cut,id,ap2,reduceIte,concs,chkB,geB,AOp.cls,AOp.xs,ltB,ltC,Nat.reduceBEq,Option.toList,List.cons_append,decide_eq_true,decide_eq_false,if_pos,if_neg,List.length_map,pA_at,List.cons_append,bVb,bVn,eq_self,Bool.and_self,BEq.rfl,not_true_eq_false,set_pA,List.length_set,e1,e2,q1];(first|((with_reducible refine hK _ ?_);clear hK K)|((with_reducible refine hK ?_);clear hK hK3 K hK2)|((with_reducible refine hK3 ?_);clear hK hK3 K hK2))))
    refine ⟨rfl,rfl,rw0_eq (hs.trans (px_congr fun x hx=>?_))⟩
    simp only [swf]
    repeat' split
    all_goals omega
  · rintro v H ⟨h10, rfl⟩
    simp only [mix,mix_nil,mix_end,mix_skp,Nat.reduceEqDiff,Nat.reduceLeDiff,reduceCtorEq,if_true,if_false,reduceIte,Nat.reduceAdd,h10]
    repeat (first|with_reducible refine w_seq ?_|with_reducible refine w_reg ?_|with_reducible refine w_exit ?_|with_reducible refine ws_nil ?_|with_reducible refine q_then ?_|with_reducible refine q_then_x ?_|with_reducible refine q_block_x ?_|((first|with_reducible refine ks fun K hK=>?_|with_reducible refine kd fun K hK=>?_|with_reducible refine kc fun K hK2 hK hK3=>?_);simp (disch:=omega) only [bg0,bg1,bg2,bg3,bg4,stepO,rsAs,eff,AX.ev,St.put,binA,conc,ap1,ofVal,Int.reduceTMod,Int.reduceTDiv,reduceCtorEq,fillA,AV.cells,AV.fine,AV.one,Nat.reduceAdd,Nat.reduceSub,Nat.reduceMul,Nat.reduceLT,Nat.reduceLeDiff,Int.reduceLT,Int.reduceLE,Int.reduceAdd,Int.reduceSub,Int.reduceNeg,Int.reduceMul,Int.reduceEq,Int.reduceToNat,nilA,moveA,live,loadA,rdA,storeA,wrA,intA,elemA,lenA,appA,srcA,isPtr,isNilPtr,partA,resOf,sliceA,cut,id,ap2,reduceIte,concs,chkB,geB,AOp.cls,AOp.xs,ltB,ltC,Nat.reduceBEq,Option.toList,List.cons_append,decide_eq_true,decide_eq_false,if_pos,if_neg,List.length_map,pA_at,List.cons_append,bVb,bVn,eq_self,Bool.and_self,BEq.rfl,not_true_eq_false,set_pA,List.length_set];(first|((with_reducible refine hK _ ?_);clear hK K)|((with_reducible refine hK ?_);clear hK hK3 K hK2)|((with_reducible refine hK3 ?_);clear hK hK3 K hK2)))|((with_reducible refine ret_0 ?_);try rfl))
def rtf (a m b x:Nat):Nat:=if a≤x∧x < a+(b - m) then m+(x - a) else if a+(b - m)≤x∧x < b then x - (b - m) else x
theorem rtf_lt {a m b x N:Nat} (h1:a≤m) (h2:m≤b) (h3:b≤N) (hx:x < N):rtf a m b x < N:=by
  unfold rtf;repeat' split
  all_goals omega
theorem rt_gt {C:List Pr} {m i j:Nat} (hij:j < i) (hj:0 < j) (hi:i≤m) (hb:m+j≤C.length):px (px C (swf (m - i) m j)) (rtf (m - (i - j)) m (m+j))=px C (rtf (m - i) m (m+j)):=by
  rw [px_px fun x hx=>rtf_lt (by omega) (by omega) hb hx]
  refine px_congr fun x hx=>?_
  simp only [swf,rtf]
  repeat' split
  all_goals omega
theorem rt_lt {C:List Pr} {m i j:Nat} (hij:i < j) (hi0:0 < i) (hi:i≤m) (hb:m+j≤C.length):px (px C (swf (m - i) (m+j - i) i)) (rtf (m - i) m (m+(j - i)))=px C (rtf (m - i) m (m+j)):=by
  rw [px_px fun x hx=>rtf_lt (by omega) (by omega) (by omega) hx]
  refine px_congr fun x hx=>?_
  simp only [swf,rtf]
  repeat' split
  all_goals omega
theorem rt_eq {C:List Pr} {m i:Nat} (hi:i≤m) (hb:m+i≤C.length):px C (swf (m - i) m i)=px C (rtf (m - i) m (m+i)):=by
  refine px_congr fun x hx=>?_
  simp only [swf,rtf]
  repeat' split
  all_goals omega
set_option maxHeartbeats 4000000 in
theorem rot45 (G : Nat → AV) (D : List Pr) (g a m b : Nat) (hN : D.length ≤ 1000000) (h1 : a < m) (h2 : m < b) (h3 : b ≤ D.length) (cf : AV) :
    HC Tryd.prog G 103 [.ol 0 g D.length,I a,I m,I b,cf] [rw0 D g] (.tup []) [rw0 (px D (rtf a m b)) g]:=by
  refine hc_of cop103 ?_
  show W _ _ _ _ ⟨_,_⟩;simp only [A103,List.cons_append,List.nil_append,List.length_cons,List.length_nil,Nat.reduceAdd,Nat.reduceSub,List.replicate]
  repeat (first|with_reducible refine w_seq ?_|with_reducible refine w_reg ?_|with_reducible refine w_block ?_|with_reducible refine ws_nil ?_|with_reducible refine q_then ?_|((first|with_reducible refine ks fun K hK=>?_|with_reducible refine kd fun K hK=>?_|with_reducible refine kc fun K hK2 hK hK3=>?_);simp (disch:=omega) only [bg0,bg1,bg2,bg3,bg4,stepO,rsAs,eff,AX.ev,St.put,binA,conc,ap1,ofVal,Int.reduceTMod,Int.reduceTDiv,reduceCtorEq,fillA,AV.cells,AV.fine,AV.one,Nat.reduceAdd,Nat.reduceSub,Nat.reduceMul,Nat.reduceLT,Nat.reduceLeDiff,Int.reduceLT,Int.reduceLE,Int.reduceAdd,Int.reduceSub,Int.reduceNeg,Int.reduceMul,Int.reduceEq,Int.reduceToNat,nilA,moveA,live,loadA,rdA,storeA,wrA,intA,elemA,lenA,appA,srcA,isPtr,isNilPtr,partA,resOf,sliceA,cut,id,ap2,reduceIte,concs,chkB,geB,AOp.cls,AOp.xs,ltB,ltC,Nat.reduceBEq,Option.toList,List.cons_append,decide_eq_true,decide_eq_false,if_pos,if_neg,List.length_map,pA_at,List.cons_append,bVb,bVn,eq_self,Bool.and_self,BEq.rfl,not_true_eq_false,set_pA,List.length_set];(first|((with_reducible refine hK _ ?_);clear hK K)|((with_reducible refine hK ?_);clear hK hK3 K hK2)|((with_reducible refine hK3 ?_);clear hK hK3 K hK2))))
  refine w_loop_d [10,11,18,19,20,21,22,23,24,25,26,27,28,29,30,31,32,33,34,35,36,37,38,39,40,41,42,43,44,45,46,47,48,49] (fun u v H=>∃ (i j:Nat) (C:List Pr),u=i+j∧v 10=I i∧v 11=I j∧H=[rw0 C g]∧C.length=D.length∧0 < i∧0 < j∧i≤m - a∧j≤b - m∧px C (rtf (m - i) m (m+j))=px D (rtf a m b)) (b - a) ⟨m - a,b - m,D,by omega,by simp [at_];omega,by simp [at_];omega,rfl,rfl,by omega,by omega,by omega,by omega,by rw [show m - (m - a)=a by omega,show m+(b - m)=b by omega]⟩ ?_
  rintro u v H ⟨i,j,C,rfl,h10,h11,rfl,hl,hi,hj,hi2,hj2,hpx⟩
  simp only [mix,mix_nil,mix_end,mix_skp,Nat.reduceEqDiff,Nat.reduceLeDiff,reduceCtorEq,if_true,if_false,reduceIte,Nat.reduceAdd,h10,h11]
  have e1:(m:Int) - (i:Int)=((m - i:Nat):Int):=by omega
  by_cases hij:i=j
  · subst hij
    rw [← hpx,← rt_eq (by omega) (by omega),← hl]
    repeat (first|with_reducible refine w_seq ?_|with_reducible refine w_reg ?_|with_reducible refine w_exit ?_|with_reducible refine ws_nil ?_|with_reducible refine q_then ?_|with_reducible refine q_then_x ?_|with_reducible refine q_block_x ?_|((first|with_reducible refine ks fun K hK=>?_|with_reducible refine kd fun K hK=>?_|with_reducible refine kc fun K hK2 hK hK3=>?_);simp (disch:=omega) only [bg0,bg1,bg2,bg3,bg4,stepO,rsAs,eff,AX.ev,St.put,binA,conc,ap1,ofVal,Int.reduceTMod,Int.reduceTDiv,reduceCtorEq,fillA,AV.cells,AV.fine,AV.one,Nat.reduceAdd,Nat.reduceSub,Nat.reduceMul,Nat.reduceLT,Nat.reduceLeDiff,Int.reduceLT,Int.reduceLE,Int.reduceAdd,Int.reduceSub,Int.reduceNeg,Int.reduceMul,Int.reduceEq,Int.reduceToNat,nilA,moveA,live,loadA,rdA,storeA,wrA,intA,elemA,lenA,appA,srcA,isPtr,isNilPtr,partA,resOf,sliceA,cut,id,ap2,reduceIte,concs,chkB,geB,AOp.cls,AOp.xs,ltB,ltC,Nat.reduceBEq,Option.toList,List.cons_append,decide_eq_true,decide_eq_false,if_pos,if_neg,List.length_map,pA_at,List.cons_append,bVb,bVn,eq_self,Bool.and_self,BEq.rfl,not_true_eq_false,set_pA,List.length_set,e1];(first|((with_reducible refine hK _ ?_);clear hK K)|((with_reducible refine hK ?_);clear hK hK3 K hK2)|((with_reducible refine hK3 ?_);clear hK hK3 K hK2)))|((with_reducible refine khs 104 ?_ ?_ ?_ ?_);rotate_left 2;exact (swp46 G C g (m - i) m i (by omega) (by omega) (by omega) cf))|((with_reducible refine ret_0 ?_);try rfl))
  · by_cases hgt : j < i
    · have hn : ¬ ((i : Int) = (j : Int)) := by omega
      have hg:(j:Int) < (i:Int):=by omega
      have e2:(i:Int) - (j:Int)=((i - j:Nat):Int):=by omega
      rw [← hl]
      repeat (first|with_reducible refine w_seq ?_|with_reducible refine w_reg ?_|with_reducible refine w_block ?_|with_reducible refine w_skip ?_|with_reducible refine ws_nil ?_|with_reducible refine q_then ?_|with_reducible refine q_block_n ?_|((first|with_reducible refine ks fun K hK=>?_|with_reducible refine kd fun K hK=>?_|with_reducible refine kc fun K hK2 hK hK3=>?_);simp (disch:=omega) only [bg0,bg1,bg2,bg3,bg4,stepO,rsAs,eff,AX.ev,St.put,binA,conc,ap1,ofVal,Int.reduceTMod,Int.reduceTDiv,reduceCtorEq,fillA,AV.cells,AV.fine,AV.one,Nat.reduceAdd,Nat.reduceSub,Nat.reduceMul,Nat.reduceLT,Nat.reduceLeDiff,Int.reduceLT,Int.reduceLE,Int.reduceAdd,Int.reduceSub,Int.reduceNeg,Int.reduceMul,Int.reduceEq,Int.reduceToNat,nilA,moveA,live,loadA,rdA,storeA,wrA,intA,elemA,lenA,appA,srcA,isPtr,isNilPtr,partA,resOf,sliceA,cut,id,ap2,reduceIte,concs,chkB,geB,AOp.cls,AOp.xs,ltB,ltC,Nat.reduceBEq,Option.toList,List.cons_append,decide_eq_true,decide_eq_false,if_pos,if_neg,List.length_map,pA_at,List.cons_append,bVb,bVn,eq_self,Bool.and_self,BEq.rfl,not_true_eq_false,set_pA,List.length_set,e1,e2,hn,hg];(first|((with_reducible refine hK _ ?_);clear hK K)|((with_reducible refine hK ?_);clear hK hK3 K hK2)|((with_reducible refine hK3 ?_);clear hK hK3 K hK2)))|((with_reducible refine khs 104 ?_ ?_ ?_ ?_);rotate_left 2;exact (swp46 G C g (m - i) m j (by omega) (by omega) (by omega) cf)))
      exact ⟨rfl,i,by omega,i - j,j,_,by omega,rfl,rfl,rfl,by rw [px_len,hl],by omega,hj,by omega,hj2,by rw [rt_gt hgt hj (by omega) (by omega)];exact hpx⟩
    · have hn : ¬ ((i : Int) = (j : Int)) := by omega
      have hg:¬ (j:Int) < (i:Int):=by omega
      have e2:(j:Int) - (i:Int)=((j - i:Nat):Int):=by omega
      have e3:(m:Int)+(j:Int) - (i:Int)=((m+j - i:Nat):Int):=by omega
      rw [← hl]
      repeat (first|with_reducible refine w_seq ?_|with_reducible refine w_reg ?_|with_reducible refine w_block ?_|with_reducible refine w_skip ?_|with_reducible refine ws_nil ?_|with_reducible refine q_then ?_|with_reducible refine q_block_n ?_|((first|with_reducible refine ks fun K hK=>?_|with_reducible refine kd fun K hK=>?_|with_reducible refine kc fun K hK2 hK hK3=>?_);simp (disch:=omega) only [bg0,bg1,bg2,bg3,bg4,stepO,rsAs,eff,AX.ev,St.put,binA,conc,ap1,ofVal,Int.reduceTMod,Int.reduceTDiv,reduceCtorEq,fillA,AV.cells,AV.fine,AV.one,Nat.reduceAdd,Nat.reduceSub,Nat.reduceMul,Nat.reduceLT,Nat.reduceLeDiff,Int.reduceLT,Int.reduceLE,Int.reduceAdd,Int.reduceSub,Int.reduceNeg,Int.reduceMul,Int.reduceEq,Int.reduceToNat,nilA,moveA,live,loadA,rdA,storeA,wrA,intA,elemA,lenA,appA,srcA,isPtr,isNilPtr,partA,resOf,sliceA,cut,id,ap2,reduceIte,concs,chkB,geB,AOp.cls,AOp.xs,ltB,ltC,Nat.reduceBEq,Option.toList,List.cons_append,decide_eq_true,decide_eq_false,if_pos,if_neg,List.length_map,pA_at,List.cons_append,bVb,bVn,eq_self,Bool.and_self,BEq.rfl,not_true_eq_false,set_pA,List.length_set,e1,e2,e3,hn,hg];(first|((with_reducible refine hK _ ?_);clear hK K)|((with_reducible refine hK ?_);clear hK hK3 K hK2)|((with_reducible refine hK3 ?_);clear hK hK3 K hK2)))|((with_reducible refine khs 104 ?_ ?_ ?_ ?_);rotate_left 2;exact (swp46 G C g (m - i) (m+j - i) i (by omega) (by omega) (by omega) cf)))
      exact ⟨rfl,j,by omega,i,j - i,_,by omega,rfl,rfl,rfl,by rw [px_len,hl],hi,by omega,hi2,by omega,by rw [rt_lt (by omega) hi (by omega) (by omega)];exact hpx⟩
end Go.Proofs.YtgpldekhcojimaaDoor.Sim.Pr7
namespace Go.Proofs.YtgpldekhcojimaaDoor.Sim.Pr7
open Go.RowKit
set_option maxRecDepth 100000
abbrev cF:AV:=.v (.func (.func 80) #[] #[])
set_option maxHeartbeats 4000000 in
theorem cmp29 (G:Nat→AV) (a b c d:ByteArray) (ha:a.size≤9223372036854775807) (hc:c.size≤9223372036854775807):PC Tryd.prog G 80 [.agg [S a,S b],.agg [S c,S d]] (I (cB a c)):=by
  refine pc_of cop80 ?_
  show W _ _ _ _ ⟨_,_⟩;simp only [A80,List.cons_append,List.nil_append,List.length_cons,List.length_nil,Nat.reduceAdd,Nat.reduceSub,List.replicate]
  repeat (first|with_reducible refine w_seq ?_|with_reducible refine w_reg ?_|with_reducible refine ws_nil ?_|with_reducible refine q_then ?_|with_reducible refine w_ret ?_|((first|with_reducible refine ks fun K hK=>?_|with_reducible refine kd fun K hK=>?_|with_reducible refine kc fun K hK2 hK hK3=>?_);simp (disch:=omega) only [bg0,bg1,bg2,bg3,bg4,stepO,rsAs,eff,AX.ev,St.put,binA,conc,ap1,ofVal,Int.reduceTMod,Int.reduceTDiv,reduceCtorEq,fillA,AV.cells,AV.fine,AV.one,Nat.reduceAdd,Nat.reduceSub,Nat.reduceMul,Nat.reduceLT,Nat.reduceLeDiff,Int.reduceLT,Int.reduceLE,Int.reduceAdd,Int.reduceSub,Int.reduceNeg,Int.reduceMul,Int.reduceEq,Int.reduceToNat,nilA,moveA,live,loadA,rdA,storeA,wrA,intA,elemA,lenA,appA,srcA,isPtr,isNilPtr,partA,resOf,sliceA,cut,id,ap2,reduceIte,concs,chkB,geB,AOp.cls,AOp.xs,ltB,ltC,Nat.reduceBEq,Option.toList,List.cons_append,decide_eq_true,decide_eq_false,if_pos,if_neg,List.length_map,List.cons_append,bVb,bVn,eq_self,Bool.and_self,BEq.rfl,not_true_eq_false,set_pA,List.length_set];(first|((with_reducible refine hK _ ?_);clear hK K)|((with_reducible refine hK ?_);clear hK hK3 K hK2)|((with_reducible refine hK3 ?_);clear hK hK3 K hK2)))|((with_reducible refine kps 44 ?_ ?_ ?_ ?_);rotate_left 1;rfl;exact (by refine cmpP G _ _ ?_ ?_<;>assumption))|((first|with_reducible refine ret_h fun K hK=>?_|with_reducible refine ret_hh rfl fun K hK=>?_|with_reducible refine ret_pp fun K hK=>?_);simp (disch:=omega) only [bg0,bg1,bg2,bg3,bg4,stepO,rsAs,eff,AX.ev,St.put,binA,conc,ap1,ofVal,Int.reduceTMod,Int.reduceTDiv,reduceCtorEq,fillA,AV.cells,AV.fine,AV.one,Nat.reduceAdd,Nat.reduceSub,Nat.reduceMul,Nat.reduceLT,Nat.reduceLeDiff,Int.reduceLT,Int.reduceLE,Int.reduceAdd,Int.reduceSub,Int.reduceNeg,Int.reduceMul,Int.reduceEq,Int.reduceToNat,nilA,moveA,live,loadA,rdA,storeA,wrA,intA,elemA,lenA,appA,srcA,isPtr,isNilPtr,partA,resOf,sliceA,cut,id,ap2,reduceIte,concs,chkB,geB,AOp.cls,AOp.xs,ltB,ltC,Nat.reduceBEq,Option.toList,List.cons_append,decide_eq_true,decide_eq_false,if_pos,if_neg,List.length_map,List.cons_append,bVb,bVn,eq_self,Bool.and_self,BEq.rfl,not_true_eq_false,set_pA,List.length_set];(first|((with_reducible refine hK _ ?_ ?_ ?_ ?_);rotate_left 2;rfl;rfl)|((with_reducible refine hK _ ?_);rfl))))
theorem cmpC (G:Nat→AV) (H:Hp) {p q:Pr} (ha:p.1.size≤9223372036854775807) (hc:q.1.size≤9223372036854775807):HC Tryd.prog G 80 [.agg [S p.1,S p.2],.agg [S q.1,S q.2]] H (I (cB p.1 q.1)) H:=hc_pc rfl (cmp29 G _ _ _ _ ha hc) H
theorem pAq {C:List Pr} {k:Nat} {p:Pr} (h:C[k]? = some p):(C.map pA)[k]? = some (.agg [S p.1,S p.2]):=by rw [List.getElem?_map,h];rfl
theorem ssort_mem {l:List Pr} {x:Pr}:x ∈ ssort l↔x ∈ l:=by
  have h1:x ∈ ssort l↔x ∈ fk x.1 (ssort l):=⟨fun h=>mem_fk.2 ⟨h,rfl⟩,fun h=>(mem_fk.1 h).1⟩
  have h2:x ∈ l↔x ∈ fk x.1 l:=⟨fun h=>mem_fk.2 ⟨h,rfl⟩,fun h=>(mem_fk.1 h).1⟩
  rw [h1,h2,ssort_fk]
theorem ins_len {p:Pr}:∀ {n:List Pr},(ins p n).length=n.length+1
  | []=>rfl
  | q::n=>by unfold ins;split<;>simp [ins_len (n:=n)]
theorem ssort_len:∀ {l:List Pr},(ssort l).length=l.length
  | []=>rfl
  | p::l=>by rw [ssort,ins_len,ssort_len (l:=l)];rfl
theorem ins_at {S S1 S2:List Pr} {x:Pr} {L:List Pr} (hS:S1++S2=ssort L) (h1:∀ p ∈ S1,cB p.1 x.1≤0) (h2:∀ q ∈ S2,cB x.1 q.1 < 0):S1++x::S2=ssort (L++[x]):=by
  have hle:SLe (S1++S2):=by rw [hS];exact ssort_le L
  obtain ⟨a1,a2,a3⟩:=List.pairwise_append.1 hle
  refine srt_uniq ?_ (ssort_le _) fun k=>?_
  · refine List.pairwise_append.2 ⟨a1,List.pairwise_cons.2 ⟨fun q hq=>by have:=h2 q hq;omega,a2⟩,fun p hp q hq=>?_⟩
    rcases List.mem_cons.1 hq with rfl|hq
    · exact h1 p hp
    · exact a3 p hp q hq
  · rw [ssort_fk, fk_append, fk_append, fk_cons, fk_cons, fk_nil, ← ssort_fk L, ← hS, fk_append]
    by_cases hx:x.1=k
    · have : fk k S2 = [] := fk_none.2 fun q hq e => by
        have:=h2 q hq
        rw [e,hx,cB_self] at this
        omega
      simp [hx,this]
    · simp [hx]
theorem at_mid {P S R:List Pr} {x:Pr} {k:Nat} (hk:k=P.length+S.length):(P++(S++x::R))[k]? = some x:=by
  subst hk
  rw [List.getElem?_append_right (by omega),List.getElem?_append_right (by omega)]
  simp
theorem at_pre {P S R:List Pr} {x y:Pr} {k:Nat} (hk:k=P.length+S.length):(P++(S++[y]++x::R))[k]? = some y:=by
  have:=at_mid (P:=P) (S:=S) (x:=y) (R:=x::R) hk
  simpa using this
theorem sw_mid {P S R:List Pr} {x y:Pr} {k:Nat} (hk:k=P.length+S.length):((P++(S++[y]++x::R)).set (k+1) y).set k x=P++(S++x::y::R):=by
  subst hk
  have e:P++(S++[y]++x::R)=(P++S)++y::x::R:=by simp
  have e2:P++(S++x::y::R)=(P++S)++x::y::R:=by simp
  rw [e,e2,show P.length+S.length=(P++S).length from (List.length_append).symm,List.set_append_right _ _ (by omega),List.set_append_right _ _ (by omega)]
  simp
def seg (D:List Pr) (a b:Nat):List Pr:=(D.take b).drop a
def srt (D:List Pr) (a b:Nat):List Pr:=D.take a++(ssort (seg D a b)++D.drop b)
theorem srt_one {D:List Pr} {a b:Nat} (h:b≤a+1) (hb:b≤D.length) (hab:a≤b):srt D a b=D:=by
  have e:ssort (seg D a b)=seg D a b:=by
    have:(seg D a b).length≤1:=by simp [seg];omega
    match h:seg D a b,this with
    | [],_=>rfl
    | [p],_=>rfl
  unfold srt
  rw [e]
  unfold seg
  have h1:D.take b=D.take a++(D.take b).drop a:=by
    have:=List.take_append_drop a (D.take b)
    rw [List.take_take,Nat.min_eq_left hab] at this
    exact this.symm
  rw [← List.append_assoc,← h1,List.take_append_drop]
theorem seg_succ {D:List Pr} {a i:Nat} (ha:a≤i) (hi:i < D.length):seg D a (i+1)=seg D a i++[D[i]]:=by
  unfold seg
  rw [List.take_add_one,List.getElem?_eq_getElem hi,List.drop_append_of_le_length (by simp;omega)]
  rfl
theorem seg_len {D:List Pr} {a b:Nat} (hb:b≤D.length):(seg D a b).length=b - a:=by simp [seg];omega
theorem seg_mem {D:List Pr} {a b:Nat} {x:Pr} (h:x ∈ seg D a b):x ∈ D:=List.mem_of_mem_take (List.mem_of_mem_drop h)
theorem le_all {S:List Pr} {y:Pr} {x:ByteArray} {R:List Pr} (h:SLe (S++[y]++R)) (hy:cB y.1 x≤0):∀ p ∈ S++[y],cB p.1 x≤0:=by
  intro p hp
  have h1:=(List.pairwise_append.1 h).1
  rcases List.mem_append.1 hp with hp|hp
  · have := (List.pairwise_append.1 h1).2.2 p hp y (by simp)
    exact cB_le this hy
  · simp at hp;subst hp;exact hy
theorem last_cases {l:List Pr}:l=[]∨∃ S y,l=S++[y]:=by
  rcases List.eq_nil_or_concat l with h|⟨S,y,h⟩
  · exact .inl h
  · exact .inr ⟨S,y,by rw [h,List.concat_eq_append]⟩
set_option maxHeartbeats 8000000 in
theorem ins43 (G : Nat → AV) (D : List Pr) (g a b : Nat) (hN : Okl D) (h1 : a ≤ b) (h2 : b ≤ D.length) :
    HC Tryd.prog G 101 [.ol 0 g D.length,I a,I b,cF] [rw0 D g] (.tup []) [rw0 (srt D a b) g]:=by
  have hlen:=hN.len
  refine hc_of cop101 ?_
  show W _ _ _ _ ⟨_,_⟩;simp only [A101,List.cons_append,List.nil_append,List.length_cons,List.length_nil,Nat.reduceAdd,Nat.reduceSub,List.replicate]
  repeat (first|with_reducible refine w_seq ?_|with_reducible refine w_reg ?_|with_reducible refine w_block ?_|with_reducible refine ws_nil ?_|with_reducible refine q_then ?_|((first|with_reducible refine ks fun K hK=>?_|with_reducible refine kd fun K hK=>?_|with_reducible refine kc fun K hK2 hK hK3=>?_);simp (disch:=omega) only [bg0,bg1,bg2,bg3,bg4,stepO,rsAs,eff,AX.ev,St.put,binA,conc,ap1,ofVal,Int.reduceTMod,Int.reduceTDiv,reduceCtorEq,fillA,AV.cells,AV.fine,AV.one,Nat.reduceAdd,Nat.reduceSub,Nat.reduceMul,Nat.reduceLT,Nat.reduceLeDiff,Int.reduceLT,Int.reduceLE,Int.reduceAdd,Int.reduceSub,Int.reduceNeg,Int.reduceMul,Int.reduceEq,Int.reduceToNat,nilA,moveA,live,loadA,rdA,storeA,wrA,intA,elemA,lenA,appA,srcA,isPtr,isNilPtr,partA,resOf,sliceA,cut,id,ap2,reduceIte,concs,chkB,geB,AOp.cls,AOp.xs,ltB,ltC,Nat.reduceBEq,Option.toList,List.cons_append,decide_eq_true,decide_eq_false,if_pos,if_neg,List.length_map,List.cons_append,bVb,bVn,eq_self,Bool.and_self,BEq.rfl,not_true_eq_false,set_pA,List.length_set];(first|((with_reducible refine hK _ ?_);clear hK K)|((with_reducible refine hK ?_);clear hK hK3 K hK2)|((with_reducible refine hK3 ?_);clear hK hK3 K hK2))))
  refine w_loop_m [8,9,12,13,14,15,16,17,18,19,20,21,22,23,24,25,26,27,28,29,30,31,32,33,34,35,36,37,38,39,40,41,42,43,44,45,46,47,48,49,50,51,52] (fun k v H=>v 8=I ((a+1+k:Nat):Int)∧H=[rw0 (srt D a (min b (a+1+k))) g]) (b - (a+1)) ⟨rfl,?_⟩ ?_ ?_
  · rw [srt_one (by omega) (by omega) (by omega)]
  · rintro k v H hk ⟨h8, rfl⟩
    have hi:a+1+k < D.length:=by omega
    rw [show min b (a+1+k)=a+1+k by omega]
    obtain ⟨i,hI⟩:∃ i,i=a+1+k:=⟨_,rfl⟩
    rw [show min b (a+1+(k+1))=i+1 by omega]
    rw [← hI] at hi h8 ⊢
    have hd:srt D a i=D.take a++(ssort (seg D a i)++D[i]::D.drop (i+1)):=by
      unfold srt;rw [List.drop_eq_getElem_cons hi]
    have hd2:srt D a (i+1)=D.take a++(ssort (seg D a i++[D[i]])++D.drop (i+1)):=by
      unfold srt;rw [seg_succ (by omega) hi]
    have hsz:∀ p ∈ seg D a i,p.1.size≤9223372036854775807:=fun p hp=>(hN.sz p (seg_mem hp)).1
    have hx:=(hN.sz _ (List.getElem_mem hi)).1
    have hPl:(D.take a).length=a:=by simp;omega
    have hLl:(ssort (seg D a i)).length=i - a:=by rw [ssort_len,seg_len (by omega)]
    have hN2:(srt D a i).length=D.length:=by rw [hd];simp [hLl];omega
    rw [hd,hd2]
    rw [hd] at hN2
    generalize D[i]=x at *
    generalize seg D a i=L at *
    generalize D.take a=P at *
    generalize D.drop (i+1)=R at *
    simp only [mix,mix_nil,mix_end,mix_skp,Nat.reduceEqDiff,Nat.reduceLeDiff,reduceCtorEq,if_true,if_false,reduceIte,Nat.reduceAdd,h8]
    repeat (first|with_reducible refine w_seq ?_|with_reducible refine w_reg ?_|with_reducible refine w_block ?_|with_reducible refine w_skip ?_|with_reducible refine ws_nil ?_|with_reducible refine q_then ?_|((first|with_reducible refine ks fun K hK=>?_|with_reducible refine kd fun K hK=>?_|with_reducible refine kc fun K hK2 hK hK3=>?_);simp (disch:=omega) only [bg0,bg1,bg2,bg3,bg4,stepO,rsAs,eff,AX.ev,St.put,binA,conc,ap1,ofVal,Int.reduceTMod,Int.reduceTDiv,reduceCtorEq,fillA,AV.cells,AV.fine,AV.one,Nat.reduceAdd,Nat.reduceSub,Nat.reduceMul,Nat.reduceLT,Nat.reduceLeDiff,Int.reduceLT,Int.reduceLE,Int.reduceAdd,Int.reduceSub,Int.reduceNeg,Int.reduceMul,Int.reduceEq,Int.reduceToNat,nilA,moveA,live,loadA,rdA,storeA,wrA,intA,elemA,lenA,appA,srcA,isPtr,isNilPtr,partA,resOf,sliceA,cut,id,ap2,reduceIte,concs,chkB,geB,AOp.cls,AOp.xs,ltB,ltC,Nat.reduceBEq,Option.toList,List.cons_append,decide_eq_true,decide_eq_false,if_pos,if_neg,List.length_map,List.cons_append,bVb,bVn,eq_self,Bool.and_self,BEq.rfl,not_true_eq_false,set_pA,List.length_set];(first|((with_reducible refine hK _ ?_);clear hK K)|((with_reducible refine hK ?_);clear hK hK3 K hK2)|((with_reducible refine hK3 ?_);clear hK hK3 K hK2))))
    refine w_loop_d [9,18,19,20,21,22,23,24,25,26,27,28,29,30,31,32,33,34,35,36,37,38,39,40,41,42,43,44,45,46,47,48,49,50,51,52] (fun u v H=>∃ S1 S2,S1++S2=ssort L∧u=S1.length∧v 9=I ((a+S1.length:Nat):Int)∧H=[rw0 (P++(S1++x::(S2++R))) g]∧∀ q ∈ S2,cB x.1 q.1 < 0) (i - a) ⟨ssort L,[],by simp,hLl.symm,by rw [hLl,show a+(i - a)=i by omega];rfl,rfl,by simp⟩ ?_
    rintro u v2 H ⟨S1,S2,hS,rfl,h9,rfl,hgt⟩
    have hCl:(P++(S1++x::(S2++R))).length=D.length:=by
      rw [← hN2,← hS];simp;omega
    have hle:SLe (S1++S2):=by rw [hS];exact ssort_le L
    rcases last_cases (l:=S1) with rfl|⟨S0,y,rfl⟩
    · have hfin:=ins_at (S:=S2) hS (fun p hp=>by cases hp) hgt
      have hfin2:P++([]++x::(S2++R))=P++(ssort (L++[x])++R):=by rw [← hfin];simp
      rw [hfin2]
      have e0:a+([]:List Pr).length=a:=rfl
      rw [e0] at h9
      simp only [mix,mix_nil,mix_end,mix_skp,Nat.reduceEqDiff,Nat.reduceLeDiff,reduceCtorEq,if_true,if_false,reduceIte,Nat.reduceAdd,h9]
      repeat (first|with_reducible refine w_seq ?_|with_reducible refine w_reg ?_|with_reducible refine w_draw ?_|with_reducible refine w_exit ?_|with_reducible refine ws_nil ?_|with_reducible refine wd_nil ?_|with_reducible refine q_then ?_|with_reducible refine q_then_x ?_|with_reducible refine q_block_n ?_|with_reducible refine q_block_x ?_|((first|with_reducible refine ks fun K hK=>?_|with_reducible refine kd fun K hK=>?_|with_reducible refine kc fun K hK2 hK hK3=>?_);simp (disch:=omega) only [bg0,bg1,bg2,bg3,bg4,stepO,rsAs,eff,AX.ev,St.put,binA,conc,ap1,ofVal,Int.reduceTMod,Int.reduceTDiv,reduceCtorEq,fillA,AV.cells,AV.fine,AV.one,Nat.reduceAdd,Nat.reduceSub,Nat.reduceMul,Nat.reduceLT,Nat.reduceLeDiff,Int.reduceLT,Int.reduceLE,Int.reduceAdd,Int.reduceSub,Int.reduceNeg,Int.reduceMul,Int.reduceEq,Int.reduceToNat,nilA,moveA,live,loadA,rdA,storeA,wrA,intA,elemA,lenA,appA,srcA,isPtr,isNilPtr,partA,resOf,sliceA,cut,id,ap2,reduceIte,concs,chkB,geB,AOp.cls,AOp.xs,ltB,ltC,Nat.reduceBEq,Option.toList,List.cons_append,decide_eq_true,decide_eq_false,if_pos,if_neg,List.length_map,List.cons_append,bVb,bVn,eq_self,Bool.and_self,BEq.rfl,not_true_eq_false,set_pA,List.length_set];(first|((with_reducible refine hK _ ?_);clear hK K)|((with_reducible refine hK ?_);clear hK hK3 K hK2)|((with_reducible refine hK3 ?_);clear hK hK3 K hK2)))|((first|((with_reducible refine kgd_u ?_ ?_ ?_);rotate_left 1;rfl)|((with_reducible refine kgd_f ?_ ?_ ?_);rotate_left 1;rfl));rotate_left 1;(focus (simp (disch:=omega) only [bg0,bg1,bg2,bg3,bg4,stepO,rsAs,eff,AX.ev,St.put,binA,conc,ap1,ofVal,Int.reduceTMod,Int.reduceTDiv,reduceCtorEq,fillA,AV.cells,AV.fine,AV.one,Nat.reduceAdd,Nat.reduceSub,Nat.reduceMul,Nat.reduceLT,Nat.reduceLeDiff,Int.reduceLT,Int.reduceLE,Int.reduceAdd,Int.reduceSub,Int.reduceNeg,Int.reduceMul,Int.reduceEq,Int.reduceToNat,nilA,moveA,live,loadA,rdA,storeA,wrA,intA,elemA,lenA,appA,srcA,isPtr,isNilPtr,partA,resOf,sliceA,cut,id,ap2,reduceIte,concs,chkB,geB,AOp.cls,AOp.xs,ltB,ltC,Nat.reduceBEq,Option.toList,List.cons_append,decide_eq_true,decide_eq_false,if_pos,if_neg,List.length_map,List.cons_append,bVb,bVn,eq_self,Bool.and_self,BEq.rfl,not_true_eq_false,set_pA,List.length_set];try rfl))))
      exact ⟨rfl,by simp [at_];omega,rfl⟩
    · have hj : a + (S0 ++ [y]).length = a + S0.length + 1 := by simp; omega
      rw [hj] at h9
      have q1:=pAq (at_mid (P:=P) (S:=S0++[y]) (x:=x) (R:=S2++R) (k:=a+S0.length+1) (by simp [hPl];omega))
      have q2:=pAq (at_pre (P:=P) (S:=S0) (x:=x) (y:=y) (R:=S2++R) (k:=a+S0.length) (by omega))
      have hsw:=sw_mid (P:=P) (S:=S0) (x:=x) (y:=y) (R:=S2++R) (k:=a+S0.length) (by omega)
      have hy:y.1.size≤9223372036854775807:=hsz y (by rw [← ssort_mem,← hS];simp)
      have hjl:a+S0.length+1 < D.length:=by rw [← hCl];simp [hPl];omega
      have q3:(((P++(S0++[y]++x::(S2++R))).set (a+S0.length+1) y).map pA)[a+S0.length]? = some (.agg [S y.1,S y.2]):=pAq (by rw [List.getElem?_set_ne (by omega)];exact at_pre (by omega))
      have e1:((a:Int)+(S0.length:Int)+1).toNat=a+S0.length+1:=by omega
      have e2:((a:Int)+(S0.length:Int)).toNat=a+S0.length:=by omega
      have e3:(a:Int) < (a:Int)+(S0.length:Int)+1:=by omega
      by_cases hc:cB x.1 y.1 < 0
      · generalize P ++ (S0 ++ [y] ++ x :: (S2 ++ R)) = C at *
        simp only [mix,mix_nil,mix_end,mix_skp,Nat.reduceEqDiff,Nat.reduceLeDiff,reduceCtorEq,if_true,if_false,reduceIte,Nat.reduceAdd,h9]
        repeat (first|with_reducible refine w_seq ?_|with_reducible refine w_reg ?_|with_reducible refine w_draw ?_|(with_reducible refine w_drawx2 ?_ ?_ ?_ ?_;rotate_left 1)|with_reducible exact isSt|with_reducible refine w_block ?_|with_reducible refine w_skip ?_|with_reducible refine ws_nil ?_|with_reducible refine wd_nil ?_|with_reducible refine q_then ?_|with_reducible refine q_block_n ?_|((with_reducible refine kgd_t ?_ ?_);rfl)|((first|with_reducible refine ks fun K hK=>?_|with_reducible refine kd fun K hK=>?_|with_reducible refine kc fun K hK2 hK hK3=>?_);simp (disch:=omega) only [bg0,bg1,bg2,bg3,bg4,stepO,rsAs,eff,AX.ev,St.put,binA,conc,ap1,ofVal,Int.reduceTMod,Int.reduceTDiv,reduceCtorEq,fillA,AV.cells,AV.fine,AV.one,Nat.reduceAdd,Nat.reduceSub,Nat.reduceMul,Nat.reduceLT,Nat.reduceLeDiff,Int.reduceLT,Int.reduceLE,Int.reduceAdd,Int.reduceSub,Int.reduceNeg,Int.reduceMul,Int.reduceEq,Int.reduceToNat,nilA,moveA,live,loadA,rdA,storeA,wrA,intA,elemA,lenA,appA,srcA,isPtr,isNilPtr,partA,resOf,sliceA,cut,id,ap2,reduceIte,concs,chkB,geB,AOp.cls,AOp.xs,ltB,ltC,Nat.reduceBEq,Option.toList,List.cons_append,decide_eq_true,decide_eq_false,if_pos,if_neg,List.length_map,List.cons_append,bVb,bVn,eq_self,Bool.and_self,BEq.rfl,not_true_eq_false,set_pA,List.length_set,q1,q2,q3,e1,e2,e3,hc];(first|((with_reducible refine hK _ ?_);clear hK K)|((with_reducible refine hK ?_);clear hK hK3 K hK2)|((with_reducible refine hK3 ?_);clear hK hK3 K hK2)))|((first|((with_reducible refine kvd 80 ?_ ?_ ?_ ?_ ?_ ?_ ?_ ?_);rotate_left 3));(focus (simp (disch:=omega) only [bg0,bg1,bg2,bg3,bg4,stepO,rsAs,eff,AX.ev,St.put,binA,conc,ap1,ofVal,Int.reduceTMod,Int.reduceTDiv,reduceCtorEq,fillA,AV.cells,AV.fine,AV.one,Nat.reduceAdd,Nat.reduceSub,Nat.reduceMul,Nat.reduceLT,Nat.reduceLeDiff,Int.reduceLT,Int.reduceLE,Int.reduceAdd,Int.reduceSub,Int.reduceNeg,Int.reduceMul,Int.reduceEq,Int.reduceToNat,nilA,moveA,live,loadA,rdA,storeA,wrA,intA,elemA,lenA,appA,srcA,isPtr,isNilPtr,partA,resOf,sliceA,cut,id,ap2,reduceIte,concs,chkB,geB,AOp.cls,AOp.xs,ltB,ltC,Nat.reduceBEq,Option.toList,List.cons_append,decide_eq_true,decide_eq_false,if_pos,if_neg,List.length_map,List.cons_append,bVb,bVn,eq_self,Bool.and_self,BEq.rfl,not_true_eq_false,set_pA,List.length_set,q1,q2,q3,e1,e2,e3,hc];try rfl));(first|(rfl;exact hb80;exact (cmpC G _ hx hy)))))
        refine ⟨rfl,S0.length,by simp,S0,y::S2,by simpa using hS,rfl,rfl,rw0_eq (by simpa using hsw),fun q hq=>?_⟩
        rcases List.mem_cons.1 hq with rfl|hq
        · exact hc
        · exact hgt q hq
      · have hfin := ins_at (S := S2) hS (le_all hle (by rw [cB_anti x.1 y.1]; omega)) hgt
        have hfin2:P++(S0++[y]++x::(S2++R))=P++(ssort (L++[x])++R):=by rw [← hfin];simp
        rw [hfin2] at q1 q2 q3 ⊢
        simp only [mix,mix_nil,mix_end,mix_skp,Nat.reduceEqDiff,Nat.reduceLeDiff,reduceCtorEq,if_true,if_false,reduceIte,Nat.reduceAdd,h9]
        repeat (first|with_reducible refine w_seq ?_|with_reducible refine w_reg ?_|with_reducible refine w_draw ?_|with_reducible refine w_exit ?_|with_reducible refine ws_nil ?_|with_reducible refine wd_nil ?_|with_reducible refine q_then ?_|with_reducible refine q_then_x ?_|with_reducible refine q_block_n ?_|with_reducible refine q_block_x ?_|((with_reducible refine kgd_t ?_ ?_);rfl)|((first|with_reducible refine ks fun K hK=>?_|with_reducible refine kd fun K hK=>?_|with_reducible refine kc fun K hK2 hK hK3=>?_);simp (disch:=omega) only [bg0,bg1,bg2,bg3,bg4,stepO,rsAs,eff,AX.ev,St.put,binA,conc,ap1,ofVal,Int.reduceTMod,Int.reduceTDiv,reduceCtorEq,fillA,AV.cells,AV.fine,AV.one,Nat.reduceAdd,Nat.reduceSub,Nat.reduceMul,Nat.reduceLT,Nat.reduceLeDiff,Int.reduceLT,Int.reduceLE,Int.reduceAdd,Int.reduceSub,Int.reduceNeg,Int.reduceMul,Int.reduceEq,Int.reduceToNat,nilA,moveA,live,loadA,rdA,storeA,wrA,intA,elemA,lenA,appA,srcA,isPtr,isNilPtr,partA,resOf,sliceA,cut,id,ap2,reduceIte,concs,chkB,geB,AOp.cls,AOp.xs,ltB,ltC,Nat.reduceBEq,Option.toList,List.cons_append,decide_eq_true,decide_eq_false,if_pos,if_neg,List.length_map,List.cons_append,bVb,bVn,eq_self,Bool.and_self,BEq.rfl,not_true_eq_false,set_pA,List.length_set,q1,q2,q3,e1,e2,e3,hc];(first|((with_reducible refine hK _ ?_);clear hK K)|((with_reducible refine hK ?_);clear hK hK3 K hK2)|((with_reducible refine hK3 ?_);clear hK hK3 K hK2)))|((first|((with_reducible refine kvd 80 ?_ ?_ ?_ ?_ ?_ ?_ ?_ ?_);rotate_left 3));(focus (simp (disch:=omega) only [bg0,bg1,bg2,bg3,bg4,stepO,rsAs,eff,AX.ev,St.put,binA,conc,ap1,ofVal,Int.reduceTMod,Int.reduceTDiv,reduceCtorEq,fillA,AV.cells,AV.fine,AV.one,Nat.reduceAdd,Nat.reduceSub,Nat.reduceMul,Nat.reduceLT,Nat.reduceLeDiff,Int.reduceLT,Int.reduceLE,Int.reduceAdd,Int.reduceSub,Int.reduceNeg,Int.reduceMul,Int.reduceEq,Int.reduceToNat,nilA,moveA,live,loadA,rdA,storeA,wrA,intA,elemA,lenA,appA,srcA,isPtr,isNilPtr,partA,resOf,sliceA,cut,id,ap2,reduceIte,concs,chkB,geB,AOp.cls,AOp.xs,ltB,ltC,Nat.reduceBEq,Option.toList,List.cons_append,decide_eq_true,decide_eq_false,if_pos,if_neg,List.length_map,List.cons_append,bVb,bVn,eq_self,Bool.and_self,BEq.rfl,not_true_eq_false,set_pA,List.length_set,q1,q2,q3,e1,e2,e3,hc];try rfl));(first|(rfl;exact hb80;exact (cmpC G _ hx hy)))))
        exact ⟨rfl,by simp [at_];omega,rfl⟩
  · rintro v H ⟨h8, rfl⟩
    simp only [mix,mix_nil,mix_end,mix_skp,Nat.reduceEqDiff,Nat.reduceLeDiff,reduceCtorEq,if_true,if_false,reduceIte,Nat.reduceAdd,h8]
    by_cases hab:a=b
    · subst hab
      rw [show min a (a+1+(a - (a+1)))=a by omega]
      repeat (first|with_reducible refine w_seq ?_|with_reducible refine w_reg ?_|with_reducible refine w_exit ?_|with_reducible refine ws_nil ?_|with_reducible refine q_then ?_|with_reducible refine q_then_x ?_|with_reducible refine q_block_x ?_|((first|with_reducible refine ks fun K hK=>?_|with_reducible refine kd fun K hK=>?_|with_reducible refine kc fun K hK2 hK hK3=>?_);simp (disch:=omega) only [bg0,bg1,bg2,bg3,bg4,stepO,rsAs,eff,AX.ev,St.put,binA,conc,ap1,ofVal,Int.reduceTMod,Int.reduceTDiv,reduceCtorEq,fillA,AV.cells,AV.fine,AV.one,Nat.reduceAdd,Nat.reduceSub,Nat.reduceMul,Nat.reduceLT,Nat.reduceLeDiff,Int.reduceLT,Int.reduceLE,Int.reduceAdd,Int.reduceSub,Int.reduceNeg,Int.reduceMul,Int.reduceEq,Int.reduceToNat,nilA,moveA,live,loadA,rdA,storeA,wrA,intA,elemA,lenA,appA,srcA,isPtr,isNilPtr,partA,resOf,sliceA,cut,id,ap2,reduceIte,concs,chkB,geB,AOp.cls,AOp.xs,ltB,ltC,Nat.reduceBEq,Option.toList,List.cons_append,decide_eq_true,decide_eq_false,if_pos,if_neg,List.length_map,List.cons_append,bVb,bVn,eq_self,Bool.and_self,BEq.rfl,not_true_eq_false,set_pA,List.length_set];(first|((with_reducible refine hK _ ?_);clear hK K)|((with_reducible refine hK ?_);clear hK hK3 K hK2)|((with_reducible refine hK3 ?_);clear hK hK3 K hK2)))|((with_reducible refine ret_0 ?_);try rfl))
    · rw [show min b (a + 1 + (b - (a + 1))) = b by omega]
      repeat (first|with_reducible refine w_seq ?_|with_reducible refine w_reg ?_|with_reducible refine w_exit ?_|with_reducible refine ws_nil ?_|with_reducible refine q_then ?_|with_reducible refine q_then_x ?_|with_reducible refine q_block_x ?_|((first|with_reducible refine ks fun K hK=>?_|with_reducible refine kd fun K hK=>?_|with_reducible refine kc fun K hK2 hK hK3=>?_);simp (disch:=omega) only [bg0,bg1,bg2,bg3,bg4,stepO,rsAs,eff,AX.ev,St.put,binA,conc,ap1,ofVal,Int.reduceTMod,Int.reduceTDiv,reduceCtorEq,fillA,AV.cells,AV.fine,AV.one,Nat.reduceAdd,Nat.reduceSub,Nat.reduceMul,Nat.reduceLT,Nat.reduceLeDiff,Int.reduceLT,Int.reduceLE,Int.reduceAdd,Int.reduceSub,Int.reduceNeg,Int.reduceMul,Int.reduceEq,Int.reduceToNat,nilA,moveA,live,loadA,rdA,storeA,wrA,intA,elemA,lenA,appA,srcA,isPtr,isNilPtr,partA,resOf,sliceA,cut,id,ap2,reduceIte,concs,chkB,geB,AOp.cls,AOp.xs,ltB,ltC,Nat.reduceBEq,Option.toList,List.cons_append,decide_eq_true,decide_eq_false,if_pos,if_neg,List.length_map,List.cons_append,bVb,bVn,eq_self,Bool.and_self,BEq.rfl,not_true_eq_false,set_pA,List.length_set];(first|((with_reducible refine hK _ ?_);clear hK K)|((with_reducible refine hK ?_);clear hK hK3 K hK2)|((with_reducible refine hK3 ?_);clear hK hK3 K hK2)))|((with_reducible refine ret_0 ?_);try rfl))
end Go.Proofs.YtgpldekhcojimaaDoor.Sim.Pr7
namespace Go.Proofs.YtgpldekhcojimaaDoor.Sim.Pr7
open Go.RowKit
set_option maxRecDepth 100000
theorem u64w {n:Int} (h:0≤n) (h2:n≤9223372036854775807):IntKind.u64.wrap n=n:=by
  rw [IntKind.wrap]
  simp only [IntKind.signed,IntKind.bits]
  simp
  omega
theorem cVu {n:Int} (h:0≤n) (h2:n≤9223372036854775807):pureRun Tryd.prog (convert 3 115 (.int .i64 n))=some (.int .u64 n):=by
  rw [cV_int (e:=.int .i64) (k:=.u64) (by kernel_rfl) (by kernel_rfl),u64w h h2]
theorem cVi {n:Int} (h:0≤n) (h2:n≤9223372036854775807):pureRun Tryd.prog (convert 115 3 (.int .u64 n))=some (.int .i64 n):=by
  rw [cV_int (e:=.int .u64) (k:=.i64) (by kernel_rfl) (by kernel_rfl),wrapI (by omega) h2]
theorem shr1 {P:Program} {t:TypeId} {xo yo:Operand} {i j:Nat}:binV P .shr t xo yo (.int .u64 ((i:Int)+(j:Int))) (.int .u64 1)=some (.int .u64 (((i+j) / 2:Nat):Int)):=by
  show some (Value.int .u64 (((i:Int)+(j:Int)).fdiv (2 ^ 1)))=_
  have:((i:Int)+(j:Int)).fdiv (2 ^ 1)=(((i+j) / 2:Nat):Int):=by
    rw [Int.fdiv_eq_ediv_of_nonneg _ (by decide)]
    omega
  rw [this]
theorem ssort_app {X Y:List Pr} (h:∀ x ∈ X,∀ y ∈ Y,cB x.1 y.1≤0):ssort (X++Y)=ssort X++ssort Y:=by
  refine srt_uniq (ssort_le _) (List.pairwise_append.2 ⟨ssort_le X,ssort_le Y,fun x hx y hy=>h x (ssort_mem.1 hx) y (ssort_mem.1 hy)⟩) fun k=>?_
  rw [ssort_fk,fk_append,fk_append,ssort_fk,ssort_fk]
theorem ssort_of {X:List Pr} (h:SLe X):ssort X=X:=srt_uniq (ssort_le X) h fun k=>ssort_fk X
theorem ssort_swap {X A B Y:List Pr} (h:∀ x ∈ A,∀ y ∈ B,cB y.1 x.1 < 0):ssort (X++A++B++Y)=ssort (X++B++A++Y):=by
  refine srt_uniq (ssort_le _) (ssort_le _) fun k=>?_
  simp only [ssort_fk,fk_append]
  have:fk k A=[]∨fk k B=[]:=by
    by_cases hb:fk k B=[]
    · exact .inr hb
    · left
      refine fk_none.2 fun x hx e=>hb (fk_none.2 fun y hy e2=>?_)
      have:=h x hx y hy
      rw [e,e2,cB_self] at this
      omega
  rcases this with h|h<;>simp [h]
theorem ssort_merge {A1 A2 B1 B2 : List Pr} (hA : SLe (A1 ++ A2)) (hB : SLe (B1 ++ B2)) (h1 : ∀ x ∈ A2, ∀ y ∈ B1, cB y.1 x.1 < 0) (h2 : ∀ x ∈ A1, ∀ y ∈ B2, cB x.1 y.1 ≤ 0) :
    ssort (A1++A2++(B1++B2))=ssort (A1++B1)++ssort (A2++B2):=by
  have e1:=ssort_swap (X:=A1) (A:=A2) (B:=B1) (Y:=B2) h1
  rw [show A1++A2++(B1++B2)=A1++A2++B1++B2 by simp,e1,show A1++B1++A2++B2=(A1++B1)++(A2++B2) by simp]
  obtain ⟨_,_,a3⟩:=List.pairwise_append.1 hA
  obtain ⟨_,_,b3⟩:=List.pairwise_append.1 hB
  refine ssort_app fun x hx y hy=>?_
  rcases List.mem_append.1 hx with hx|hx<;>rcases List.mem_append.1 hy with hy|hy
  · exact a3 x hx y hy
  · exact h2 x hx y hy
  · have:=h1 y hy x hx;omega
  · exact b3 x hx y hy
theorem rot_list {P A B R:List Pr}:px (P++(A++(B++R))) (rtf P.length (P.length+A.length) (P.length+A.length+B.length))=P++(B++(A++R)):=by
  apply List.ext_getElem?
  intro x
  rw [px_at]
  have hgd:∀ {L:List Pr} {i:Nat},i < L.length→some (L.getD i default)=L[i]?:=fun {L i} h=>by
    rw [List.getD_eq_getElem?_getD,List.getElem?_eq_getElem h];rfl
  by_cases hx:x < (P++(A++(B++R))).length
  · rw [if_pos hx, hgd (rtf_lt (by omega) (by omega) (by simp; omega) hx)]
    simp only [List.length_append] at hx
    unfold rtf
    by_cases h1:x < P.length
    · rw [if_neg (by omega),if_neg (by omega),List.getElem?_append_left h1,List.getElem?_append_left h1]
    · rw [List.getElem?_append_right (l₁ := P) (l₂ := B ++ (A ++ R)) (by omega)]
      by_cases h2:x < P.length+B.length
      · rw [if_pos (by omega), List.getElem?_append_right (by omega), List.getElem?_append_right (by omega), List.getElem?_append_left (by omega), List.getElem?_append_left (by omega)]
        congr 1;omega
      · rw [if_neg (by omega), List.getElem?_append_right (l₁ := B) (by omega)]
        by_cases h3:x < P.length+B.length+A.length
        · rw [if_pos (by omega), List.getElem?_append_right (by omega), List.getElem?_append_left (by omega), List.getElem?_append_left (by omega)]
          congr 1;omega
        · rw [if_neg (by omega), List.getElem?_append_right (by omega), List.getElem?_append_right (by omega), List.getElem?_append_right (by omega), List.getElem?_append_right (by omega)]
          congr 1;omega
  · rw [if_neg hx,List.getElem?_eq_none (by simp at hx ⊢;omega)]
theorem idx_lo {B:List Pr} (h:SLe B) (k:ByteArray) {i:Nat} (hi:i < B.length):cB (B[i]).1 k < 0↔i < (lo B k).length:=by
  have hs:=lo_split h k
  constructor
  · intro hc
    rcases Nat.lt_or_ge i (lo B k).length with h|h
    · exact h
    · exfalso
      have hm:B[i] ∈ B.filter (fun p=>!decide (cB p.1 k < 0)):=by
        have e:B[i]? = (B.filter (fun p=>!decide (cB p.1 k < 0)))[i - (lo B k).length]?:=by
          conv=>lhs;rw [hs]
          exact List.getElem?_append_right h
        rw [List.getElem?_eq_getElem hi] at e
        exact List.mem_of_getElem? e.symm
      have:=(List.mem_filter.1 hm).2
      simp at this
      omega
  · intro hl
    have e:B[i]? = (lo B k)[i]?:=by
      conv=>lhs;rw [hs]
      exact List.getElem?_append_left hl
    rw [List.getElem?_eq_getElem hi,List.getElem?_eq_getElem hl] at e
    have e2:=Option.some.inj e
    have:=(List.mem_filter.1 (List.getElem_mem hl)).2
    rw [← e2] at this
    simpa using this
theorem idx_le {B:List Pr} (h:SLe B) (k:ByteArray) {i:Nat} (hib:i < B.length):cB (B[i]).1 k≤0↔i < (le B k).length:=by
  have hs:=le_split h k
  constructor
  · intro hc
    rcases Nat.lt_or_ge i (le B k).length with h|h
    · exact h
    · exfalso
      have hm:B[i] ∈ hi B k:=by
        have e:B[i]? = (hi B k)[i - (le B k).length]?:=by
          conv=>lhs;rw [hs]
          exact List.getElem?_append_right h
        rw [List.getElem?_eq_getElem hib] at e
        exact List.mem_of_getElem? e.symm
      have:=(List.mem_filter.1 hm).2
      simp only [decide_eq_true_eq] at this
      rw [cB_anti (B[i]).1 k] at this
      omega
  · intro hl
    have e:B[i]? = (le B k)[i]?:=by
      conv=>lhs;rw [hs]
      exact List.getElem?_append_left hl
    rw [List.getElem?_eq_getElem hib,List.getElem?_eq_getElem hl] at e
    have e2:=Option.some.inj e
    have:=(List.mem_filter.1 (List.getElem_mem hl)).2
    rw [← e2] at this
    simpa using this
theorem lo_take {B:List Pr} (h:SLe B) (k:ByteArray):B.take (lo B k).length=lo B k:=by
  have:=List.take_left (l₁:=lo B k) (l₂:=B.filter (fun p=>!decide (cB p.1 k < 0)))
  rwa [← lo_split h k] at this
theorem le_take {B:List Pr} (h:SLe B) (k:ByteArray):B.take (le B k).length=le B k:=by
  have:=List.take_left (l₁:=le B k) (l₂:=hi B k)
  rwa [← le_split h k] at this
theorem hi_drop {B:List Pr} (h:SLe B) (k:ByteArray):B.drop (le B k).length=hi B k:=by
  have:=List.drop_left (l₁:=le B k) (l₂:=hi B k)
  rwa [← le_split h k] at this
theorem lo_len {B:List Pr} {k:ByteArray}:(lo B k).length≤B.length:=List.length_filter_le ..
theorem le_len {B:List Pr} {k:ByteArray}:(le B k).length≤B.length:=List.length_filter_le ..
theorem one_left {B:List Pr} (h:SLe B) (x:Pr):B.take (lo B x.1).length++x::B.drop (lo B x.1).length=ssort (x::B):=by
  have hd:B.drop (lo B x.1).length=B.filter (fun p=>!decide (cB p.1 x.1 < 0)):=by
    have:=List.drop_left (l₁:=lo B x.1) (l₂:=B.filter (fun p=>!decide (cB p.1 x.1 < 0)))
    rwa [← lo_split h x.1] at this
  rw [lo_take h,hd]
  refine srt_uniq ?_ (ssort_le _) fun k=>?_
  · refine List.pairwise_append.2 ⟨List.Pairwise.filter _ h,List.pairwise_cons.2 ⟨fun q hq=>?_,List.Pairwise.filter _ h⟩,fun p hp q hq=>?_⟩
    · have := (List.mem_filter.1 hq).2
      simp at this
      rw [cB_anti q.1 x.1];omega
    · have h1 : cB p.1 x.1 < 0 := by have := (List.mem_filter.1 hp).2; simpa using this
      rcases List.mem_cons.1 hq with rfl|hq
      · omega
      · have := (List.mem_filter.1 hq).2
        simp at this
        exact cB_le (b:=x.1) (by omega) (by rw [cB_anti q.1 x.1];omega)
  · rw [ssort_fk, fk_append, fk_cons, fk_cons]
    have e:fk k B=fk k (lo B x.1)++fk k (B.filter fun p=>!decide (cB p.1 x.1 < 0)):=by
      rw [← fk_append,← lo_split h x.1]
    rw [e]
    by_cases hk:x.1=k
    · subst hk
      have:fk x.1 (lo B x.1)=[]:=by rw [fk_lo,cB_self];simp
      simp [this]
    · simp [hk]
theorem one_right {A:List Pr} (h:SLe A) (x:Pr):A.take (le A x.1).length++x::A.drop (le A x.1).length=ssort (A++[x]):=by
  have hd:A.drop (le A x.1).length=hi A x.1:=hi_drop h x.1
  rw [hd,le_take h]
  have:=ins_at (S:=ssort A) (S1:=le A x.1) (S2:=hi A x.1) (x:=x) (L:=A) (by rw [ssort_of h,← le_split h x.1]) (fun p hp=>by have:=(List.mem_filter.1 hp).2;simpa using this) (fun q hq=>by have:=(List.mem_filter.1 hq).2;simpa using this)
  exact this
end Go.Proofs.YtgpldekhcojimaaDoor.Sim.Pr7
namespace Go.Proofs.YtgpldekhcojimaaDoor.Sim.Pr7
open Go.RowKit
set_option maxRecDepth 100000
theorem sw_fwd {P S R:List Pr} {x y:Pr} {k:Nat} (hk:k=P.length+S.length):((P++(S++x::y::R)).set k y).set (k+1) x=P++(S++[y]++x::R):=by
  subst hk
  have e:P++(S++x::y::R)=(P++S)++x::y::R:=by simp
  have e2:P++(S++[y]++x::R)=(P++S)++y::x::R:=by simp
  rw [e,e2,show P.length+S.length=(P++S).length from (List.length_append).symm,List.set_append_right _ _ (by omega),List.set_append_right _ _ (by omega)]
  simp
theorem at_nx {P S R:List Pr} {x y:Pr} {k:Nat} (hk:k=P.length+S.length):(P++(S++x::y::R))[k+1]? = some y:=by
  have:=at_mid (P:=P) (S:=S++[x]) (x:=y) (R:=R) (k:=k+1) (by simp;omega)
  simpa using this
theorem gdA {P A R:List Pr} {k:Nat} (h1:P.length≤k) (h2:k < P.length+A.length):(P++(A++R))[k]? = some (A[k - P.length]'(by omega)):=by
  rw [List.getElem?_append_right h1,List.getElem?_append_left (by omega),List.getElem?_eq_getElem]
set_option maxHeartbeats 8000000 in
theorem symL (G : Nat → AV) (g : Nat) (P B R : List Pr) (x : Pr) (N a m b : Nat) (hN : (P ++ ([x] ++ (B ++ R))).length = N) (hP : P.length = a) (hA : a + 1 = m) (hB : m + B.length = b) (sB : SLe B) (hok : Okl (P ++ ([x] ++ (B ++ R)))) :
    HC Tryd.prog G 102 [.ol 0 g N,I a,I m,I b,cF] [rw0 (P++([x]++(B++R))) g] (.tup []) [rw0 (P++(ssort ([x]++B)++R)) g]:=by
  have hlen:=hok.len
  rw [hN] at hlen
  have hbN:b≤N:=by rw [← hN];simp;omega
  have hx:x.1.size≤9223372036854775807:=(hok.sz x (by simp)).1
  have hsB:∀ p ∈ B,p.1.size≤9223372036854775807:=fun p hp=>(hok.sz p (by simp [hp])).1
  obtain ⟨c,hc⟩:∃ c,c=(lo B x.1).length:=⟨_,rfl⟩
  have hcl:c≤B.length:=by rw [hc];exact lo_len
  have hfin:=one_left sB x
  rw [← hc] at hfin
  have ema:(m:Int) - (a:Int)=1:=by omega
  refine hc_of cop102 ?_
  show W _ _ _ _ ⟨_,_⟩;simp only [A102,List.cons_append,List.nil_append,List.length_cons,List.length_nil,Nat.reduceAdd,Nat.reduceSub,List.replicate]
  (refine w_skip_at 77 143 (by simp [skp_len]) fun f77=>?_;simp (disch:=omega) only [List.take_succ_cons,List.take_zero,List.drop_succ_cons,List.drop_zero,List.cons_append,List.nil_append,List.take_nil,List.drop_nil,skp_take,skp_drop,skp_app,Nat.reduceSub,Nat.reduceAdd,List.replicate_succ,List.replicate_zero])
  (refine w_skip_at 54 23 (by simp [skp_len]) fun f54=>?_;simp (disch:=omega) only [List.take_succ_cons,List.take_zero,List.drop_succ_cons,List.drop_zero,List.cons_append,List.nil_append,List.take_nil,List.drop_nil,skp_take,skp_drop,skp_app,Nat.reduceSub,Nat.reduceAdd,List.replicate_succ,List.replicate_zero])
  repeat (first|with_reducible refine w_seq ?_|with_reducible refine w_reg ?_|with_reducible refine w_block ?_|with_reducible refine ws_nil ?_|with_reducible refine q_then ?_|((first|with_reducible refine ks fun K hK=>?_|with_reducible refine kd fun K hK=>?_|with_reducible refine kc fun K hK2 hK hK3=>?_);simp (disch:=omega) only [bg0,bg1,bg2,bg3,bg4,stepO,rsAs,eff,AX.ev,St.put,binA,conc,ap1,ofVal,Int.reduceTMod,Int.reduceTDiv,reduceCtorEq,fillA,AV.cells,AV.fine,AV.one,Nat.reduceAdd,Nat.reduceSub,Nat.reduceMul,Nat.reduceLT,Nat.reduceLeDiff,Int.reduceLT,Int.reduceLE,Int.reduceAdd,Int.reduceSub,Int.reduceNeg,Int.reduceMul,Int.reduceEq,Int.reduceToNat,nilA,moveA,live,loadA,rdA,storeA,wrA,intA,elemA,lenA,appA,srcA,isPtr,isNilPtr,partA,resOf,sliceA,cut,id,ap2,reduceIte,concs,chkB,geB,AOp.cls,AOp.xs,ltB,ltC,Nat.reduceBEq,Option.toList,List.cons_append,decide_eq_true,decide_eq_false,if_pos,if_neg,List.length_map,List.cons_append,bVb,bVn,eq_self,Bool.and_self,BEq.rfl,not_true_eq_false,set_pA,List.length_set,cVu,cVi,shr1,ema];(first|((with_reducible refine hK _ ?_);clear hK K)|((with_reducible refine hK ?_);clear hK hK3 K hK2)|((with_reducible refine hK3 ?_);clear hK hK3 K hK2))))
  refine w_loop_d [10,11,12,31,32,33,34,35,36,37,38,39,40,41,42,43,44,45,46,47,48,49,50,51,52,53] (fun u v H=>∃ i j:Nat,u=j - i∧v 10=I i∧v 11=I j∧m≤i∧i≤m+c∧m+c≤j∧j≤b∧H=[rw0 (P++([x]++(B++R))) g]) (b - m) ⟨m,b,rfl,rfl,rfl,by omega,by omega,by omega,by omega,rfl⟩ ?_
  rintro u v H ⟨i,j,rfl,h10,h11,i1,i2,i3,i4,rfl⟩
  simp only [mix,mix_nil,mix_end,mix_skp,Nat.reduceEqDiff,Nat.reduceLeDiff,reduceCtorEq,if_true,if_false,reduceIte,Nat.reduceAdd,h10,h11]
  by_cases hij:i < j
  · obtain ⟨h, hh⟩ : ∃ h, h = (i + j) / 2 := ⟨_, rfl⟩
    have q1:((P++([x]++(B++R))).map pA)[h]? = some (.agg [S (B[h - m]'(by omega)).1,S (B[h - m]'(by omega)).2]):=pAq (by
      have:=gdA (P:=P++[x]) (A:=B) (R:=R) (k:=h) (by simp;omega) (by simp;omega)
      simp only [List.append_assoc] at this
      rw [this]
      congr 2
      simp;omega)
    have q2:((P++([x]++(B++R))).map pA)[a]? = some (.agg [S x.1,S x.2]):=pAq (at_mid (S:=[]) (by simp;omega))
    have hy:=hsB _ (List.getElem_mem (l:=B) (n:=h - m) (by omega))
    have hidx:=idx_lo sB x.1 (i:=h - m) (by omega)
    rw [← hc] at hidx
    generalize B[h - m]'(by omega)=y at *
    have hm:=hh.symm
    have hNl:=hN
    generalize P++([x]++(B++R))=C at *
    by_cases hlt:cB y.1 x.1 < 0
    · have := hidx.1 hlt
      repeat (first|with_reducible refine w_seq ?_|with_reducible refine w_reg ?_|with_reducible refine w_draw ?_|with_reducible refine w_block ?_|with_reducible refine w_skip ?_|with_reducible refine ws_nil ?_|with_reducible refine wd_nil ?_|with_reducible refine q_then ?_|with_reducible refine q_block_n ?_|((first|with_reducible refine ks fun K hK=>?_|with_reducible refine kd fun K hK=>?_|with_reducible refine kc fun K hK2 hK hK3=>?_);simp (disch:=omega) only [bg0,bg1,bg2,bg3,bg4,stepO,rsAs,eff,AX.ev,St.put,binA,conc,ap1,ofVal,Int.reduceTMod,Int.reduceTDiv,reduceCtorEq,fillA,AV.cells,AV.fine,AV.one,Nat.reduceAdd,Nat.reduceSub,Nat.reduceMul,Nat.reduceLT,Nat.reduceLeDiff,Int.reduceLT,Int.reduceLE,Int.reduceAdd,Int.reduceSub,Int.reduceNeg,Int.reduceMul,Int.reduceEq,Int.reduceToNat,nilA,moveA,live,loadA,rdA,storeA,wrA,intA,elemA,lenA,appA,srcA,isPtr,isNilPtr,partA,resOf,sliceA,cut,id,ap2,reduceIte,concs,chkB,geB,AOp.cls,AOp.xs,ltB,ltC,Nat.reduceBEq,Option.toList,List.cons_append,decide_eq_true,decide_eq_false,if_pos,if_neg,List.length_map,List.cons_append,bVb,bVn,eq_self,Bool.and_self,BEq.rfl,not_true_eq_false,set_pA,List.length_set,cVu,cVi,shr1,hm,q1,q2,hlt];(first|((with_reducible refine hK _ ?_);clear hK K)|((with_reducible refine hK ?_);clear hK hK3 K hK2)|((with_reducible refine hK3 ?_);clear hK hK3 K hK2)))|((first|((with_reducible refine kvd 80 ?_ ?_ ?_ ?_ ?_ ?_ ?_ ?_);rotate_left 3));(focus (simp (disch:=omega) only [bg0,bg1,bg2,bg3,bg4,stepO,rsAs,eff,AX.ev,St.put,binA,conc,ap1,ofVal,Int.reduceTMod,Int.reduceTDiv,reduceCtorEq,fillA,AV.cells,AV.fine,AV.one,Nat.reduceAdd,Nat.reduceSub,Nat.reduceMul,Nat.reduceLT,Nat.reduceLeDiff,Int.reduceLT,Int.reduceLE,Int.reduceAdd,Int.reduceSub,Int.reduceNeg,Int.reduceMul,Int.reduceEq,Int.reduceToNat,nilA,moveA,live,loadA,rdA,storeA,wrA,intA,elemA,lenA,appA,srcA,isPtr,isNilPtr,partA,resOf,sliceA,cut,id,ap2,reduceIte,concs,chkB,geB,AOp.cls,AOp.xs,ltB,ltC,Nat.reduceBEq,Option.toList,List.cons_append,decide_eq_true,decide_eq_false,if_pos,if_neg,List.length_map,List.cons_append,bVb,bVn,eq_self,Bool.and_self,BEq.rfl,not_true_eq_false,set_pA,List.length_set,cVu,cVi,shr1,hm,q1,q2,hlt];try rfl));(first|(rfl;exact hb80;exact (cmpC G _ hy hx)))))
      exact ⟨rfl,j - (h+1),by omega,h+1,j,rfl,rfl,rfl,by omega,by omega,by omega,by omega,rfl⟩
    · have:¬ (h - m < c):=fun h=>hlt (hidx.2 h)
      repeat (first|with_reducible refine w_seq ?_|with_reducible refine w_reg ?_|with_reducible refine w_draw ?_|with_reducible refine w_block ?_|with_reducible refine w_skip ?_|with_reducible refine ws_nil ?_|with_reducible refine wd_nil ?_|with_reducible refine q_then ?_|with_reducible refine q_block_n ?_|((first|with_reducible refine ks fun K hK=>?_|with_reducible refine kd fun K hK=>?_|with_reducible refine kc fun K hK2 hK hK3=>?_);simp (disch:=omega) only [bg0,bg1,bg2,bg3,bg4,stepO,rsAs,eff,AX.ev,St.put,binA,conc,ap1,ofVal,Int.reduceTMod,Int.reduceTDiv,reduceCtorEq,fillA,AV.cells,AV.fine,AV.one,Nat.reduceAdd,Nat.reduceSub,Nat.reduceMul,Nat.reduceLT,Nat.reduceLeDiff,Int.reduceLT,Int.reduceLE,Int.reduceAdd,Int.reduceSub,Int.reduceNeg,Int.reduceMul,Int.reduceEq,Int.reduceToNat,nilA,moveA,live,loadA,rdA,storeA,wrA,intA,elemA,lenA,appA,srcA,isPtr,isNilPtr,partA,resOf,sliceA,cut,id,ap2,reduceIte,concs,chkB,geB,AOp.cls,AOp.xs,ltB,ltC,Nat.reduceBEq,Option.toList,List.cons_append,decide_eq_true,decide_eq_false,if_pos,if_neg,List.length_map,List.cons_append,bVb,bVn,eq_self,Bool.and_self,BEq.rfl,not_true_eq_false,set_pA,List.length_set,cVu,cVi,shr1,hm,q1,q2,hlt];(first|((with_reducible refine hK _ ?_);clear hK K)|((with_reducible refine hK ?_);clear hK hK3 K hK2)|((with_reducible refine hK3 ?_);clear hK hK3 K hK2)))|((first|((with_reducible refine kvd 80 ?_ ?_ ?_ ?_ ?_ ?_ ?_ ?_);rotate_left 3));(focus (simp (disch:=omega) only [bg0,bg1,bg2,bg3,bg4,stepO,rsAs,eff,AX.ev,St.put,binA,conc,ap1,ofVal,Int.reduceTMod,Int.reduceTDiv,reduceCtorEq,fillA,AV.cells,AV.fine,AV.one,Nat.reduceAdd,Nat.reduceSub,Nat.reduceMul,Nat.reduceLT,Nat.reduceLeDiff,Int.reduceLT,Int.reduceLE,Int.reduceAdd,Int.reduceSub,Int.reduceNeg,Int.reduceMul,Int.reduceEq,Int.reduceToNat,nilA,moveA,live,loadA,rdA,storeA,wrA,intA,elemA,lenA,appA,srcA,isPtr,isNilPtr,partA,resOf,sliceA,cut,id,ap2,reduceIte,concs,chkB,geB,AOp.cls,AOp.xs,ltB,ltC,Nat.reduceBEq,Option.toList,List.cons_append,decide_eq_true,decide_eq_false,if_pos,if_neg,List.length_map,List.cons_append,bVb,bVn,eq_self,Bool.and_self,BEq.rfl,not_true_eq_false,set_pA,List.length_set,cVu,cVi,shr1,hm,q1,q2,hlt];try rfl));(first|(rfl;exact hb80;exact (cmpC G _ hy hx)))))
      exact ⟨rfl,h - i,by omega,i,h,rfl,rfl,rfl,by omega,by omega,by omega,by omega,rfl⟩
  · obtain rfl : i = m + c := by omega
    obtain rfl:j=m+c:=by omega
    (refine w_skip_at 25 29 (by simp [skp_len]) fun f25=>?_;simp (disch:=omega) only [List.take_succ_cons,List.take_zero,List.drop_succ_cons,List.drop_zero,List.cons_append,List.nil_append,List.take_nil,List.drop_nil,skp_take,skp_drop,skp_app,Nat.reduceSub,Nat.reduceAdd,List.replicate_succ,List.replicate_zero])
    (have ho:∀ (f:Nat→AV) (L:List AV),skp 23 f L=f 0::f 1::f 2::f 3::f 4::f 5::f 6::f 7::f 8::f 9::f 10::f 11::f 12::f 13::f 14::f 15::f 16::f 17::f 18::f 19::f 20::f 21::f 22::L:=fun _ _=>rfl;simp only [ho];clear ho)
    repeat (first|with_reducible refine w_seq ?_|with_reducible refine w_reg ?_|with_reducible refine w_block ?_|with_reducible refine w_exit ?_|with_reducible refine ws_nil ?_|with_reducible refine q_then ?_|with_reducible refine q_then_x ?_|with_reducible refine q_block_x ?_|((first|with_reducible refine ks fun K hK=>?_|with_reducible refine kd fun K hK=>?_|with_reducible refine kc fun K hK2 hK hK3=>?_);simp (disch:=omega) only [bg0,bg1,bg2,bg3,bg4,stepO,rsAs,eff,AX.ev,St.put,binA,conc,ap1,ofVal,Int.reduceTMod,Int.reduceTDiv,reduceCtorEq,fillA,AV.cells,AV.fine,AV.one,Nat.reduceAdd,Nat.reduceSub,Nat.reduceMul,Nat.reduceLT,Nat.reduceLeDiff,Int.reduceLT,Int.reduceLE,Int.reduceAdd,Int.reduceSub,Int.reduceNeg,Int.reduceMul,Int.reduceEq,Int.reduceToNat,nilA,moveA,live,loadA,rdA,storeA,wrA,intA,elemA,lenA,appA,srcA,isPtr,isNilPtr,partA,resOf,sliceA,cut,id,ap2,reduceIte,concs,chkB,geB,AOp.cls,AOp.xs,ltB,ltC,Nat.reduceBEq,Option.toList,List.cons_append,decide_eq_true,decide_eq_false,if_pos,if_neg,List.length_map,List.cons_append,bVb,bVn,eq_self,Bool.and_self,BEq.rfl,not_true_eq_false,set_pA,List.length_set,cVu,cVi,shr1];(first|((with_reducible refine hK _ ?_);clear hK K)|((with_reducible refine hK ?_);clear hK hK3 K hK2)|((with_reducible refine hK3 ?_);clear hK hK3 K hK2))))
    refine w_loop_m [13,55,56,57,58,59,60,61,62,63,64,65,66,67,68,69,70,71,72,73,74,75,76] (fun r v H=>v 13=I ((a+r:Nat):Int)∧H=[rw0 (P++(B.take r++x::(B.drop r++R))) g]) c ⟨by simp [at_],rfl⟩ ?_ ?_
    · rintro r v2 H hr ⟨h13, rfl⟩
      have hrB:r < B.length:=by omega
      have hSl:(B.take r).length=r:=by simp;omega
      have hdr:B.drop r=B[r]::B.drop (r+1):=List.drop_eq_getElem_cons hrB
      have htk:B.take (r+1)=B.take r++[B[r]]:=by rw [List.take_add_one,List.getElem?_eq_getElem hrB];rfl
      rw [hdr,htk]
      generalize B[r]=y at *
      have q1:=pAq (at_mid (P:=P) (S:=B.take r) (x:=x) (R:=y::(B.drop (r+1)++R)) (k:=a+r) (by omega))
      have q2:=pAq (at_nx (P:=P) (S:=B.take r) (x:=x) (y:=y) (R:=B.drop (r+1)++R) (k:=a+r) (by omega))
      have q3:(((P++(B.take r++x::y::(B.drop (r+1)++R))).set (a+r) y).map pA)[a+r+1]? = some (.agg [S y.1,S y.2]):=pAq (by rw [List.getElem?_set_ne (by omega)];exact at_nx (by omega))
      have hsw:=sw_fwd (P:=P) (S:=B.take r) (x:=x) (y:=y) (R:=B.drop (r+1)++R) (k:=a+r) (by omega)
      have hCl:(P++(B.take r++x::y::(B.drop (r+1)++R))).length=N:=by
        rw [← hN];simp [hSl];omega
      simp only [List.cons_append] at *
      generalize P++(B.take r++x::y::(B.drop (r+1)++R))=C at *
      have e1:((a:Int)+(r:Int)+1).toNat=a+r+1:=by omega
      have e2:((a:Int)+(r:Int)).toNat=a+r:=by omega
      have hw3:a+r+1 < N:=by omega
      have hcN:m+c≤N:=by omega
      clear hSl hdr htk hc hfin hB hbN hcl ema i1 i2 i3 i4 hij
      simp only [mix,mix_nil,mix_end,mix_skp,Nat.reduceEqDiff,Nat.reduceLeDiff,reduceCtorEq,if_true,if_false,reduceIte,Nat.reduceAdd,h13]
      repeat (first|with_reducible refine w_seq ?_|with_reducible refine w_reg ?_|(with_reducible refine w_drawx2 ?_ ?_ ?_ ?_;rotate_left 1)|with_reducible exact isSt|with_reducible refine w_block ?_|with_reducible refine w_skip ?_|with_reducible refine ws_nil ?_|with_reducible refine wd_nil ?_|with_reducible refine q_then ?_|with_reducible refine q_block_n ?_|((first|with_reducible refine ks fun K hK=>?_|with_reducible refine kd fun K hK=>?_|with_reducible refine kc fun K hK2 hK hK3=>?_);simp (disch:=omega) only [bg0,bg1,bg2,bg3,bg4,stepO,rsAs,eff,AX.ev,St.put,binA,conc,ap1,ofVal,Int.reduceTMod,Int.reduceTDiv,reduceCtorEq,fillA,AV.cells,AV.fine,AV.one,Nat.reduceAdd,Nat.reduceSub,Nat.reduceMul,Nat.reduceLT,Nat.reduceLeDiff,Int.reduceLT,Int.reduceLE,Int.reduceAdd,Int.reduceSub,Int.reduceNeg,Int.reduceMul,Int.reduceEq,Int.reduceToNat,nilA,moveA,live,loadA,rdA,storeA,wrA,intA,elemA,lenA,appA,srcA,isPtr,isNilPtr,partA,resOf,sliceA,cut,id,ap2,reduceIte,concs,chkB,geB,AOp.cls,AOp.xs,ltB,ltC,Nat.reduceBEq,Option.toList,List.cons_append,decide_eq_true,decide_eq_false,if_pos,if_neg,List.length_map,List.cons_append,bVb,bVn,eq_self,Bool.and_self,BEq.rfl,not_true_eq_false,set_pA,List.length_set,cVu,cVi,shr1,q1,q2,q3,e1,e2];(first|((with_reducible refine hK _ ?_);clear hK K)|((with_reducible refine hK ?_);clear hK hK3 K hK2)|((with_reducible refine hK3 ?_);clear hK hK3 K hK2))))
      exact ⟨rfl,by simp [at_];omega,rw0_eq hsw⟩
    · rintro v2 H ⟨h13, rfl⟩
      simp only [mix,mix_nil,mix_end,mix_skp,Nat.reduceEqDiff,Nat.reduceLeDiff,reduceCtorEq,if_true,if_false,reduceIte,Nat.reduceAdd,h13]
      (try simp only [List.cons_append,List.nil_append])
      rw [← hfin]
      simp only [List.append_assoc,List.cons_append]
      repeat (first|with_reducible refine w_seq ?_|with_reducible refine w_reg ?_|with_reducible refine w_exit ?_|with_reducible refine ws_nil ?_|with_reducible refine q_then ?_|with_reducible refine q_then_x ?_|with_reducible refine q_block_x ?_|with_reducible refine w_ret ?_|with_reducible refine q_then_r ?_|((first|with_reducible refine ks fun K hK=>?_|with_reducible refine kd fun K hK=>?_|with_reducible refine kc fun K hK2 hK hK3=>?_);simp (disch:=omega) only [bg0,bg1,bg2,bg3,bg4,stepO,rsAs,eff,AX.ev,St.put,binA,conc,ap1,ofVal,Int.reduceTMod,Int.reduceTDiv,reduceCtorEq,fillA,AV.cells,AV.fine,AV.one,Nat.reduceAdd,Nat.reduceSub,Nat.reduceMul,Nat.reduceLT,Nat.reduceLeDiff,Int.reduceLT,Int.reduceLE,Int.reduceAdd,Int.reduceSub,Int.reduceNeg,Int.reduceMul,Int.reduceEq,Int.reduceToNat,nilA,moveA,live,loadA,rdA,storeA,wrA,intA,elemA,lenA,appA,srcA,isPtr,isNilPtr,partA,resOf,sliceA,cut,id,ap2,reduceIte,concs,chkB,geB,AOp.cls,AOp.xs,ltB,ltC,Nat.reduceBEq,Option.toList,List.cons_append,decide_eq_true,decide_eq_false,if_pos,if_neg,List.length_map,List.cons_append,bVb,bVn,eq_self,Bool.and_self,BEq.rfl,not_true_eq_false,set_pA,List.length_set,cVu,cVi,shr1];(first|((with_reducible refine hK _ ?_);clear hK K)|((with_reducible refine hK ?_);clear hK hK3 K hK2)|((with_reducible refine hK3 ?_);clear hK hK3 K hK2)))|((with_reducible refine ret_0r ?_);try rfl))
set_option maxHeartbeats 8000000 in
theorem symR (G : Nat → AV) (g : Nat) (P A R : List Pr) (x : Pr) (N a m b : Nat) (hN : (P ++ (A ++ ([x] ++ R))).length = N) (hP : P.length = a) (hA : a + A.length = m) (hA2 : 2 ≤ A.length) (hB : m + 1 = b) (sA : SLe A) (hok : Okl (P ++ (A ++ ([x] ++ R)))) :
    HC Tryd.prog G 102 [.ol 0 g N,I a,I m,I b,cF] [rw0 (P++(A++([x]++R))) g] (.tup []) [rw0 (P++(ssort (A++[x])++R)) g]:=by
  have hlen:=hok.len
  rw [hN] at hlen
  have hbN:b≤N:=by rw [← hN];simp;omega
  have hx:x.1.size≤9223372036854775807:=(hok.sz x (by simp)).1
  have hsA:∀ p ∈ A,p.1.size≤9223372036854775807:=fun p hp=>(hok.sz p (by simp [hp])).1
  obtain ⟨c,hc⟩:∃ c,c=(le A x.1).length:=⟨_,rfl⟩
  have hcl:c≤A.length:=by rw [hc];exact le_len
  have hfin:=one_right sA x
  rw [← hc] at hfin
  have ema:¬ ((m:Int) - (a:Int)=1):=by omega
  have ebm:(b:Int) - (m:Int)=1:=by omega
  refine hc_of cop102 ?_
  show W _ _ _ _ ⟨_,_⟩;simp only [A102,List.cons_append,List.nil_append,List.length_cons,List.length_nil,Nat.reduceAdd,Nat.reduceSub,List.replicate]
  (refine w_skip_at 129 91 (by simp [skp_len]) fun f129=>?_;simp (disch:=omega) only [List.take_succ_cons,List.take_zero,List.drop_succ_cons,List.drop_zero,List.cons_append,List.nil_append,List.take_nil,List.drop_nil,skp_take,skp_drop,skp_app,Nat.reduceSub,Nat.reduceAdd,List.replicate_succ,List.replicate_zero])
  (refine w_skip_at 107 22 (by simp [skp_len]) fun f107=>?_;simp (disch:=omega) only [List.take_succ_cons,List.take_zero,List.drop_succ_cons,List.drop_zero,List.cons_append,List.nil_append,List.take_nil,List.drop_nil,skp_take,skp_drop,skp_app,Nat.reduceSub,Nat.reduceAdd,List.replicate_succ,List.replicate_zero])
  repeat (first|with_reducible refine w_seq ?_|with_reducible refine w_reg ?_|with_reducible refine w_block ?_|with_reducible refine w_skip ?_|with_reducible refine ws_nil ?_|with_reducible refine q_then ?_|((first|with_reducible refine ks fun K hK=>?_|with_reducible refine kd fun K hK=>?_|with_reducible refine kc fun K hK2 hK hK3=>?_);simp (disch:=omega) only [bg0,bg1,bg2,bg3,bg4,stepO,rsAs,eff,AX.ev,St.put,binA,conc,ap1,ofVal,Int.reduceTMod,Int.reduceTDiv,reduceCtorEq,fillA,AV.cells,AV.fine,AV.one,Nat.reduceAdd,Nat.reduceSub,Nat.reduceMul,Nat.reduceLT,Nat.reduceLeDiff,Int.reduceLT,Int.reduceLE,Int.reduceAdd,Int.reduceSub,Int.reduceNeg,Int.reduceMul,Int.reduceEq,Int.reduceToNat,nilA,moveA,live,loadA,rdA,storeA,wrA,intA,elemA,lenA,appA,srcA,isPtr,isNilPtr,partA,resOf,sliceA,cut,id,ap2,reduceIte,concs,chkB,geB,AOp.cls,AOp.xs,ltB,ltC,Nat.reduceBEq,Option.toList,List.cons_append,decide_eq_true,decide_eq_false,if_pos,if_neg,List.length_map,List.cons_append,bVb,bVn,eq_self,Bool.and_self,BEq.rfl,not_true_eq_false,set_pA,List.length_set,cVu,cVi,shr1,ema,ebm];(first|((with_reducible refine hK _ ?_);clear hK K)|((with_reducible refine hK ?_);clear hK hK3 K hK2)|((with_reducible refine hK3 ?_);clear hK hK3 K hK2))))
  (refine w_skip_at 25 58 (by simp [skp_len]) fun f25=>?_;simp (disch:=omega) only [List.take_succ_cons,List.take_zero,List.drop_succ_cons,List.drop_zero,List.cons_append,List.nil_append,List.take_nil,List.drop_nil,skp_take,skp_drop,skp_app,Nat.reduceSub,Nat.reduceAdd,List.replicate_succ,List.replicate_zero])
  refine w_loop_d [14,15,16,83,84,85,86,87,88,89,90,91,92,93,94,95,96,97,98,99,100,101,102,103,104,105,106] (fun u v H=>∃ i j:Nat,u=j - i∧v 14=I i∧v 15=I j∧a≤i∧i≤a+c∧a+c≤j∧j≤m∧H=[rw0 (P++(A++([x]++R))) g]) (m - a) ⟨a,m,rfl,rfl,rfl,by omega,by omega,by omega,by omega,rfl⟩ ?_
  rintro u v H ⟨i,j,rfl,h14,h15,i1,i2,i3,i4,rfl⟩
  simp only [mix,mix_nil,mix_end,mix_skp,Nat.reduceEqDiff,Nat.reduceLeDiff,reduceCtorEq,if_true,if_false,reduceIte,Nat.reduceAdd,h14,h15]
  by_cases hij:i < j
  · obtain ⟨h, hh⟩ : ∃ h, h = (i + j) / 2 := ⟨_, rfl⟩
    have q1:((P++(A++([x]++R))).map pA)[h]? = some (.agg [S (A[h - a]'(by omega)).1,S (A[h - a]'(by omega)).2]):=pAq (by
      have:=gdA (P:=P) (A:=A) (R:=[x]++R) (k:=h) (by omega) (by omega)
      rw [this]
      congr 2
      omega)
    have q2:((P++(A++([x]++R))).map pA)[m]? = some (.agg [S x.1,S x.2]):=pAq (at_mid (S:=A) (by omega))
    have hy:=hsA _ (List.getElem_mem (l:=A) (n:=h - a) (by omega))
    have hidx:=idx_le sA x.1 (i:=h - a) (by omega)
    rw [← hc] at hidx
    generalize A[h - a]'(by omega)=y at *
    have hm:=hh.symm
    have hNl:=hN
    generalize P++(A++([x]++R))=C at *
    have hanti:=cB_anti y.1 x.1
    by_cases hlt:cB x.1 y.1 < 0
    · have:¬ (h - a < c):=fun h=>by have:=hidx.2 h;omega
      repeat (first|with_reducible refine w_seq ?_|with_reducible refine w_reg ?_|with_reducible refine w_draw ?_|with_reducible refine w_block ?_|with_reducible refine w_skip ?_|with_reducible refine ws_nil ?_|with_reducible refine wd_nil ?_|with_reducible refine q_then ?_|with_reducible refine q_block_n ?_|((first|with_reducible refine ks fun K hK=>?_|with_reducible refine kd fun K hK=>?_|with_reducible refine kc fun K hK2 hK hK3=>?_);simp (disch:=omega) only [bg0,bg1,bg2,bg3,bg4,stepO,rsAs,eff,AX.ev,St.put,binA,conc,ap1,ofVal,Int.reduceTMod,Int.reduceTDiv,reduceCtorEq,fillA,AV.cells,AV.fine,AV.one,Nat.reduceAdd,Nat.reduceSub,Nat.reduceMul,Nat.reduceLT,Nat.reduceLeDiff,Int.reduceLT,Int.reduceLE,Int.reduceAdd,Int.reduceSub,Int.reduceNeg,Int.reduceMul,Int.reduceEq,Int.reduceToNat,nilA,moveA,live,loadA,rdA,storeA,wrA,intA,elemA,lenA,appA,srcA,isPtr,isNilPtr,partA,resOf,sliceA,cut,id,ap2,reduceIte,concs,chkB,geB,AOp.cls,AOp.xs,ltB,ltC,Nat.reduceBEq,Option.toList,List.cons_append,decide_eq_true,decide_eq_false,if_pos,if_neg,List.length_map,List.cons_append,bVb,bVn,eq_self,Bool.and_self,BEq.rfl,not_true_eq_false,set_pA,List.length_set,cVu,cVi,shr1,hm,q1,q2,hlt];(first|((with_reducible refine hK _ ?_);clear hK K)|((with_reducible refine hK ?_);clear hK hK3 K hK2)|((with_reducible refine hK3 ?_);clear hK hK3 K hK2)))|((first|((with_reducible refine kvd 80 ?_ ?_ ?_ ?_ ?_ ?_ ?_ ?_);rotate_left 3));(focus (simp (disch:=omega) only [bg0,bg1,bg2,bg3,bg4,stepO,rsAs,eff,AX.ev,St.put,binA,conc,ap1,ofVal,Int.reduceTMod,Int.reduceTDiv,reduceCtorEq,fillA,AV.cells,AV.fine,AV.one,Nat.reduceAdd,Nat.reduceSub,Nat.reduceMul,Nat.reduceLT,Nat.reduceLeDiff,Int.reduceLT,Int.reduceLE,Int.reduceAdd,Int.reduceSub,Int.reduceNeg,Int.reduceMul,Int.reduceEq,Int.reduceToNat,nilA,moveA,live,loadA,rdA,storeA,wrA,intA,elemA,lenA,appA,srcA,isPtr,isNilPtr,partA,resOf,sliceA,cut,id,ap2,reduceIte,concs,chkB,geB,AOp.cls,AOp.xs,ltB,ltC,Nat.reduceBEq,Option.toList,List.cons_append,decide_eq_true,decide_eq_false,if_pos,if_neg,List.length_map,List.cons_append,bVb,bVn,eq_self,Bool.and_self,BEq.rfl,not_true_eq_false,set_pA,List.length_set,cVu,cVi,shr1,hm,q1,q2,hlt];try rfl));(first|(rfl;exact hb80;exact (cmpC G _ hx hy)))))
      exact ⟨rfl,h - i,by omega,i,h,rfl,rfl,rfl,by omega,by omega,by omega,by omega,rfl⟩
    · have := hidx.1 (by omega)
      repeat (first|with_reducible refine w_seq ?_|with_reducible refine w_reg ?_|with_reducible refine w_draw ?_|with_reducible refine w_block ?_|with_reducible refine w_skip ?_|with_reducible refine ws_nil ?_|with_reducible refine wd_nil ?_|with_reducible refine q_then ?_|with_reducible refine q_block_n ?_|((first|with_reducible refine ks fun K hK=>?_|with_reducible refine kd fun K hK=>?_|with_reducible refine kc fun K hK2 hK hK3=>?_);simp (disch:=omega) only [bg0,bg1,bg2,bg3,bg4,stepO,rsAs,eff,AX.ev,St.put,binA,conc,ap1,ofVal,Int.reduceTMod,Int.reduceTDiv,reduceCtorEq,fillA,AV.cells,AV.fine,AV.one,Nat.reduceAdd,Nat.reduceSub,Nat.reduceMul,Nat.reduceLT,Nat.reduceLeDiff,Int.reduceLT,Int.reduceLE,Int.reduceAdd,Int.reduceSub,Int.reduceNeg,Int.reduceMul,Int.reduceEq,Int.reduceToNat,nilA,moveA,live,loadA,rdA,storeA,wrA,intA,elemA,lenA,appA,srcA,isPtr,isNilPtr,partA,resOf,sliceA,cut,id,ap2,reduceIte,concs,chkB,geB,AOp.cls,AOp.xs,ltB,ltC,Nat.reduceBEq,Option.toList,List.cons_append,decide_eq_true,decide_eq_false,if_pos,if_neg,List.length_map,List.cons_append,bVb,bVn,eq_self,Bool.and_self,BEq.rfl,not_true_eq_false,set_pA,List.length_set,cVu,cVi,shr1,hm,q1,q2,hlt];(first|((with_reducible refine hK _ ?_);clear hK K)|((with_reducible refine hK ?_);clear hK hK3 K hK2)|((with_reducible refine hK3 ?_);clear hK hK3 K hK2)))|((first|((with_reducible refine kvd 80 ?_ ?_ ?_ ?_ ?_ ?_ ?_ ?_);rotate_left 3));(focus (simp (disch:=omega) only [bg0,bg1,bg2,bg3,bg4,stepO,rsAs,eff,AX.ev,St.put,binA,conc,ap1,ofVal,Int.reduceTMod,Int.reduceTDiv,reduceCtorEq,fillA,AV.cells,AV.fine,AV.one,Nat.reduceAdd,Nat.reduceSub,Nat.reduceMul,Nat.reduceLT,Nat.reduceLeDiff,Int.reduceLT,Int.reduceLE,Int.reduceAdd,Int.reduceSub,Int.reduceNeg,Int.reduceMul,Int.reduceEq,Int.reduceToNat,nilA,moveA,live,loadA,rdA,storeA,wrA,intA,elemA,lenA,appA,srcA,isPtr,isNilPtr,partA,resOf,sliceA,cut,id,ap2,reduceIte,concs,chkB,geB,AOp.cls,AOp.xs,ltB,ltC,Nat.reduceBEq,Option.toList,List.cons_append,decide_eq_true,decide_eq_false,if_pos,if_neg,List.length_map,List.cons_append,bVb,bVn,eq_self,Bool.and_self,BEq.rfl,not_true_eq_false,set_pA,List.length_set,cVu,cVi,shr1,hm,q1,q2,hlt];try rfl));(first|(rfl;exact hb80;exact (cmpC G _ hx hy)))))
      exact ⟨rfl,j - (h+1),by omega,h+1,j,rfl,rfl,rfl,by omega,by omega,by omega,by omega,rfl⟩
  · obtain rfl : i = a + c := by omega
    obtain rfl:j=a+c:=by omega
    (refine w_skip_at 83 24 (by simp [skp_len]) fun f83=>?_;simp (disch:=omega) only [List.take_succ_cons,List.take_zero,List.drop_succ_cons,List.drop_zero,List.cons_append,List.nil_append,List.take_nil,List.drop_nil,skp_take,skp_drop,skp_app,Nat.reduceSub,Nat.reduceAdd,List.replicate_succ,List.replicate_zero])
    (have ho:∀ (f:Nat→AV) (L:List AV),skp 22 f L=f 0::f 1::f 2::f 3::f 4::f 5::f 6::f 7::f 8::f 9::f 10::f 11::f 12::f 13::f 14::f 15::f 16::f 17::f 18::f 19::f 20::f 21::L:=fun _ _=>rfl;simp only [ho];clear ho)
    repeat (first|with_reducible refine w_seq ?_|with_reducible refine w_reg ?_|with_reducible refine w_block ?_|with_reducible refine w_exit ?_|with_reducible refine ws_nil ?_|with_reducible refine q_then ?_|with_reducible refine q_then_x ?_|with_reducible refine q_block_x ?_|((first|with_reducible refine ks fun K hK=>?_|with_reducible refine kd fun K hK=>?_|with_reducible refine kc fun K hK2 hK hK3=>?_);simp (disch:=omega) only [bg0,bg1,bg2,bg3,bg4,stepO,rsAs,eff,AX.ev,St.put,binA,conc,ap1,ofVal,Int.reduceTMod,Int.reduceTDiv,reduceCtorEq,fillA,AV.cells,AV.fine,AV.one,Nat.reduceAdd,Nat.reduceSub,Nat.reduceMul,Nat.reduceLT,Nat.reduceLeDiff,Int.reduceLT,Int.reduceLE,Int.reduceAdd,Int.reduceSub,Int.reduceNeg,Int.reduceMul,Int.reduceEq,Int.reduceToNat,nilA,moveA,live,loadA,rdA,storeA,wrA,intA,elemA,lenA,appA,srcA,isPtr,isNilPtr,partA,resOf,sliceA,cut,id,ap2,reduceIte,concs,chkB,geB,AOp.cls,AOp.xs,ltB,ltC,Nat.reduceBEq,Option.toList,List.cons_append,decide_eq_true,decide_eq_false,if_pos,if_neg,List.length_map,List.cons_append,bVb,bVn,eq_self,Bool.and_self,BEq.rfl,not_true_eq_false,set_pA,List.length_set,cVu,cVi,shr1];(first|((with_reducible refine hK _ ?_);clear hK K)|((with_reducible refine hK ?_);clear hK hK3 K hK2)|((with_reducible refine hK3 ?_);clear hK hK3 K hK2))))
    refine w_loop_m [17,108,109,110,111,112,113,114,115,116,117,118,119,120,121,122,123,124,125,126,127,128] (fun r v H=>v 17=I ((m - r:Nat):Int)∧H=[rw0 (P++(A.take (A.length - r)++x::(A.drop (A.length - r)++R))) g]) (A.length - c) ⟨rfl,by simp⟩ ?_ ?_
    · rintro r v2 H hr ⟨h17, rfl⟩
      obtain ⟨w,hw⟩:∃ w,w+1=A.length - r:=⟨A.length - r - 1,by omega⟩
      have hw2:A.length - (r+1)=w:=by omega
      rw [← hw,hw2]
      have hwA:w < A.length:=by omega
      have hSl:(A.take w).length=w:=by simp;omega
      have hdr:A.drop w=A[w]::A.drop (w+1):=List.drop_eq_getElem_cons hwA
      have htk:A.take (w+1)=A.take w++[A[w]]:=by rw [List.take_add_one,List.getElem?_eq_getElem hwA];rfl
      rw [hdr,htk]
      generalize A[w]=y at *
      have hmr:m - r=a+w+1:=by omega
      have hmr2:m - (r+1)=a+w:=by omega
      rw [hmr] at h17
      rw [hmr2]
      have q1:=pAq (at_mid (P:=P) (S:=A.take w++[y]) (x:=x) (R:=A.drop (w+1)++R) (k:=a+w+1) (by simp;omega))
      have q2:=pAq (at_pre (P:=P) (S:=A.take w) (x:=x) (y:=y) (R:=A.drop (w+1)++R) (k:=a+w) (by omega))
      have q3:(((P++(A.take w++[y]++x::(A.drop (w+1)++R))).set (a+w+1) y).map pA)[a+w]? = some (.agg [S y.1,S y.2]):=pAq (by rw [List.getElem?_set_ne (by omega)];exact at_pre (by omega))
      have hsw:=sw_mid (P:=P) (S:=A.take w) (x:=x) (y:=y) (R:=A.drop (w+1)++R) (k:=a+w) (by omega)
      have hCl:(P++(A.take w++[y]++x::(A.drop (w+1)++R))).length=N:=by
        rw [← hN];simp [hSl];omega
      generalize P++(A.take w++[y]++x::(A.drop (w+1)++R))=C at *
      have e1:((a:Int)+(w:Int)+1).toNat=a+w+1:=by omega
      have e2:((a:Int)+(w:Int)).toNat=a+w:=by omega
      have hw3:a+w+1 < N:=by omega
      have hw4:c≤w:=by omega
      clear hmr hmr2 hw hw2 hr hSl hdr htk hc hfin hA hB hbN hcl ema ebm i1 i2 i3 i4 hij
      simp only [mix,mix_nil,mix_end,mix_skp,Nat.reduceEqDiff,Nat.reduceLeDiff,reduceCtorEq,if_true,if_false,reduceIte,Nat.reduceAdd,h17]
      repeat (first|with_reducible refine w_seq ?_|with_reducible refine w_reg ?_|(with_reducible refine w_drawx2 ?_ ?_ ?_ ?_;rotate_left 1)|with_reducible exact isSt|with_reducible refine w_block ?_|with_reducible refine w_skip ?_|with_reducible refine ws_nil ?_|with_reducible refine wd_nil ?_|with_reducible refine q_then ?_|with_reducible refine q_block_n ?_|((first|with_reducible refine ks fun K hK=>?_|with_reducible refine kd fun K hK=>?_|with_reducible refine kc fun K hK2 hK hK3=>?_);simp (disch:=omega) only [bg0,bg1,bg2,bg3,bg4,stepO,rsAs,eff,AX.ev,St.put,binA,conc,ap1,ofVal,Int.reduceTMod,Int.reduceTDiv,reduceCtorEq,fillA,AV.cells,AV.fine,AV.one,Nat.reduceAdd,Nat.reduceSub,Nat.reduceMul,Nat.reduceLT,Nat.reduceLeDiff,Int.reduceLT,Int.reduceLE,Int.reduceAdd,Int.reduceSub,Int.reduceNeg,Int.reduceMul,Int.reduceEq,Int.reduceToNat,nilA,moveA,live,loadA,rdA,storeA,wrA,intA,elemA,lenA,appA,srcA,isPtr,isNilPtr,partA,resOf,sliceA,cut,id,ap2,reduceIte,concs,chkB,geB,AOp.cls,AOp.xs,ltB,ltC,Nat.reduceBEq,Option.toList,List.cons_append,decide_eq_true,decide_eq_false,if_pos,if_neg,List.length_map,List.cons_append,bVb,bVn,eq_self,Bool.and_self,BEq.rfl,not_true_eq_false,set_pA,List.length_set,cVu,cVi,shr1,q1,q2,q3,e1,e2];(first|((with_reducible refine hK _ ?_);clear hK K)|((with_reducible refine hK ?_);clear hK hK3 K hK2)|((with_reducible refine hK3 ?_);clear hK hK3 K hK2))))
      exact ⟨rfl,by simp [at_],rw0_eq hsw⟩
    · rintro v2 H ⟨h17, rfl⟩
      rw [show m - (A.length - c)=a+c by omega] at h17
      rw [show A.length - (A.length - c)=c by omega]
      simp only [mix,mix_nil,mix_end,mix_skp,Nat.reduceEqDiff,Nat.reduceLeDiff,reduceCtorEq,if_true,if_false,reduceIte,Nat.reduceAdd,h17]
      rw [← hfin]
      simp only [List.append_assoc,List.cons_append]
      repeat (first|with_reducible refine w_seq ?_|with_reducible refine w_reg ?_|with_reducible refine w_exit ?_|with_reducible refine ws_nil ?_|with_reducible refine q_then ?_|with_reducible refine q_then_x ?_|with_reducible refine q_block_x ?_|with_reducible refine w_ret ?_|with_reducible refine q_then_r ?_|((first|with_reducible refine ks fun K hK=>?_|with_reducible refine kd fun K hK=>?_|with_reducible refine kc fun K hK2 hK hK3=>?_);simp (disch:=omega) only [bg0,bg1,bg2,bg3,bg4,stepO,rsAs,eff,AX.ev,St.put,binA,conc,ap1,ofVal,Int.reduceTMod,Int.reduceTDiv,reduceCtorEq,fillA,AV.cells,AV.fine,AV.one,Nat.reduceAdd,Nat.reduceSub,Nat.reduceMul,Nat.reduceLT,Nat.reduceLeDiff,Int.reduceLT,Int.reduceLE,Int.reduceAdd,Int.reduceSub,Int.reduceNeg,Int.reduceMul,Int.reduceEq,Int.reduceToNat,nilA,moveA,live,loadA,rdA,storeA,wrA,intA,elemA,lenA,appA,srcA,isPtr,isNilPtr,partA,resOf,sliceA,cut,id,ap2,reduceIte,concs,chkB,geB,AOp.cls,AOp.xs,ltB,ltC,Nat.reduceBEq,Option.toList,List.cons_append,decide_eq_true,decide_eq_false,if_pos,if_neg,List.length_map,List.cons_append,bVb,bVn,eq_self,Bool.and_self,BEq.rfl,not_true_eq_false,set_pA,List.length_set,cVu,cVi,shr1];(first|((with_reducible refine hK _ ?_);clear hK K)|((with_reducible refine hK ?_);clear hK hK3 K hK2)|((with_reducible refine hK3 ?_);clear hK hK3 K hK2)))|((with_reducible refine ret_0r ?_);try rfl))
end Go.Proofs.YtgpldekhcojimaaDoor.Sim.Pr7
namespace Go.Proofs.YtgpldekhcojimaaDoor.Sim.Pr7
open Go.RowKit
set_option maxRecDepth 100000
def SymOk (G : Nat → AV) : Prop := ∀ (g n : Nat) (P A B R : List Pr) (N a m b : Nat), A.length + B.length ≤ n → (P ++ (A ++ (B ++ R))).length = N → P.length = a → a + A.length = m → m + B.length = b → 0 < A.length → 0 < B.length → SLe A → SLe B → Okl (P ++ (A ++ (B ++ R))) →
    HC Tryd.prog G 102 [.ol 0 g N,I a,I m,I b,cF] [rw0 (P++(A++(B++R))) g] (.tup []) [rw0 (P++(ssort (A++B)++R)) g]
theorem srt_all (D:List Pr):srt D 0 D.length=ssort D:=by simp [srt,seg]
theorem srt_len {D:List Pr} {a b:Nat} (h:a≤b) (hb:b≤D.length):(srt D a b).length=D.length:=by
  simp [srt,ssort_len,seg];omega
theorem srt_mem {D:List Pr} {a b:Nat} {x:Pr} (h:x ∈ srt D a b):x ∈ D:=by
  simp only [srt,List.mem_append,ssort_mem] at h
  rcases h with h|h|h
  · exact List.mem_of_mem_take h
  · exact seg_mem h
  · exact List.mem_of_mem_drop h
theorem okl_srt {D:List Pr} {a b:Nat} (hD:Okl D) (h:a≤b) (hb:b≤D.length):Okl (srt D a b):=⟨by rw [srt_len h hb];exact hD.len,fun p hp=>hD.sz p (srt_mem hp)⟩
theorem srt_two {D:List Pr} {c:Nat} (hc:c≤D.length):srt (srt D 0 c) c D.length=ssort (D.take c)++(ssort (D.drop c)++[]):=by
  have h1:srt D 0 c=ssort (D.take c)++D.drop c:=by simp [srt,seg]
  have h2:(ssort (D.take c)).length=c:=by rw [ssort_len];simp;omega
  rw [h1]
  unfold srt seg
  have e1:(ssort (D.take c)++D.drop c).take c=ssort (D.take c):=by
    have:=List.take_left (l₁:=ssort (D.take c)) (l₂:=D.drop c)
    rwa [h2] at this
  have e2:((ssort (D.take c)++D.drop c).take D.length).drop c=D.drop c:=by
    rw [List.take_of_length_le (by simp [h2];omega)]
    have:=List.drop_left (l₁:=ssort (D.take c)) (l₂:=D.drop c)
    rwa [h2] at this
  have e3:(ssort (D.take c)++D.drop c).drop D.length=[]:=List.drop_of_length_le (by simp [h2];omega)
  rw [e1,e2,e3]
theorem ssort_two (X Y:List Pr):ssort (ssort X++ssort Y)=ssort (X++Y) :=
  srt_uniq (ssort_le _) (ssort_le _) fun k=>by simp only [ssort_fk,fk_append]
set_option maxHeartbeats 8000000 in
theorem stable37 (G : Nat → AV) (hS : SymOk G) (D : List Pr) (g : Nat) (hD : Okl D) (h40 : D.length ≤ 40) :
    HC Tryd.prog G 97 [.ol 0 g D.length,I D.length,cF] [rw0 D g] (.tup []) [rw0 (ssort D) g]:=by
  obtain ⟨N,hN⟩:∃ N,N=D.length:=⟨_,rfl⟩
  by_cases h1:N < 20
  · have i1 := ins43 G D g 0 N hD (by omega) (by omega)
    rw [hN,srt_all] at i1
    rw [← hN] at i1 ⊢
    refine hc_of cop97 ?_
    show W _ _ _ _ ⟨_,_⟩;simp only [A97,List.cons_append,List.nil_append,List.length_cons,List.length_nil,Nat.reduceAdd,Nat.reduceSub,List.replicate]
    clear hD hS
    repeat (first|with_reducible refine w_seq ?_|with_reducible refine w_reg ?_|with_reducible refine w_block ?_|with_reducible refine w_exit ?_|with_reducible refine ws_nil ?_|with_reducible refine q_then ?_|with_reducible refine q_then_x ?_|with_reducible refine q_block_x ?_|(with_reducible refine w_loopF 60 ?_)|(with_reducible refine w_loopS ?_)|((first|with_reducible refine ks fun K hK=>?_|with_reducible refine kd fun K hK=>?_|with_reducible refine kc fun K hK2 hK hK3=>?_);simp (disch:=omega) only [bg0,bg1,bg2,bg3,bg4,stepO,rsAs,eff,AX.ev,St.put,binA,conc,ap1,ofVal,Int.reduceTMod,Int.reduceTDiv,reduceCtorEq,fillA,AV.cells,AV.fine,AV.one,Nat.reduceAdd,Nat.reduceSub,Nat.reduceMul,Nat.reduceLT,Nat.reduceLeDiff,Int.reduceLT,Int.reduceLE,Int.reduceAdd,Int.reduceSub,Int.reduceNeg,Int.reduceMul,Int.reduceEq,Int.reduceToNat,nilA,moveA,live,loadA,rdA,storeA,wrA,intA,elemA,lenA,appA,srcA,isPtr,isNilPtr,partA,resOf,sliceA,cut,id,ap2,reduceIte,concs,chkB,geB,AOp.cls,AOp.xs,ltB,ltC,Nat.reduceBEq,Option.toList,List.cons_append,decide_eq_true,decide_eq_false,if_pos,if_neg,List.length_map,pA_at,List.cons_append,bVb,bVn,eq_self,Bool.and_self,BEq.rfl,not_true_eq_false];(first|((with_reducible refine hK _ ?_);clear hK K)|((with_reducible refine hK ?_);clear hK hK3 K hK2)|((with_reducible refine hK3 ?_);clear hK hK3 K hK2)))|((with_reducible refine khs 101 ?_ ?_ ?_ ?_);rotate_left 2;exact i1)|((with_reducible refine ret_0 ?_);try rfl))
  have i1:=ins43 G D g 0 20 hD (by omega) (by omega)
  have l1:=srt_len (D:=D) (a:=0) (b:=20) (by omega) (by omega)
  by_cases h2:N=20
  · have i2 := ins43 G (srt D 0 20) g 20 20 (okl_srt hD (by omega) (by omega)) (by omega) (by omega)
    rw [srt_one (D:=srt D 0 20) (by omega) (by omega) (by omega)] at i2
    have e:srt D 0 20=ssort D:=by rw [show 20=D.length by omega];exact srt_all D
    rw [e] at i1 i2 l1
    rw [l1] at i2
    rw [← hN,h2] at i1 i2 ⊢
    refine hc_of cop97 ?_
    show W _ _ _ _ ⟨_,_⟩;simp only [A97,List.cons_append,List.nil_append,List.length_cons,List.length_nil,Nat.reduceAdd,Nat.reduceSub,List.replicate]
    clear hD hS
    repeat (first|with_reducible refine w_seq ?_|with_reducible refine w_reg ?_|with_reducible refine w_block ?_|with_reducible refine w_skip ?_|with_reducible refine w_exit ?_|with_reducible refine ws_nil ?_|with_reducible refine q_then ?_|with_reducible refine q_then_x ?_|with_reducible refine q_block_n ?_|with_reducible refine q_block_x ?_|(with_reducible refine w_loopF 60 ?_)|(with_reducible refine w_loopS ?_)|((first|with_reducible refine ks fun K hK=>?_|with_reducible refine kd fun K hK=>?_|with_reducible refine kc fun K hK2 hK hK3=>?_);simp (disch:=omega) only [bg0,bg1,bg2,bg3,bg4,stepO,rsAs,eff,AX.ev,St.put,binA,conc,ap1,ofVal,Int.reduceTMod,Int.reduceTDiv,reduceCtorEq,fillA,AV.cells,AV.fine,AV.one,Nat.reduceAdd,Nat.reduceSub,Nat.reduceMul,Nat.reduceLT,Nat.reduceLeDiff,Int.reduceLT,Int.reduceLE,Int.reduceAdd,Int.reduceSub,Int.reduceNeg,Int.reduceMul,Int.reduceEq,Int.reduceToNat,nilA,moveA,live,loadA,rdA,storeA,wrA,intA,elemA,lenA,appA,srcA,isPtr,isNilPtr,partA,resOf,sliceA,cut,id,ap2,reduceIte,concs,chkB,geB,AOp.cls,AOp.xs,ltB,ltC,Nat.reduceBEq,Option.toList,List.cons_append,decide_eq_true,decide_eq_false,if_pos,if_neg,List.length_map,pA_at,List.cons_append,bVb,bVn,eq_self,Bool.and_self,BEq.rfl,not_true_eq_false];(first|((with_reducible refine hK _ ?_);clear hK K)|((with_reducible refine hK ?_);clear hK hK3 K hK2)|((with_reducible refine hK3 ?_);clear hK hK3 K hK2)))|((with_reducible refine khs 101 ?_ ?_ ?_ ?_);rotate_left 2;exact i1)|((with_reducible refine khs 101 ?_ ?_ ?_ ?_);rotate_left 2;exact i2)|((with_reducible refine ret_0 ?_);try rfl))
  have i2:=ins43 G (srt D 0 20) g 20 D.length (okl_srt hD (by omega) (by omega)) (by omega) (by omega)
  rw [srt_two (by omega),l1] at i2
  have s3:=hS g D.length [] (ssort (D.take 20)) (ssort (D.drop 20)) [] N 0 20 N (by simp [ssort_len];omega) (by simp [ssort_len];omega) rfl (by simp [ssort_len];omega) (by simp [ssort_len];omega) (by simp [ssort_len];omega) (by simp [ssort_len];omega) (ssort_le _) (ssort_le _) ⟨by simp [ssort_len];omega,fun p hp=>by
    simp only [List.nil_append,List.append_nil,List.mem_append,ssort_mem] at hp
    rcases hp with h|h
    · exact hD.sz p (List.mem_of_mem_take h)
    · exact hD.sz p (List.mem_of_mem_drop h)⟩
  rw [ssort_two,List.take_append_drop] at s3
  simp only [List.nil_append,List.append_nil] at s3 i2
  have l2:(ssort (D.take 20)++ssort (D.drop 20)).length=N:=by simp [ssort_len];omega
  rw [← hN] at i1 i2 ⊢
  by_cases h3:N < 40
  · generalize srt D 0 20 = D1 at *
    generalize ssort (D.take 20)++ssort (D.drop 20)=D2 at *
    generalize ssort D=D3 at *
    refine hc_of cop97 ?_
    show W _ _ _ _ ⟨_,_⟩;simp only [A97,List.cons_append,List.nil_append,List.length_cons,List.length_nil,Nat.reduceAdd,Nat.reduceSub,List.replicate]
    clear hD hS
    repeat (first|with_reducible refine w_seq ?_|with_reducible refine w_reg ?_|with_reducible refine w_block ?_|with_reducible refine w_skip ?_|with_reducible refine w_exit ?_|with_reducible refine ws_nil ?_|with_reducible refine q_then ?_|with_reducible refine q_then_x ?_|with_reducible refine q_block_n ?_|with_reducible refine q_block_x ?_|(with_reducible refine w_loopF 60 ?_)|(with_reducible refine w_loopS ?_)|((first|with_reducible refine ks fun K hK=>?_|with_reducible refine kd fun K hK=>?_|with_reducible refine kc fun K hK2 hK hK3=>?_);simp (disch:=omega) only [bg0,bg1,bg2,bg3,bg4,stepO,rsAs,eff,AX.ev,St.put,binA,conc,ap1,ofVal,Int.reduceTMod,Int.reduceTDiv,reduceCtorEq,fillA,AV.cells,AV.fine,AV.one,Nat.reduceAdd,Nat.reduceSub,Nat.reduceMul,Nat.reduceLT,Nat.reduceLeDiff,Int.reduceLT,Int.reduceLE,Int.reduceAdd,Int.reduceSub,Int.reduceNeg,Int.reduceMul,Int.reduceEq,Int.reduceToNat,nilA,moveA,live,loadA,rdA,storeA,wrA,intA,elemA,lenA,appA,srcA,isPtr,isNilPtr,partA,resOf,sliceA,cut,id,ap2,reduceIte,concs,chkB,geB,AOp.cls,AOp.xs,ltB,ltC,Nat.reduceBEq,Option.toList,List.cons_append,decide_eq_true,decide_eq_false,if_pos,if_neg,List.length_map,pA_at,List.cons_append,bVb,bVn,eq_self,Bool.and_self,BEq.rfl,not_true_eq_false];(first|((with_reducible refine hK _ ?_);clear hK K)|((with_reducible refine hK ?_);clear hK hK3 K hK2)|((with_reducible refine hK3 ?_);clear hK hK3 K hK2)))|((with_reducible refine khs 101 ?_ ?_ ?_ ?_);rotate_left 2;exact i1)|((with_reducible refine khs 101 ?_ ?_ ?_ ?_);rotate_left 2;exact i2)|((with_reducible refine khs 102 ?_ ?_ ?_ ?_);rotate_left 2;exact s3)|((with_reducible refine ret_0 ?_);try rfl))
  · obtain rfl : N = 40 := by omega
    have i3:=ins43 G (ssort (D.take 20)++ssort (D.drop 20)) g 40 40 ⟨by rw [l2];omega,fun p hp=>by
      simp only [List.mem_append,ssort_mem] at hp
      rcases hp with h|h
      · exact hD.sz p (List.mem_of_mem_take h)
      · exact hD.sz p (List.mem_of_mem_drop h)⟩ (by omega) (by omega)
    rw [srt_one (by omega) (by omega) (by omega),l2] at i3
    generalize srt D 0 20=D1 at *
    generalize ssort (D.take 20)++ssort (D.drop 20)=D2 at *
    generalize ssort D=D3 at *
    refine hc_of cop97 ?_
    show W _ _ _ _ ⟨_,_⟩;simp only [A97,List.cons_append,List.nil_append,List.length_cons,List.length_nil,Nat.reduceAdd,Nat.reduceSub,List.replicate]
    clear hD hS
    repeat (first|with_reducible refine w_seq ?_|with_reducible refine w_reg ?_|with_reducible refine w_block ?_|with_reducible refine w_skip ?_|with_reducible refine w_exit ?_|with_reducible refine ws_nil ?_|with_reducible refine q_then ?_|with_reducible refine q_then_x ?_|with_reducible refine q_block_n ?_|with_reducible refine q_block_x ?_|(with_reducible refine w_loopF 60 ?_)|(with_reducible refine w_loopS ?_)|((first|with_reducible refine ks fun K hK=>?_|with_reducible refine kd fun K hK=>?_|with_reducible refine kc fun K hK2 hK hK3=>?_);simp (disch:=omega) only [bg0,bg1,bg2,bg3,bg4,stepO,rsAs,eff,AX.ev,St.put,binA,conc,ap1,ofVal,Int.reduceTMod,Int.reduceTDiv,reduceCtorEq,fillA,AV.cells,AV.fine,AV.one,Nat.reduceAdd,Nat.reduceSub,Nat.reduceMul,Nat.reduceLT,Nat.reduceLeDiff,Int.reduceLT,Int.reduceLE,Int.reduceAdd,Int.reduceSub,Int.reduceNeg,Int.reduceMul,Int.reduceEq,Int.reduceToNat,nilA,moveA,live,loadA,rdA,storeA,wrA,intA,elemA,lenA,appA,srcA,isPtr,isNilPtr,partA,resOf,sliceA,cut,id,ap2,reduceIte,concs,chkB,geB,AOp.cls,AOp.xs,ltB,ltC,Nat.reduceBEq,Option.toList,List.cons_append,decide_eq_true,decide_eq_false,if_pos,if_neg,List.length_map,pA_at,List.cons_append,bVb,bVn,eq_self,Bool.and_self,BEq.rfl,not_true_eq_false];(first|((with_reducible refine hK _ ?_);clear hK K)|((with_reducible refine hK ?_);clear hK hK3 K hK2)|((with_reducible refine hK3 ?_);clear hK hK3 K hK2)))|((with_reducible refine khs 101 ?_ ?_ ?_ ?_);rotate_left 2;exact i1)|((with_reducible refine khs 101 ?_ ?_ ?_ ?_);rotate_left 2;exact i2)|((with_reducible refine khs 101 ?_ ?_ ?_ ?_);rotate_left 2;exact i3)|((with_reducible refine khs 102 ?_ ?_ ?_ ?_);rotate_left 2;exact s3)|((with_reducible refine ret_0 ?_);try rfl))
set_option maxHeartbeats 4000000 in
theorem sort28 (G : Nat → AV) (hS : SymOk G) (D : List Pr) (g : Nat) (hD : Okl D) (h40 : D.length ≤ 40) :
    HC Tryd.prog G 79 [.ol 0 g D.length,cF] [rw0 D g] (.tup []) [rw0 (ssort D) g]:=by
  have h:=stable37 G hS D g hD h40
  refine hc_of cop79 ?_
  show W _ _ _ _ ⟨_,_⟩;simp only [A79,List.cons_append,List.nil_append,List.length_cons,List.length_nil,Nat.reduceAdd,Nat.reduceSub,List.replicate]
  repeat (first|with_reducible refine w_reg ?_|with_reducible refine ws_nil ?_|((first|with_reducible refine ks fun K hK=>?_|with_reducible refine kd fun K hK=>?_|with_reducible refine kc fun K hK2 hK hK3=>?_);simp (disch:=omega) only [bg0,bg1,bg2,bg3,bg4,stepO,rsAs,eff,AX.ev,St.put,binA,conc,ap1,ofVal,Int.reduceTMod,Int.reduceTDiv,reduceCtorEq,fillA,AV.cells,AV.fine,AV.one,Nat.reduceAdd,Nat.reduceSub,Nat.reduceMul,Nat.reduceLT,Nat.reduceLeDiff,Int.reduceLT,Int.reduceLE,Int.reduceAdd,Int.reduceSub,Int.reduceNeg,Int.reduceMul,Int.reduceEq,Int.reduceToNat,nilA,moveA,live,loadA,rdA,storeA,wrA,intA,elemA,lenA,appA,srcA,isPtr,isNilPtr,partA,resOf,sliceA,cut,id,ap2,reduceIte,concs,chkB,geB,AOp.cls,AOp.xs,ltB,ltC,Nat.reduceBEq,Option.toList,List.cons_append,decide_eq_true,decide_eq_false,if_pos,if_neg,List.length_map,pA_at,List.cons_append,bVb,bVn,eq_self,Bool.and_self,BEq.rfl,not_true_eq_false];(first|((with_reducible refine hK _ ?_);clear hK K)|((with_reducible refine hK ?_);clear hK hK3 K hK2)|((with_reducible refine hK3 ?_);clear hK hK3 K hK2)))|((with_reducible refine khs 97 ?_ ?_ ?_ ?_);rotate_left 2;exact h)|((with_reducible refine ret_0 ?_);try rfl))
theorem isl:isSliceT Tryd.prog 24=true:=by kernel_rfl
set_option maxHeartbeats 4000000 in
theorem clone27 (G:Nat→AV) (l:List Pr) (hl:Okl l) (h0:l ≠ []) (H:Hp):HC Tryd.prog G 65 [.sl 2 (l.map pA)] H (.ol H.length 1 l.length) (H++[⟨65,2,l.map pA,1,0⟩]):=by
  have hlen:=hl.len
  have he:(l.map pA).isEmpty=false:=by cases l with|nil=>exact absurd rfl h0|cons=>rfl
  refine hc_of cop65 ?_
  show W _ _ _ _ ⟨_,_⟩;simp only [A65,List.cons_append,List.nil_append,List.length_cons,List.length_nil,Nat.reduceAdd,Nat.reduceSub,List.replicate]
  repeat (first|with_reducible refine w_seq ?_|with_reducible refine w_reg ?_|with_reducible refine w_skip ?_|with_reducible refine ws_nil ?_|with_reducible refine q_then ?_|with_reducible refine w_ret ?_|((first|with_reducible refine ks fun K hK=>?_|with_reducible refine kd fun K hK=>?_|with_reducible refine kc fun K hK2 hK hK3=>?_);simp (disch:=omega) only [bg0,bg1,bg2,bg3,bg4,stepO,rsAs,eff,AX.ev,St.put,binA,conc,ap1,ofVal,Int.reduceTMod,Int.reduceTDiv,reduceCtorEq,fillA,AV.cells,AV.fine,AV.one,Nat.reduceAdd,Nat.reduceSub,Nat.reduceMul,Nat.reduceLT,Nat.reduceLeDiff,Int.reduceLT,Int.reduceLE,Int.reduceAdd,Int.reduceSub,Int.reduceNeg,Int.reduceMul,Int.reduceEq,Int.reduceToNat,nilA,moveA,live,loadA,rdA,storeA,wrA,intA,elemA,lenA,appA,srcA,isPtr,isNilPtr,partA,resOf,sliceA,cut,id,ap2,reduceIte,concs,chkB,geB,AOp.cls,AOp.xs,ltB,ltC,Nat.reduceBEq,Option.toList,List.cons_append,decide_eq_true,decide_eq_false,if_pos,if_neg,List.length_map,pA_at,List.cons_append,bVb,bVn,eq_self,Bool.and_self,BEq.rfl,not_true_eq_false,isl,nilCmp,isRow,isNl,he,Bool.not_false];(first|((with_reducible refine hK _ ?_);clear hK K)|((with_reducible refine hK ?_);clear hK hK3 K hK2)|((with_reducible refine hK3 ?_);clear hK hK3 K hK2)))|((first|with_reducible refine ret_h fun K hK=>?_|with_reducible refine ret_hh rfl fun K hK=>?_|with_reducible refine ret_pp fun K hK=>?_);simp (disch:=omega) only [bg0,bg1,bg2,bg3,bg4,stepO,rsAs,eff,AX.ev,St.put,binA,conc,ap1,ofVal,Int.reduceTMod,Int.reduceTDiv,reduceCtorEq,fillA,AV.cells,AV.fine,AV.one,Nat.reduceAdd,Nat.reduceSub,Nat.reduceMul,Nat.reduceLT,Nat.reduceLeDiff,Int.reduceLT,Int.reduceLE,Int.reduceAdd,Int.reduceSub,Int.reduceNeg,Int.reduceMul,Int.reduceEq,Int.reduceToNat,nilA,moveA,live,loadA,rdA,storeA,wrA,intA,elemA,lenA,appA,srcA,isPtr,isNilPtr,partA,resOf,sliceA,cut,id,ap2,reduceIte,concs,chkB,geB,AOp.cls,AOp.xs,ltB,ltC,Nat.reduceBEq,Option.toList,List.cons_append,decide_eq_true,decide_eq_false,if_pos,if_neg,List.length_map,pA_at,List.cons_append,bVb,bVn,eq_self,Bool.and_self,BEq.rfl,not_true_eq_false,isl,nilCmp,isRow,isNl,he,Bool.not_false];(first|((with_reducible refine hK _ ?_ ?_ ?_ ?_);rotate_left 2;rfl;rfl)|((with_reducible refine hK _ ?_);rfl))))
set_option maxHeartbeats 4000000 in
theorem clone27e (G:Nat→AV):PC Tryd.prog G 65 [.sl 2 []] (.sl 2 []):=by
  refine @pc_em _ _ _ _ _ cop65 [] [] 2 _ fun b=>?_
  cases b
  all_goals
    show W _ _ _ _ ⟨_,_⟩
    simp only [A65,List.cons_append,List.nil_append,List.length_cons,List.length_nil,Nat.reduceAdd,Nat.reduceSub,List.replicate]
    repeat (first|with_reducible refine w_seq ?_|with_reducible refine w_reg ?_|with_reducible refine w_skip ?_|with_reducible refine ws_nil ?_|with_reducible refine q_then ?_|with_reducible refine w_ret ?_|with_reducible refine q_then_r ?_|((first|with_reducible refine ks fun K hK=>?_|with_reducible refine kd fun K hK=>?_|with_reducible refine kc fun K hK2 hK hK3=>?_);simp (disch:=omega) only [bg0,bg1,bg2,bg3,bg4,stepO,rsAs,eff,AX.ev,St.put,binA,conc,ap1,ofVal,Int.reduceTMod,Int.reduceTDiv,reduceCtorEq,fillA,AV.cells,AV.fine,AV.one,Nat.reduceAdd,Nat.reduceSub,Nat.reduceMul,Nat.reduceLT,Nat.reduceLeDiff,Int.reduceLT,Int.reduceLE,Int.reduceAdd,Int.reduceSub,Int.reduceNeg,Int.reduceMul,Int.reduceEq,Int.reduceToNat,nilA,moveA,live,loadA,rdA,storeA,wrA,intA,elemA,lenA,appA,srcA,isPtr,isNilPtr,partA,resOf,sliceA,cut,id,ap2,reduceIte,concs,chkB,geB,AOp.cls,AOp.xs,ltB,ltC,Nat.reduceBEq,Option.toList,List.cons_append,decide_eq_true,decide_eq_false,if_pos,if_neg,List.length_map,pA_at,List.cons_append,bVb,bVn,eq_self,Bool.and_self,BEq.rfl,not_true_eq_false,isl,nilCmp,isRow,isNi,isNl,Bool.not_false,Bool.not_true];(first|((with_reducible refine hK _ ?_);clear hK K)|((with_reducible refine hK ?_);clear hK hK3 K hK2)|((with_reducible refine hK3 ?_);clear hK hK3 K hK2)))|((first|with_reducible refine ret_h fun K hK=>?_|with_reducible refine ret_hh rfl fun K hK=>?_|with_reducible refine ret_pp fun K hK=>?_);simp (disch:=omega) only [bg0,bg1,bg2,bg3,bg4,stepO,rsAs,eff,AX.ev,St.put,binA,conc,ap1,ofVal,Int.reduceTMod,Int.reduceTDiv,reduceCtorEq,fillA,AV.cells,AV.fine,AV.one,Nat.reduceAdd,Nat.reduceSub,Nat.reduceMul,Nat.reduceLT,Nat.reduceLeDiff,Int.reduceLT,Int.reduceLE,Int.reduceAdd,Int.reduceSub,Int.reduceNeg,Int.reduceMul,Int.reduceEq,Int.reduceToNat,nilA,moveA,live,loadA,rdA,storeA,wrA,intA,elemA,lenA,appA,srcA,isPtr,isNilPtr,partA,resOf,sliceA,cut,id,ap2,reduceIte,concs,chkB,geB,AOp.cls,AOp.xs,ltB,ltC,Nat.reduceBEq,Option.toList,List.cons_append,decide_eq_true,decide_eq_false,if_pos,if_neg,List.length_map,pA_at,List.cons_append,bVb,bVn,eq_self,Bool.and_self,BEq.rfl,not_true_eq_false,isl,nilCmp,isRow,isNi,isNl,Bool.not_false,Bool.not_true];(first|((with_reducible refine hK _ ?_ ?_ ?_ ?_);rotate_left 2;rfl;rfl)|((with_reducible refine hK _ ?_);rfl))))
end Go.Proofs.YtgpldekhcojimaaDoor.Sim.Pr7
namespace Go.Proofs.YtgpldekhcojimaaDoor.Sim
open Go.RowKit
set_option maxRecDepth 100000
theorem islH:isSliceT Tryd.prog 37=true:=by kernel_rfl
set_option maxHeartbeats 4000000 in
theorem cl66e (G:Nat→AV):PC Tryd.prog G 66 [.sl 2 []] (.sl 2 []):=by
  refine @pc_em _ _ _ _ _ cop66 [] [] 2 _ fun b=>?_
  cases b
  all_goals
    show W _ _ _ _ ⟨_,_⟩
    simp only [A66,List.cons_append,List.nil_append,List.length_cons,List.length_nil,Nat.reduceAdd,Nat.reduceSub,List.replicate]
    repeat (first|with_reducible refine w_seq ?_|with_reducible refine w_reg ?_|with_reducible refine w_skip ?_|with_reducible refine ws_nil ?_|with_reducible refine q_then ?_|with_reducible refine w_ret ?_|with_reducible refine q_then_r ?_|((first|with_reducible refine ks fun K hK=>?_|with_reducible refine kd fun K hK=>?_|with_reducible refine kc fun K hK2 hK hK3=>?_);simp (disch:=omega) only [bg0,bg1,bg2,bg3,bg4,stepO,rsAs,eff,AX.ev,St.put,binA,conc,ap1,ofVal,Int.reduceTMod,Int.reduceTDiv,reduceCtorEq,fillA,AV.cells,AV.fine,AV.one,Nat.reduceAdd,Nat.reduceSub,Nat.reduceMul,Nat.reduceLT,Nat.reduceLeDiff,Int.reduceLT,Int.reduceLE,Int.reduceAdd,Int.reduceSub,Int.reduceNeg,Int.reduceMul,Int.reduceEq,Int.reduceToNat,nilA,moveA,live,loadA,rdA,storeA,wrA,intA,elemA,lenA,appA,srcA,isPtr,isNilPtr,partA,resOf,sliceA,cut,id,ap2,reduceIte,concs,chkB,geB,AOp.cls,AOp.xs,ltB,ltC,Nat.reduceBEq,Option.toList,List.cons_append,decide_eq_true,decide_eq_false,if_pos,if_neg,List.length_map,List.cons_append,bVb,bVn,eq_self,Bool.and_self,BEq.rfl,not_true_eq_false,islH,nilCmp,isRow,isNi,isNl,Bool.not_false,Bool.not_true];(first|((with_reducible refine hK _ ?_);clear hK K)|((with_reducible refine hK ?_);clear hK hK3 K hK2)|((with_reducible refine hK3 ?_);clear hK hK3 K hK2)))|((first|with_reducible refine ret_h fun K hK=>?_|with_reducible refine ret_hh rfl fun K hK=>?_|with_reducible refine ret_pp fun K hK=>?_);simp (disch:=omega) only [bg0,bg1,bg2,bg3,bg4,stepO,rsAs,eff,AX.ev,St.put,binA,conc,ap1,ofVal,Int.reduceTMod,Int.reduceTDiv,reduceCtorEq,fillA,AV.cells,AV.fine,AV.one,Nat.reduceAdd,Nat.reduceSub,Nat.reduceMul,Nat.reduceLT,Nat.reduceLeDiff,Int.reduceLT,Int.reduceLE,Int.reduceAdd,Int.reduceSub,Int.reduceNeg,Int.reduceMul,Int.reduceEq,Int.reduceToNat,nilA,moveA,live,loadA,rdA,storeA,wrA,intA,elemA,lenA,appA,srcA,isPtr,isNilPtr,partA,resOf,sliceA,cut,id,ap2,reduceIte,concs,chkB,geB,AOp.cls,AOp.xs,ltB,ltC,Nat.reduceBEq,Option.toList,List.cons_append,decide_eq_true,decide_eq_false,if_pos,if_neg,List.length_map,List.cons_append,bVb,bVn,eq_self,Bool.and_self,BEq.rfl,not_true_eq_false,islH,nilCmp,isRow,isNi,isNl,Bool.not_false,Bool.not_true];(first|((with_reducible refine hK _ ?_ ?_ ?_ ?_);rotate_left 2;rfl;rfl)|((with_reducible refine hK _ ?_);rfl))))
set_option maxHeartbeats 4000000 in
theorem cl36e (G:Nat→AV):PC Tryd.prog G 36 [sA [] []] (sA [] []):=by
  have c1:=Pr7.clone27e G
  have c2:=cl66e G
  have z1:([]:List AV).length=0:=rfl
  have z2:([]:List Hd).length=0:=rfl
  have z3:¬ ((0:Int) < (([]:List AV).length:Nat)):=by simp
  have z4:¬ ((0:Int) < (([]:List Hd).length:Nat)):=by simp
  refine pc_ofV cop36 ?_
  repeat' ((conv=>whnf);first|(with_reducible refine SeqP.go ?_)|exact SameP.mk rfl rfl|(with_reducible refine ObAnd.mk ?_ ?_)|(with_reducible refine ObDx.same ?_)|((with_reducible refine ObD.mk ?_ ?_);(focus (first|rfl|(simp;done))))|((with_reducible refine ObN.mk ?_ ?_);(focus exact zN))|((with_reducible refine (?_:ObL _ _));(refine ObL.mk _ zL ?_))|((with_reducible refine (?_:ObU _ _));(refine ObU.mk _ zU ?_))|((with_reducible refine (?_:ObR _ _ _));(first|(refine ObR.mk _ (by assumption) ?_)|(refine ObR.mk _ (by with_reducible rfl) ?_)|(refine ObR.map zX (fun x hx=>?_))|(refine ObR.mk _ rfl ?_)))|((with_reducible refine ObH.f 65 ?_);(first|(with_reducible refine ObH.mk _ _ ((hc_pc (by rfl) c1 _)) ?_)|(refine ObH.mk _ _ ((hc_pc (by rfl) c1 _)) ?_)))|((with_reducible refine ObH.f 66 ?_);(first|(with_reducible refine ObH.mk _ _ ((hc_pc (by rfl) c2 _)) ?_)|(refine ObH.mk _ _ ((hc_pc (by rfl) c2 _)) ?_))))
  conv=>whnf
  refine LoopP.go (α:=Unit) (fun _=>True) (fun _=>0) (fun _=>[(4,none),(10,some (I 0)),(0,none),(0,none),(0,none),(0,none),(0,none),(0,none),(0,none),(0,none),(0,none),(0,none),(0,none),(0,none),(0,none),(0,none),(0,none)]) (fun _=>[⟨39,2,[sA [] []],0,0⟩,⟨39,2,[.agg [.nl 2,.nl 2]],0,0⟩,⟨39,2,[sA [] []],0,0⟩]) () trivial (Fg.go ?_ rfl) ?_
  · repeat' ((conv=>whnf);first|((with_reducible refine ObEqs.mk ?_ ?_);(focus rfl))|((with_reducible refine ObEq1.i ?_ ?_);(focus (first|(with_reducible rfl)|omega)))|exact True.intro)
  rintro ⟨⟩ -
  repeat' ((conv=>whnf);first|(with_reducible refine SeqP.go ?_)|((with_reducible refine ObD.mk ?_ ?_);(focus (first|rfl|(simp;done))))|((with_reducible refine ObN.mk ?_ ?_);(focus exact zN))|(with_reducible refine ObT.ff ?_)|((with_reducible refine ObB.no ?_ ?_);(focus (first|assumption|omega)))|((with_reducible refine (?_:ObU _ _));(refine ObU.mk _ zU ?_))|((with_reducible refine (?_:ObR _ _ _));(first|(refine ObR.mk _ (by assumption) ?_)|(refine ObR.mk _ (by with_reducible rfl) ?_)|(refine ObR.map zX (fun x hx=>?_))|(refine ObR.mk _ rfl ?_)))|((with_reducible refine ObEq.mk ?_);(focus (first|rfl|assumption))))
end Go.Proofs.YtgpldekhcojimaaDoor.Sim
namespace Go.Proofs.YtgpldekhcojimaaDoor.Sim
open Go.RowKit
set_option maxRecDepth 100000
open Pr7
theorem tk_next {α:Type} {a b:List α} {k:Nat} (hq:a.take k=b.take k) (ha:k < a.length) (hb:k < b.length) (e:a[k]=b[k]):a.take (k+1)=b.take (k+1):=by
  rw [List.take_add_one,List.take_add_one,List.getElem?_eq_getElem ha,List.getElem?_eq_getElem hb,hq,e]
theorem tk_no {α:Type} {a b:List α} {k:Nat} {r:Bool} (hr:r=true↔a=b) (ha:k < a.length) (hb:k < b.length) (e:¬ a[k]=b[k]):r=false:=by
  cases r with
  | false=>rfl
  | true=>obtain rfl:=hr.1 rfl;exact absurd rfl e
theorem ln_no {α:Type} {a b:List α} {r:Bool} (hr:r=true↔a=b) (hn:¬ a.length=b.length):r=false:=by
  cases r with
  | false=>rfl
  | true=>exact absurd (by rw [hr.1 rfl]) hn
theorem tk_all {α:Type} {a b:List α} {r:Bool} (hr:r=true↔a=b) (hn:a.length=b.length) (hq:a.take a.length=b.take a.length):r=true :=
  hr.2 (by rwa [List.take_length,hn,List.take_length] at hq)
section
variable (G:Nat→AV)
set_option maxHeartbeats 2000000 in
theorem eq81 (a b:List Pr) (ha:a.length≤1000000) (hb:b.length≤1000000) (r:Bool) (hr:r=true↔a=b):PC Tryd.prog G 81 [.sl 2 (a.map pA),.sl 2 (b.map pA)] (Bo r):=by
  by_cases hn:a.length=b.length
  · refine pc_ofV cop81 ?_
    have hn2:(a.length:Int)=(b.length:Int):=by omega
    repeat' ((conv=>whnf);first|(with_reducible refine SeqP.go ?_)|((with_reducible refine ObN.mk ?_ ?_);(focus exact zN))|(with_reducible refine ObT.ff ?_)|((with_reducible refine ObB.yes ?_ ?_);(focus (first|assumption|(with_reducible rfl)|omega)))|((with_reducible refine (?_:ObL _ _));(refine ObL.mk _ zM ?_)))
    conv=>whnf
    refine LoopP.go (α:=Nat) (fun k=>k≤a.length∧a.take k=b.take k) (fun k=>a.length - k) (fun k=>[(4,some (Bo false)),(0,none),(7,some (I k)),(0,none),(0,none),(0,none),(0,none),(0,none),(0,none),(0,none),(0,none),(0,none),(0,none),(0,none),(0,none)]) (fun _=>[]) 0 ⟨Nat.zero_le _,rfl⟩ (Fg.go ?_ rfl) ?_
    · repeat' ((conv=>whnf);first|((with_reducible refine ObEqs.mk ?_ ?_);(focus rfl))|((with_reducible refine ObEq1.i ?_ ?_);(focus (first|(with_reducible rfl)|omega)))|((with_reducible refine ObEq1.mk ?_ ?_);(focus (first|rfl|assumption)))|exact True.intro)
    rintro k ⟨hk,hq⟩
    by_cases hka:k < a.length
    · have hkb : k < b.length := by omega
      have q1:=pA_at hka
      have q2:=pA_at hkb
      have f1:=tk_next hq hka hkb
      have f2:=tk_no hr hka hkb
      generalize a[k]=x at *
      generalize b[k]=y at *
      by_cases he:x=y
      · subst he
        have hx:x.2=x.2∧x.1=x.1∧True:=⟨rfl,rfl,trivial⟩
        repeat' ((conv=>whnf);first|(with_reducible refine SeqP.go ?_)|((with_reducible refine ObD.mk ?_ ?_);(focus (first|rfl|(simp;done))))|((with_reducible refine ObN.mk ?_ ?_);(focus exact zN))|(with_reducible refine ObT.tt ?_)|(with_reducible refine ObT.ff ?_)|((with_reducible refine ObB.yes ?_ ?_);(focus (first|assumption|(with_reducible rfl)|omega)))|((with_reducible refine ObI.nl ?_ ?_);(focus omega))|((with_reducible refine ObX.mk _ rfl ?_ ?_);(focus exact zX))|((with_reducible refine (?_:ObR _ _ _));(first|(refine ObR.mk _ (by assumption) ?_)|(refine ObR.mk _ (by exact q1) ?_)|(refine ObR.mk _ (by exact q2) ?_)|(refine ObR.mk _ (by with_reducible rfl) ?_)|(refine ObR.map zX (fun x hx=>?_))|(refine ObR.mk _ rfl ?_))))
        conv=>whnf
        refine Again.mk (k+1) ⟨by omega,f1 rfl⟩ (by omega) (Fg.go ?_ rfl)
        repeat' ((conv=>whnf);first|((with_reducible refine ObEqs.mk ?_ ?_);(focus rfl))|((with_reducible refine ObEq1.i ?_ ?_);(focus (first|(with_reducible rfl)|omega)))|((with_reducible refine ObEq1.mk ?_ ?_);(focus (first|rfl|assumption)))|exact True.intro)
      · obtain rfl := f2 he
        have hx:¬ (x.2=y.2∧x.1=y.1∧True):=fun h=>he (Prod.ext h.2.1 h.1)
        repeat' ((conv=>whnf);first|(with_reducible refine SeqP.go ?_)|((with_reducible refine ObD.mk ?_ ?_);(focus (first|rfl|(simp;done))))|((with_reducible refine ObN.mk ?_ ?_);(focus exact zN))|(with_reducible refine ObT.tt ?_)|((with_reducible refine ObB.yes ?_ ?_);(focus (first|assumption|(with_reducible rfl)|omega)))|((with_reducible refine ObB.no ?_ ?_);(focus (first|assumption|omega)))|((with_reducible refine ObX.mk _ rfl ?_ ?_);(focus exact zX))|((with_reducible refine (?_:ObR _ _ _));(first|(refine ObR.mk _ (by assumption) ?_)|(refine ObR.mk _ (by exact q1) ?_)|(refine ObR.mk _ (by exact q2) ?_)|(refine ObR.mk _ (by with_reducible rfl) ?_)|(refine ObR.map zX (fun x hx=>?_))|(refine ObR.mk _ rfl ?_)))|((with_reducible refine ObEq.mk ?_);(focus (first|rfl|assumption))))
    · obtain rfl : k = a.length := by omega
      obtain rfl:=tk_all hr hn hq
      repeat' ((conv=>whnf);first|(with_reducible refine SeqP.go ?_)|((with_reducible refine ObN.mk ?_ ?_);(focus exact zN))|(with_reducible refine ObT.ff ?_)|((with_reducible refine ObB.no ?_ ?_);(focus (first|assumption|omega)))|((with_reducible refine ObEq.mk ?_);(focus (first|rfl|assumption))))
  · obtain rfl := ln_no hr hn
    have hn2:¬ (a.length:Int)=(b.length:Int):=by omega
    refine pc_ofV cop81 ?_
    repeat' ((conv=>whnf);first|(with_reducible refine SeqP.go ?_)|((with_reducible refine ObN.mk ?_ ?_);(focus exact zN))|(with_reducible refine ObT.tt ?_)|((with_reducible refine ObB.no ?_ ?_);(focus (first|assumption|omega)))|((with_reducible refine (?_:ObL _ _));(refine ObL.mk _ zM ?_))|((with_reducible refine ObEq.mk ?_);(focus (first|rfl|assumption))))
theorem sb49 (h48:∀ l:List Pr,l.length≤40→Okl l→PC Tryd.prog G 48 [.sl 2 (l.map pA)] (.sl 2 ((mk l).map pA))) (a b:List Pr) (ha:a.length≤40) (hb:b.length≤40) (oa:Okl a) (ob:Okl b) (r:Bool) (hr:r=true↔mk a=mk b):PC Tryd.prog G 49 [.sl 2 (a.map pA),.sl 2 (b.map pA)] (Bo r):=by
  have c1:=h48 a ha oa
  have c2:=h48 b hb ob
  have l1:=mk_len a
  have l2:=mk_len b
  have c3:=eq81 G (mk a) (mk b) (by omega) (by omega) r hr
  refine pc_ofV cop49 ?_
  repeat' ((conv=>whnf);first|(with_reducible refine SeqP.go ?_)|((with_reducible refine ObC.f 48 ?_);(first|(with_reducible refine ObC.mk _ (c1) ?_)|(refine ObC.mk _ (c1) ?_)))|((with_reducible refine ObC.f 48 ?_);(first|(with_reducible refine ObC.mk _ (c2) ?_)|(refine ObC.mk _ (c2) ?_)))|((with_reducible refine ObC.f 81 ?_);(first|(with_reducible refine ObC.mk _ (c3) ?_)|(refine ObC.mk _ (c3) ?_)))|((with_reducible refine ObEq.mk ?_);(focus (first|rfl|assumption))))
theorem cl51 (x y:Hd) (r0:Bool) (c49:PC Tryd.prog G 49 [.sl 2 (x.2.map pA),.sl 2 (y.2.map pA)] (Bo r0)) (r:Bool) (hr:r=(decide (x.1=y.1) && r0)):PC Tryd.prog G 51 [hA x,hA y] (Bo r):=by
  unfold hA
  by_cases h:x.1=y.1
  · rw [decide_eq_true h, Bool.true_and] at hr
    subst hr
    refine pc_ofV cop51 ?_
    repeat' ((conv=>whnf);first|(with_reducible refine SeqP.go ?_)|((with_reducible refine ObD.mk ?_ ?_);(focus (first|rfl|(simp;done))))|((with_reducible refine ObN.mk ?_ ?_);(focus exact zN))|(with_reducible refine ObT.tt ?_)|((with_reducible refine ObB.yes ?_ ?_);(focus (first|assumption|(with_reducible rfl)|omega)))|((with_reducible refine (?_:ObR _ _ _));(first|(refine ObR.mk _ (by assumption) ?_)|(refine ObR.mk _ (by with_reducible rfl) ?_)|(refine ObR.map zX (fun x hx=>?_))|(refine ObR.mk _ rfl ?_)))|((with_reducible refine ObC.f 49 ?_);(first|(with_reducible refine ObC.mk _ (c49) ?_)|(refine ObC.mk _ (c49) ?_)))|((with_reducible refine ObEq.mk ?_);(focus (first|rfl|assumption))))
  · rw [decide_eq_false h, Bool.false_and] at hr
    subst hr
    refine pc_ofV cop51 ?_
    repeat' ((conv=>whnf);first|(with_reducible refine SeqP.go ?_)|((with_reducible refine ObD.mk ?_ ?_);(focus (first|rfl|(simp;done))))|((with_reducible refine ObN.mk ?_ ?_);(focus exact zN))|(with_reducible refine ObT.ff ?_)|((with_reducible refine ObB.no ?_ ?_);(focus (first|assumption|omega)))|((with_reducible refine (?_:ObR _ _ _));(first|(refine ObR.mk _ (by assumption) ?_)|(refine ObR.mk _ (by with_reducible rfl) ?_)|(refine ObR.map zX (fun x hx=>?_))|(refine ObR.mk _ rfl ?_)))|((with_reducible refine ObEq.mk ?_);(focus (first|rfl|assumption))))
def sH (a b:List Hd):Prop:=a.map (fun x=>(x.1,mk x.2))=b.map (fun x=>(x.1,mk x.2))
set_option maxHeartbeats 2000000 in
theorem ef50 (H K:List Hd) (hH:H.length≤1000000) (hK:K.length≤1000000) (c51:∀ (i:Nat) (h1:i < H.length) (h2:i < K.length) (r:Bool),(r=true↔(H[i].1,mk H[i].2)=(K[i].1,mk K[i].2))→PC Tryd.prog G 51 [.agg [I H[i].1,.sl 2 (H[i].2.map pA)],.agg [I K[i].1,.sl 2 (K[i].2.map pA)]] (Bo r)) (r:Bool) (hr:r=true↔sH H K):PC Tryd.prog G 50 [.sl 2 (H.map hA),.sl 2 (K.map hA),.v (.func (.func 51) #[] #[])] (Bo r):=by
  unfold sH at hr
  by_cases hn:H.length=K.length
  · refine pc_ofV cop50 ?_
    have hn2:(H.length:Int)=(K.length:Int):=by omega
    repeat' ((conv=>whnf);first|(with_reducible refine SeqP.go ?_)|((with_reducible refine ObN.mk ?_ ?_);(focus exact zN))|(with_reducible refine ObT.ff ?_)|((with_reducible refine ObB.yes ?_ ?_);(focus (first|assumption|(with_reducible rfl)|omega)))|((with_reducible refine (?_:ObL _ _));(refine ObL.mk _ zM ?_)))
    conv=>whnf
    refine LoopP.go (α:=Nat) (fun k=>k≤H.length∧(H.map (fun x=>(x.1,mk x.2))).take k=(K.map (fun x=>(x.1,mk x.2))).take k) (fun k=>H.length - k) (fun k=>[(6,some (Bo false)),(0,none),(0,none),(0,none),(7,some (I k)),(0,none),(0,none),(0,none),(0,none),(0,none),(0,none),(0,none),(0,none),(0,none),(0,none),(0,none),(0,none),(0,none),(0,none)]) (fun _=>[]) 0 ⟨Nat.zero_le _,rfl⟩ (Fg.go ?_ rfl) ?_
    · repeat' ((conv=>whnf);first|((with_reducible refine ObEqs.mk ?_ ?_);(focus rfl))|((with_reducible refine ObEq1.i ?_ ?_);(focus (first|(with_reducible rfl)|omega)))|((with_reducible refine ObEq1.mk ?_ ?_);(focus (first|rfl|assumption)))|exact True.intro)
    rintro k ⟨hk,hq⟩
    by_cases hka:k < H.length
    · have hkb : k < K.length := by omega
      have q1:=hA_at hka
      have q2:=hA_at hkb
      have f1:=tk_next hq (by simpa using hka) (by simpa using hkb)
      have f2:=tk_no hr (by simpa using hka) (by simpa using hkb)
      simp only [List.getElem_map] at f1 f2
      have c:=c51 k hka hkb
      generalize H[k]=x at *
      generalize K[k]=y at *
      by_cases he:(x.1,mk x.2)=(y.1,mk y.2)
      · have c2 := c true (by simp [he])
        repeat' ((conv=>whnf);first|(with_reducible refine SeqP.go ?_)|((with_reducible refine ObD.mk ?_ ?_);(focus (first|rfl|(simp;done))))|((with_reducible refine ObN.mk ?_ ?_);(focus exact zN))|(with_reducible refine ObT.tt ?_)|(with_reducible refine ObT.ff ?_)|((with_reducible refine ObB.yes ?_ ?_);(focus (first|assumption|(with_reducible rfl)|omega)))|((with_reducible refine ObI.nl ?_ ?_);(focus omega))|((with_reducible refine ObX.mk _ rfl ?_ ?_);(focus exact zX))|((with_reducible refine (?_:ObU _ _));(refine ObU.mk _ zU ?_))|((with_reducible refine (?_:ObR _ _ _));(first|(refine ObR.mk _ (by assumption) ?_)|(refine ObR.mk _ (by exact q1) ?_)|(refine ObR.mk _ (by exact q2) ?_)|(refine ObR.mk _ (by with_reducible rfl) ?_)|(refine ObR.map zX (fun x hx=>?_))|(refine ObR.mk _ rfl ?_)))|((with_reducible refine ObH.f 51 ?_);(first|(with_reducible refine ObH.mk _ _ ((hc_pc (by rfl) c2 _)) ?_)|(refine ObH.mk _ _ ((hc_pc (by rfl) c2 _)) ?_))))
        conv=>whnf
        refine Again.mk (k+1) ⟨by omega,f1 he⟩ (by omega) (Fg.vw [] ?_ ?_ (by simp) ?_)
        all_goals repeat' ((conv=>whnf);first|((with_reducible refine ObRn.mk ?_ ?_);(focus (first|rfl|(simp [rnB,rnC,rnL];done))))|((with_reducible refine ObEqs.mk ?_ ?_);(focus rfl))|exact True.intro)
      · obtain rfl := f2 he
        have c2:=c false (by simp [he])
        repeat' ((conv=>whnf);first|(with_reducible refine SeqP.go ?_)|((with_reducible refine ObD.mk ?_ ?_);(focus (first|rfl|(simp;done))))|((with_reducible refine ObN.mk ?_ ?_);(focus exact zN))|(with_reducible refine ObT.tt ?_)|(with_reducible refine ObT.ff ?_)|((with_reducible refine ObB.yes ?_ ?_);(focus (first|assumption|(with_reducible rfl)|omega)))|((with_reducible refine ObX.mk _ rfl ?_ ?_);(focus exact zX))|((with_reducible refine (?_:ObU _ _));(refine ObU.mk _ zU ?_))|((with_reducible refine (?_:ObR _ _ _));(first|(refine ObR.mk _ (by assumption) ?_)|(refine ObR.mk _ (by exact q1) ?_)|(refine ObR.mk _ (by exact q2) ?_)|(refine ObR.mk _ (by with_reducible rfl) ?_)|(refine ObR.map zX (fun x hx=>?_))|(refine ObR.mk _ rfl ?_)))|((with_reducible refine ObH.f 51 ?_);(first|(with_reducible refine ObH.mk _ _ ((hc_pc (by rfl) c2 _)) ?_)|(refine ObH.mk _ _ ((hc_pc (by rfl) c2 _)) ?_)))|((with_reducible refine ObEq.mk ?_);(focus (first|rfl|assumption))))
    · obtain rfl : k = H.length := by omega
      obtain rfl:=tk_all hr (by simpa using hn) (by simpa using hq)
      repeat' ((conv=>whnf);first|(with_reducible refine SeqP.go ?_)|((with_reducible refine ObN.mk ?_ ?_);(focus exact zN))|(with_reducible refine ObT.ff ?_)|((with_reducible refine ObB.no ?_ ?_);(focus (first|assumption|omega)))|((with_reducible refine ObEq.mk ?_);(focus (first|rfl|assumption))))
  · obtain rfl := ln_no hr (by simpa using hn)
    have hn2:¬ (H.length:Int)=(K.length:Int):=by omega
    refine pc_ofV cop50 ?_
    repeat' ((conv=>whnf);first|(with_reducible refine SeqP.go ?_)|((with_reducible refine ObN.mk ?_ ?_);(focus exact zN))|(with_reducible refine ObT.tt ?_)|((with_reducible refine ObB.no ?_ ?_);(focus (first|assumption|omega)))|((with_reducible refine (?_:ObL _ _));(refine ObL.mk _ zM ?_))|((with_reducible refine ObEq.mk ?_);(focus (first|rfl|assumption))))
theorem same22M (l m:List Pr) (H K:List Hd) (r0:Bool) (c49:PC Tryd.prog G 49 [.sl 2 (l.map pA),.sl 2 (m.map pA)] (Bo r0)) (r1:Bool) (c50:PC Tryd.prog G 50 [.sl 2 (H.map hA),.sl 2 (K.map hA),.v (.func (.func 51) #[] #[])] (Bo r1)):PC Tryd.prog G 22 [sA l H,sA m K] (Bo (r0 && r1)):=by
  cases r0
  · refine pc_ofV cop22 ?_
    repeat' ((conv=>whnf);first|(with_reducible refine SeqP.go ?_)|((with_reducible refine ObD.mk ?_ ?_);(focus (first|rfl|(simp;done))))|((with_reducible refine ObN.mk ?_ ?_);(focus exact zN))|(with_reducible refine ObT.ff ?_)|((with_reducible refine (?_:ObR _ _ _));(first|(refine ObR.mk _ (by assumption) ?_)|(refine ObR.mk _ (by with_reducible rfl) ?_)|(refine ObR.map zX (fun x hx=>?_))|(refine ObR.mk _ rfl ?_)))|((with_reducible refine ObC.f 49 ?_);(first|(with_reducible refine ObC.mk _ (c49) ?_)|(refine ObC.mk _ (c49) ?_)))|((with_reducible refine ObEq.mk ?_);(focus (first|rfl|assumption))))
  · rw [Bool.true_and]
    refine pc_ofV cop22 ?_
    repeat' ((conv=>whnf);first|(with_reducible refine SeqP.go ?_)|((with_reducible refine ObD.mk ?_ ?_);(focus (first|rfl|(simp;done))))|((with_reducible refine ObN.mk ?_ ?_);(focus exact zN))|(with_reducible refine ObT.tt ?_)|((with_reducible refine (?_:ObR _ _ _));(first|(refine ObR.mk _ (by assumption) ?_)|(refine ObR.mk _ (by with_reducible rfl) ?_)|(refine ObR.map zX (fun x hx=>?_))|(refine ObR.mk _ rfl ?_)))|((with_reducible refine ObC.f 49 ?_);(first|(with_reducible refine ObC.mk _ (c49) ?_)|(refine ObC.mk _ (c49) ?_)))|((with_reducible refine ObC.f 50 ?_);(first|(with_reducible refine ObC.mk _ (c50) ?_)|(refine ObC.mk _ (c50) ?_)))|((with_reducible refine ObEq.mk ?_);(focus (first|rfl|assumption))))
set_option maxHeartbeats 4000000 in
theorem rsame14 (l m : List Pr) (H K : List Hd) (hH : H.length ≤ 1000000) (hK : K.length ≤ 1000000) (hl : (mk l).length ≤ 1000000) (hm : (mk m).length ≤ 1000000)
    (cl:PC Tryd.prog G 35 [.sl 2 (l.map pA)] (.sl 2 ((mk l).map pA))) (cm:PC Tryd.prog G 35 [.sl 2 (m.map pA)] (.sl 2 ((mk m).map pA)))
    (cH:∀ x ∈ H,PC Tryd.prog G 35 [.sl 2 (x.2.map pA)] (.sl 2 ((mk x.2).map pA))∧(mk x.2).length≤1000000) (cK:∀ x ∈ K,PC Tryd.prog G 35 [.sl 2 (x.2.map pA)] (.sl 2 ((mk x.2).map pA))∧(mk x.2).length≤1000000)
    (r:Bool) (hr:r=true↔(mk l=mk m∧sH H K)):PC Tryd.prog G 14 [sA l H,sA m K] (Bo r):=by
  unfold sH at hr
  by_cases hlm:mk l=mk m
  · have s1 := same13 G (mk l) (mk m) hl hm true (by simp [hlm])
    simp only [hlm,true_and] at hr
    by_cases hn:H.length=K.length
    · refine pc_ofV cop14 ?_
      have hn2:(H.length:Int)=(K.length:Int):=by omega
      repeat' ((conv=>whnf);first|(with_reducible refine SeqP.go ?_)|((with_reducible refine ObD.mk ?_ ?_);(focus (first|rfl|(simp;done))))|((with_reducible refine ObN.mk ?_ ?_);(focus exact zN))|(with_reducible refine ObT.tt ?_)|(with_reducible refine ObT.ff ?_)|((with_reducible refine ObB.yes ?_ ?_);(focus (first|assumption|(with_reducible rfl)|omega)))|((with_reducible refine (?_:ObL _ _));(refine ObL.mk _ zM ?_))|((with_reducible refine (?_:ObR _ _ _));(first|(refine ObR.mk _ (by assumption) ?_)|(refine ObR.mk _ (by with_reducible rfl) ?_)|(refine ObR.map zX (fun x hx=>?_))|(refine ObR.mk _ rfl ?_)))|((with_reducible refine ObC.f 35 ?_);(first|(with_reducible refine ObC.mk _ (cl) ?_)|(refine ObC.mk _ (cl) ?_)))|((with_reducible refine ObC.f 35 ?_);(first|(with_reducible refine ObC.mk _ (cm) ?_)|(refine ObC.mk _ (cm) ?_)))|((with_reducible refine ObC.f 43 ?_);(first|(with_reducible refine ObC.mk _ (s1) ?_)|(refine ObC.mk _ (s1) ?_))))
      conv=>whnf
      refine LoopP.go (α:=Nat) (fun k=>k≤H.length∧(H.map (fun x=>(x.1,mk x.2))).take k=(K.map (fun x=>(x.1,mk x.2))).take k) (fun k=>H.length - k) (fun k=>[(4,some (Bo false)),(0,some (I k)),(17,none),(0,none),(0,none),(0,none),(0,none),(0,none),(0,none),(0,none),(0,none),(0,none),(0,none),(0,none),(0,none),(0,none),(0,none),(0,none),(0,none),(0,none),(0,none),(0,none),(0,none),(0,none),(0,none),(0,none),(0,none),(0,none),(0,none),(0,none),(0,none),(0,none),(0,none),(0,none),(0,none),(0,none),(0,none),(0,none),(0,none),(0,none)]) (fun _=>[⟨27,2,[sA l H],0,0⟩,⟨27,2,[sA m K],0,0⟩]) 0 ⟨Nat.zero_le _,rfl⟩ (Fg.go ?_ rfl) ?_
      · repeat' ((conv=>whnf);first|((with_reducible refine ObEqs.mk ?_ ?_);(focus rfl))|((with_reducible refine ObEq1.i ?_ ?_);(focus (first|(with_reducible rfl)|omega)))|((with_reducible refine ObEq1.mk ?_ ?_);(focus (first|rfl|assumption)))|exact True.intro)
      rintro k ⟨hk,hq⟩
      by_cases hka:k < H.length
      · have hkb : k < K.length := by omega
        have q1:=hA_at hka
        have q2:=hA_at hkb
        have f1:=tk_next hq (by simpa using hka) (by simpa using hkb)
        have f2:=tk_no hr (by simpa using hka) (by simpa using hkb)
        simp only [List.getElem_map] at f1 f2
        obtain ⟨c1,n1⟩:=cH _ (List.getElem_mem hka)
        obtain ⟨c2,n2⟩:=cK _ (List.getElem_mem hkb)
        generalize H[k]=x at *
        generalize K[k]=y at *
        by_cases hi:x.1=y.1
        · by_cases he : mk x.2 = mk y.2
          · have s2 := same13 G (mk x.2) (mk y.2) n1 n2 true (by simp [he])
            repeat' ((conv=>whnf);first|(with_reducible refine SeqP.go ?_)|((with_reducible refine ObD.mk ?_ ?_);(focus (first|rfl|(simp;done))))|((with_reducible refine ObN.mk ?_ ?_);(focus exact zN))|(with_reducible refine ObT.tt ?_)|(with_reducible refine ObT.ff ?_)|((with_reducible refine ObB.yes ?_ ?_);(focus (first|assumption|(with_reducible rfl)|omega)))|((with_reducible refine ObI.nl ?_ ?_);(focus omega))|((with_reducible refine ObX.mk _ rfl ?_ ?_);(focus exact zX))|((with_reducible refine (?_:ObL _ _));(refine ObL.mk _ zM ?_))|((with_reducible refine (?_:ObR _ _ _));(first|(refine ObR.mk _ (by assumption) ?_)|(refine ObR.mk _ (by exact q1) ?_)|(refine ObR.mk _ (by exact q2) ?_)|(refine ObR.mk _ (by with_reducible rfl) ?_)|(refine ObR.map zX (fun x hx=>?_))|(refine ObR.mk _ rfl ?_)))|((with_reducible refine ObC.f 35 ?_);(first|(with_reducible refine ObC.mk _ (c1) ?_)|(refine ObC.mk _ (c1) ?_)))|((with_reducible refine ObC.f 35 ?_);(first|(with_reducible refine ObC.mk _ (c2) ?_)|(refine ObC.mk _ (c2) ?_)))|((with_reducible refine ObC.f 43 ?_);(first|(with_reducible refine ObC.mk _ (s2) ?_)|(refine ObC.mk _ (s2) ?_))))
            conv=>whnf
            refine Again.mk (k+1) ⟨by omega,f1 (by rw [hi,he])⟩ (by omega) (Fg.go ?_ rfl)
            repeat' ((conv=>whnf);first|((with_reducible refine ObEqs.mk ?_ ?_);(focus rfl))|((with_reducible refine ObEq1.i ?_ ?_);(focus (first|(with_reducible rfl)|omega)))|((with_reducible refine ObEq1.mk ?_ ?_);(focus (first|rfl|assumption)))|exact True.intro)
          · have s2 := same13 G (mk x.2) (mk y.2) n1 n2 false (by simp [he])
            obtain rfl:=f2 (fun h=>he ((Prod.mk.inj h).2))
            repeat' ((conv=>whnf);first|(with_reducible refine SeqP.go ?_)|((with_reducible refine ObD.mk ?_ ?_);(focus (first|rfl|(simp;done))))|((with_reducible refine ObN.mk ?_ ?_);(focus exact zN))|(with_reducible refine ObT.tt ?_)|(with_reducible refine ObT.ff ?_)|((with_reducible refine ObB.yes ?_ ?_);(focus (first|assumption|(with_reducible rfl)|omega)))|((with_reducible refine ObX.mk _ rfl ?_ ?_);(focus exact zX))|((with_reducible refine (?_:ObL _ _));(refine ObL.mk _ zM ?_))|((with_reducible refine (?_:ObR _ _ _));(first|(refine ObR.mk _ (by assumption) ?_)|(refine ObR.mk _ (by exact q1) ?_)|(refine ObR.mk _ (by exact q2) ?_)|(refine ObR.mk _ (by with_reducible rfl) ?_)|(refine ObR.map zX (fun x hx=>?_))|(refine ObR.mk _ rfl ?_)))|((with_reducible refine ObC.f 35 ?_);(first|(with_reducible refine ObC.mk _ (c1) ?_)|(refine ObC.mk _ (c1) ?_)))|((with_reducible refine ObC.f 35 ?_);(first|(with_reducible refine ObC.mk _ (c2) ?_)|(refine ObC.mk _ (c2) ?_)))|((with_reducible refine ObC.f 43 ?_);(first|(with_reducible refine ObC.mk _ (s2) ?_)|(refine ObC.mk _ (s2) ?_)))|((with_reducible refine ObEq.mk ?_);(focus (first|rfl|assumption))))
        · obtain rfl:=f2 (fun h=>hi ((Prod.mk.inj h).1))
          repeat' ((conv=>whnf);first|(with_reducible refine SeqP.go ?_)|((with_reducible refine ObD.mk ?_ ?_);(focus (first|rfl|(simp;done))))|((with_reducible refine ObN.mk ?_ ?_);(focus exact zN))|(with_reducible refine ObT.tt ?_)|((with_reducible refine ObB.yes ?_ ?_);(focus (first|assumption|(with_reducible rfl)|omega)))|((with_reducible refine ObB.no ?_ ?_);(focus (first|assumption|omega)))|((with_reducible refine ObX.mk _ rfl ?_ ?_);(focus exact zX))|((with_reducible refine (?_:ObL _ _));(refine ObL.mk _ zM ?_))|((with_reducible refine (?_:ObR _ _ _));(first|(refine ObR.mk _ (by assumption) ?_)|(refine ObR.mk _ (by exact q1) ?_)|(refine ObR.mk _ (by exact q2) ?_)|(refine ObR.mk _ (by with_reducible rfl) ?_)|(refine ObR.map zX (fun x hx=>?_))|(refine ObR.mk _ rfl ?_)))|((with_reducible refine ObEq.mk ?_);(focus (first|rfl|assumption))))
      · obtain rfl : k = H.length := by omega
        obtain rfl:=tk_all hr (by simpa using hn) (by simpa using hq)
        repeat' ((conv=>whnf);first|(with_reducible refine SeqP.go ?_)|((with_reducible refine ObN.mk ?_ ?_);(focus exact zN))|(with_reducible refine ObT.ff ?_)|((with_reducible refine ObB.no ?_ ?_);(focus (first|assumption|omega)))|((with_reducible refine (?_:ObL _ _));(refine ObL.mk _ zL ?_))|((with_reducible refine (?_:ObR _ _ _));(first|(refine ObR.mk _ (by assumption) ?_)|(refine ObR.mk _ (by with_reducible rfl) ?_)|(refine ObR.map zX (fun x hx=>?_))|(refine ObR.mk _ rfl ?_)))|((with_reducible refine ObEq.mk ?_);(focus (first|rfl|assumption))))
    · obtain rfl := ln_no hr (by simpa using hn)
      have hn2:¬ (H.length:Int)=(K.length:Int):=by omega
      refine pc_ofV cop14 ?_
      repeat' ((conv=>whnf);first|(with_reducible refine SeqP.go ?_)|((with_reducible refine ObD.mk ?_ ?_);(focus (first|rfl|(simp;done))))|((with_reducible refine ObN.mk ?_ ?_);(focus exact zN))|(with_reducible refine ObT.tt ?_)|(with_reducible refine ObT.ff ?_)|((with_reducible refine ObB.no ?_ ?_);(focus (first|assumption|omega)))|((with_reducible refine (?_:ObL _ _));(refine ObL.mk _ zM ?_))|((with_reducible refine (?_:ObR _ _ _));(first|(refine ObR.mk _ (by assumption) ?_)|(refine ObR.mk _ (by with_reducible rfl) ?_)|(refine ObR.map zX (fun x hx=>?_))|(refine ObR.mk _ rfl ?_)))|((with_reducible refine ObC.f 35 ?_);(first|(with_reducible refine ObC.mk _ (cl) ?_)|(refine ObC.mk _ (cl) ?_)))|((with_reducible refine ObC.f 35 ?_);(first|(with_reducible refine ObC.mk _ (cm) ?_)|(refine ObC.mk _ (cm) ?_)))|((with_reducible refine ObC.f 43 ?_);(first|(with_reducible refine ObC.mk _ (s1) ?_)|(refine ObC.mk _ (s1) ?_)))|((with_reducible refine ObEq.mk ?_);(focus (first|rfl|assumption))))
  · have s1 := same13 G (mk l) (mk m) hl hm false (by simp [hlm])
    obtain rfl:r=false:=by
      cases r with
      | false=>rfl
      | true=>exact absurd (hr.1 rfl).1 hlm
    refine pc_ofV cop14 ?_
    repeat' ((conv=>whnf);first|(with_reducible refine SeqP.go ?_)|((with_reducible refine ObD.mk ?_ ?_);(focus (first|rfl|(simp;done))))|((with_reducible refine ObN.mk ?_ ?_);(focus exact zN))|(with_reducible refine ObT.tt ?_)|(with_reducible refine ObT.ff ?_)|((with_reducible refine (?_:ObR _ _ _));(first|(refine ObR.mk _ (by assumption) ?_)|(refine ObR.mk _ (by with_reducible rfl) ?_)|(refine ObR.map zX (fun x hx=>?_))|(refine ObR.mk _ rfl ?_)))|((with_reducible refine ObC.f 35 ?_);(first|(with_reducible refine ObC.mk _ (cl) ?_)|(refine ObC.mk _ (cl) ?_)))|((with_reducible refine ObC.f 35 ?_);(first|(with_reducible refine ObC.mk _ (cm) ?_)|(refine ObC.mk _ (cm) ?_)))|((with_reducible refine ObC.f 43 ?_);(first|(with_reducible refine ObC.mk _ (s1) ?_)|(refine ObC.mk _ (s1) ?_)))|((with_reducible refine ObEq.mk ?_);(focus (first|rfl|assumption))))
end
end Go.Proofs.YtgpldekhcojimaaDoor.Sim
namespace Go.Proofs.YtgpldekhcojimaaDoor.Sim.Pr7
open Go.RowKit
set_option maxRecDepth 100000
abbrev kfA (f:Nat) (key:ByteArray):AV:=.fn f [.ad 1 [S key] 0 0]
set_option maxHeartbeats 4000000 in
theorem nl33 (G:Nat→AV) (key:ByteArray):PC Tryd.prog G 67 [S key] (kfA 89 key):=by
  refine pc_of cop67 ?_
  show W _ _ _ _ ⟨_,_⟩;simp only [A67,List.cons_append,List.nil_append,List.length_cons,List.length_nil,Nat.reduceAdd,Nat.reduceSub,List.replicate]
  repeat (first|with_reducible refine w_seq ?_|with_reducible refine w_reg ?_|with_reducible refine ws_nil ?_|with_reducible refine q_then ?_|with_reducible refine w_ret ?_|((first|with_reducible refine ks fun K hK=>?_|with_reducible refine kd fun K hK=>?_|with_reducible refine kc fun K hK2 hK hK3=>?_);simp (disch:=omega) only [bg0,bg1,bg2,bg3,bg4,stepO,rsAs,eff,AX.ev,St.put,binA,conc,ap1,ofVal,Int.reduceTMod,Int.reduceTDiv,reduceCtorEq,fillA,AV.cells,AV.fine,AV.one,Nat.reduceAdd,Nat.reduceSub,Nat.reduceMul,Nat.reduceLT,Nat.reduceLeDiff,Int.reduceLT,Int.reduceLE,Int.reduceAdd,Int.reduceSub,Int.reduceNeg,Int.reduceMul,Int.reduceEq,Int.reduceToNat,nilA,moveA,live,loadA,rdA,storeA,wrA,intA,elemA,lenA,appA,srcA,isPtr,isNilPtr,partA,resOf,sliceA,cut,id,ap2,reduceIte,concs,chkB,geB,AOp.cls,AOp.xs,ltB,ltC,Nat.reduceBEq,Option.toList,List.cons_append,decide_eq_true,decide_eq_false,if_pos,if_neg,List.length_map,pA_at,List.cons_append,bVb,bVn,eq_self,Bool.and_self,BEq.rfl,not_true_eq_false,cVu,cVi,shr1];(first|((with_reducible refine hK _ ?_);clear hK K)|((with_reducible refine hK ?_);clear hK hK3 K hK2)|((with_reducible refine hK3 ?_);clear hK hK3 K hK2)))|((first|with_reducible refine ret_h fun K hK=>?_|with_reducible refine ret_hh rfl fun K hK=>?_|with_reducible refine ret_pp fun K hK=>?_);simp (disch:=omega) only [bg0,bg1,bg2,bg3,bg4,stepO,rsAs,eff,AX.ev,St.put,binA,conc,ap1,ofVal,Int.reduceTMod,Int.reduceTDiv,reduceCtorEq,fillA,AV.cells,AV.fine,AV.one,Nat.reduceAdd,Nat.reduceSub,Nat.reduceMul,Nat.reduceLT,Nat.reduceLeDiff,Int.reduceLT,Int.reduceLE,Int.reduceAdd,Int.reduceSub,Int.reduceNeg,Int.reduceMul,Int.reduceEq,Int.reduceToNat,nilA,moveA,live,loadA,rdA,storeA,wrA,intA,elemA,lenA,appA,srcA,isPtr,isNilPtr,partA,resOf,sliceA,cut,id,ap2,reduceIte,concs,chkB,geB,AOp.cls,AOp.xs,ltB,ltC,Nat.reduceBEq,Option.toList,List.cons_append,decide_eq_true,decide_eq_false,if_pos,if_neg,List.length_map,pA_at,List.cons_append,bVb,bVn,eq_self,Bool.and_self,BEq.rfl,not_true_eq_false,cVu,cVi,shr1];(first|((with_reducible refine hK _ ?_ ?_ ?_ ?_);rotate_left 2;rfl;rfl)|((with_reducible refine hK _ ?_);rfl))))
set_option maxHeartbeats 4000000 in
theorem gr34 (G:Nat→AV) (key:ByteArray):PC Tryd.prog G 56 [S key] (kfA 86 key):=by
  refine pc_of cop56 ?_
  show W _ _ _ _ ⟨_,_⟩;simp only [A56,List.cons_append,List.nil_append,List.length_cons,List.length_nil,Nat.reduceAdd,Nat.reduceSub,List.replicate]
  repeat (first|with_reducible refine w_seq ?_|with_reducible refine w_reg ?_|with_reducible refine ws_nil ?_|with_reducible refine q_then ?_|with_reducible refine w_ret ?_|((first|with_reducible refine ks fun K hK=>?_|with_reducible refine kd fun K hK=>?_|with_reducible refine kc fun K hK2 hK hK3=>?_);simp (disch:=omega) only [bg0,bg1,bg2,bg3,bg4,stepO,rsAs,eff,AX.ev,St.put,binA,conc,ap1,ofVal,Int.reduceTMod,Int.reduceTDiv,reduceCtorEq,fillA,AV.cells,AV.fine,AV.one,Nat.reduceAdd,Nat.reduceSub,Nat.reduceMul,Nat.reduceLT,Nat.reduceLeDiff,Int.reduceLT,Int.reduceLE,Int.reduceAdd,Int.reduceSub,Int.reduceNeg,Int.reduceMul,Int.reduceEq,Int.reduceToNat,nilA,moveA,live,loadA,rdA,storeA,wrA,intA,elemA,lenA,appA,srcA,isPtr,isNilPtr,partA,resOf,sliceA,cut,id,ap2,reduceIte,concs,chkB,geB,AOp.cls,AOp.xs,ltB,ltC,Nat.reduceBEq,Option.toList,List.cons_append,decide_eq_true,decide_eq_false,if_pos,if_neg,List.length_map,pA_at,List.cons_append,bVb,bVn,eq_self,Bool.and_self,BEq.rfl,not_true_eq_false,cVu,cVi,shr1];(first|((with_reducible refine hK _ ?_);clear hK K)|((with_reducible refine hK ?_);clear hK hK3 K hK2)|((with_reducible refine hK3 ?_);clear hK hK3 K hK2)))|((first|with_reducible refine ret_h fun K hK=>?_|with_reducible refine ret_hh rfl fun K hK=>?_|with_reducible refine ret_pp fun K hK=>?_);simp (disch:=omega) only [bg0,bg1,bg2,bg3,bg4,stepO,rsAs,eff,AX.ev,St.put,binA,conc,ap1,ofVal,Int.reduceTMod,Int.reduceTDiv,reduceCtorEq,fillA,AV.cells,AV.fine,AV.one,Nat.reduceAdd,Nat.reduceSub,Nat.reduceMul,Nat.reduceLT,Nat.reduceLeDiff,Int.reduceLT,Int.reduceLE,Int.reduceAdd,Int.reduceSub,Int.reduceNeg,Int.reduceMul,Int.reduceEq,Int.reduceToNat,nilA,moveA,live,loadA,rdA,storeA,wrA,intA,elemA,lenA,appA,srcA,isPtr,isNilPtr,partA,resOf,sliceA,cut,id,ap2,reduceIte,concs,chkB,geB,AOp.cls,AOp.xs,ltB,ltC,Nat.reduceBEq,Option.toList,List.cons_append,decide_eq_true,decide_eq_false,if_pos,if_neg,List.length_map,pA_at,List.cons_append,bVb,bVn,eq_self,Bool.and_self,BEq.rfl,not_true_eq_false,cVu,cVi,shr1];(first|((with_reducible refine hK _ ?_ ?_ ?_ ?_);rotate_left 2;rfl;rfl)|((with_reducible refine hK _ ?_);rfl))))
set_option maxHeartbeats 4000000 in
theorem nl40 (G:Nat→AV) (p:Pr) (key:ByteArray) (hp:p.1.size≤9223372036854775807) (hk:key.size≤9223372036854775807):PC Tryd.prog G 89 [.agg [S p.1,S p.2],.ad 1 [S key] 0 0] (Bo (decide (0≤cB p.1 key))):=by
  refine pc_of cop89 ?_
  show W _ _ _ _ ⟨_,_⟩;simp only [A89,List.cons_append,List.nil_append,List.length_cons,List.length_nil,Nat.reduceAdd,Nat.reduceSub,List.replicate]
  repeat (first|with_reducible refine w_seq ?_|with_reducible refine w_reg ?_|with_reducible refine ws_nil ?_|with_reducible refine q_then ?_|with_reducible refine w_ret ?_|((first|with_reducible refine ks fun K hK=>?_|with_reducible refine kd fun K hK=>?_|with_reducible refine kc fun K hK2 hK hK3=>?_);simp (disch:=omega) only [bg0,bg1,bg2,bg3,bg4,stepO,rsAs,eff,AX.ev,St.put,binA,conc,ap1,ofVal,Int.reduceTMod,Int.reduceTDiv,reduceCtorEq,fillA,AV.cells,AV.fine,AV.one,Nat.reduceAdd,Nat.reduceSub,Nat.reduceMul,Nat.reduceLT,Nat.reduceLeDiff,Int.reduceLT,Int.reduceLE,Int.reduceAdd,Int.reduceSub,Int.reduceNeg,Int.reduceMul,Int.reduceEq,Int.reduceToNat,nilA,moveA,live,loadA,rdA,storeA,wrA,intA,elemA,lenA,appA,srcA,isPtr,isNilPtr,partA,resOf,sliceA,cut,id,ap2,reduceIte,concs,chkB,geB,AOp.cls,AOp.xs,ltB,ltC,Nat.reduceBEq,Option.toList,List.cons_append,decide_eq_true,decide_eq_false,if_pos,if_neg,List.length_map,pA_at,List.cons_append,bVb,bVn,eq_self,Bool.and_self,BEq.rfl,not_true_eq_false,cVu,cVi,shr1];(first|((with_reducible refine hK _ ?_);clear hK K)|((with_reducible refine hK ?_);clear hK hK3 K hK2)|((with_reducible refine hK3 ?_);clear hK hK3 K hK2)))|((with_reducible refine kps 44 ?_ ?_ ?_ ?_);rotate_left 1;rfl;exact (by refine cmpP G _ _ ?_ ?_<;>assumption))|((first|with_reducible refine ret_h fun K hK=>?_|with_reducible refine ret_hh rfl fun K hK=>?_|with_reducible refine ret_pp fun K hK=>?_);simp (disch:=omega) only [bg0,bg1,bg2,bg3,bg4,stepO,rsAs,eff,AX.ev,St.put,binA,conc,ap1,ofVal,Int.reduceTMod,Int.reduceTDiv,reduceCtorEq,fillA,AV.cells,AV.fine,AV.one,Nat.reduceAdd,Nat.reduceSub,Nat.reduceMul,Nat.reduceLT,Nat.reduceLeDiff,Int.reduceLT,Int.reduceLE,Int.reduceAdd,Int.reduceSub,Int.reduceNeg,Int.reduceMul,Int.reduceEq,Int.reduceToNat,nilA,moveA,live,loadA,rdA,storeA,wrA,intA,elemA,lenA,appA,srcA,isPtr,isNilPtr,partA,resOf,sliceA,cut,id,ap2,reduceIte,concs,chkB,geB,AOp.cls,AOp.xs,ltB,ltC,Nat.reduceBEq,Option.toList,List.cons_append,decide_eq_true,decide_eq_false,if_pos,if_neg,List.length_map,pA_at,List.cons_append,bVb,bVn,eq_self,Bool.and_self,BEq.rfl,not_true_eq_false,cVu,cVi,shr1];(first|((with_reducible refine hK _ ?_ ?_ ?_ ?_);rotate_left 2;rfl;rfl)|((with_reducible refine hK _ ?_);rfl))))
set_option maxHeartbeats 4000000 in
theorem gr41 (G:Nat→AV) (p:Pr) (key:ByteArray) (hp:p.1.size≤9223372036854775807) (hk:key.size≤9223372036854775807):PC Tryd.prog G 86 [.agg [S p.1,S p.2],.ad 1 [S key] 0 0] (Bo (decide (0 < cB p.1 key))):=by
  refine pc_of cop86 ?_
  show W _ _ _ _ ⟨_,_⟩;simp only [A86,List.cons_append,List.nil_append,List.length_cons,List.length_nil,Nat.reduceAdd,Nat.reduceSub,List.replicate]
  repeat (first|with_reducible refine w_seq ?_|with_reducible refine w_reg ?_|with_reducible refine ws_nil ?_|with_reducible refine q_then ?_|with_reducible refine w_ret ?_|((first|with_reducible refine ks fun K hK=>?_|with_reducible refine kd fun K hK=>?_|with_reducible refine kc fun K hK2 hK hK3=>?_);simp (disch:=omega) only [bg0,bg1,bg2,bg3,bg4,stepO,rsAs,eff,AX.ev,St.put,binA,conc,ap1,ofVal,Int.reduceTMod,Int.reduceTDiv,reduceCtorEq,fillA,AV.cells,AV.fine,AV.one,Nat.reduceAdd,Nat.reduceSub,Nat.reduceMul,Nat.reduceLT,Nat.reduceLeDiff,Int.reduceLT,Int.reduceLE,Int.reduceAdd,Int.reduceSub,Int.reduceNeg,Int.reduceMul,Int.reduceEq,Int.reduceToNat,nilA,moveA,live,loadA,rdA,storeA,wrA,intA,elemA,lenA,appA,srcA,isPtr,isNilPtr,partA,resOf,sliceA,cut,id,ap2,reduceIte,concs,chkB,geB,AOp.cls,AOp.xs,ltB,ltC,Nat.reduceBEq,Option.toList,List.cons_append,decide_eq_true,decide_eq_false,if_pos,if_neg,List.length_map,pA_at,List.cons_append,bVb,bVn,eq_self,Bool.and_self,BEq.rfl,not_true_eq_false,cVu,cVi,shr1];(first|((with_reducible refine hK _ ?_);clear hK K)|((with_reducible refine hK ?_);clear hK hK3 K hK2)|((with_reducible refine hK3 ?_);clear hK hK3 K hK2)))|((with_reducible refine kps 44 ?_ ?_ ?_ ?_);rotate_left 1;rfl;exact (by refine cmpP G _ _ ?_ ?_<;>assumption))|((first|with_reducible refine ret_h fun K hK=>?_|with_reducible refine ret_hh rfl fun K hK=>?_|with_reducible refine ret_pp fun K hK=>?_);simp (disch:=omega) only [bg0,bg1,bg2,bg3,bg4,stepO,rsAs,eff,AX.ev,St.put,binA,conc,ap1,ofVal,Int.reduceTMod,Int.reduceTDiv,reduceCtorEq,fillA,AV.cells,AV.fine,AV.one,Nat.reduceAdd,Nat.reduceSub,Nat.reduceMul,Nat.reduceLT,Nat.reduceLeDiff,Int.reduceLT,Int.reduceLE,Int.reduceAdd,Int.reduceSub,Int.reduceNeg,Int.reduceMul,Int.reduceEq,Int.reduceToNat,nilA,moveA,live,loadA,rdA,storeA,wrA,intA,elemA,lenA,appA,srcA,isPtr,isNilPtr,partA,resOf,sliceA,cut,id,ap2,reduceIte,concs,chkB,geB,AOp.cls,AOp.xs,ltB,ltC,Nat.reduceBEq,Option.toList,List.cons_append,decide_eq_true,decide_eq_false,if_pos,if_neg,List.length_map,pA_at,List.cons_append,bVb,bVn,eq_self,Bool.and_self,BEq.rfl,not_true_eq_false,cVu,cVi,shr1];(first|((with_reducible refine hK _ ?_ ?_ ?_ ?_);rotate_left 2;rfl;rfl)|((with_reducible refine hK _ ?_);rfl))))
set_option maxHeartbeats 1000000 in
theorem at39_40 (G : Nat → AV) (key : ByteArray) (m : List Pr) (i : Nat) (hi : i < m.length) (hm : m.length ≤ 1000000) (r : Bool) (h : PC Tryd.prog G 89 [.agg [S (m[i]).1, S (m[i]).2], .ad 1 [S key] 0 0] (Bo r)) :
    PC Tryd.prog G 85 [I i,.ad 1 [kfA 89 key] 0 0,.ad 1 [.sl 2 (m.map pA)] 0 0] (Bo r):=by
  refine pc_of cop85 ?_
  show W _ _ _ _ ⟨_,_⟩;simp only [A85,List.cons_append,List.nil_append,List.length_cons,List.length_nil,Nat.reduceAdd,Nat.reduceSub,List.replicate]
  repeat (first|with_reducible refine w_seq ?_|with_reducible refine w_reg ?_|with_reducible refine w_draw ?_|with_reducible refine ws_nil ?_|with_reducible refine wd_nil ?_|with_reducible refine q_then ?_|with_reducible refine w_ret ?_|((first|with_reducible refine ks fun K hK=>?_|with_reducible refine kd fun K hK=>?_|with_reducible refine kc fun K hK2 hK hK3=>?_);simp (disch:=omega) only [bg0,bg1,bg2,bg3,bg4,stepO,rsAs,eff,AX.ev,St.put,binA,conc,ap1,ofVal,Int.reduceTMod,Int.reduceTDiv,reduceCtorEq,fillA,AV.cells,AV.fine,AV.one,Nat.reduceAdd,Nat.reduceSub,Nat.reduceMul,Nat.reduceLT,Nat.reduceLeDiff,Int.reduceLT,Int.reduceLE,Int.reduceAdd,Int.reduceSub,Int.reduceNeg,Int.reduceMul,Int.reduceEq,Int.reduceToNat,nilA,moveA,live,loadA,rdA,storeA,wrA,intA,elemA,lenA,appA,srcA,isPtr,isNilPtr,partA,resOf,sliceA,cut,id,ap2,reduceIte,concs,chkB,geB,AOp.cls,AOp.xs,ltB,ltC,Nat.reduceBEq,Option.toList,List.cons_append,decide_eq_true,decide_eq_false,if_pos,if_neg,List.length_map,pA_at,List.cons_append,bVb,bVn,eq_self,Bool.and_self,BEq.rfl,not_true_eq_false,cVu,cVi,shr1];(first|((with_reducible refine hK _ ?_);clear hK K)|((with_reducible refine hK ?_);clear hK hK3 K hK2)|((with_reducible refine hK3 ?_);clear hK hK3 K hK2)))|((first|((with_reducible refine kvd 89 ?_ ?_ ?_ ?_ ?_ ?_ ?_ ?_);rotate_left 3));(focus (simp (disch:=omega) only [bg0,bg1,bg2,bg3,bg4,stepO,rsAs,eff,AX.ev,St.put,binA,conc,ap1,ofVal,Int.reduceTMod,Int.reduceTDiv,reduceCtorEq,fillA,AV.cells,AV.fine,AV.one,Nat.reduceAdd,Nat.reduceSub,Nat.reduceMul,Nat.reduceLT,Nat.reduceLeDiff,Int.reduceLT,Int.reduceLE,Int.reduceAdd,Int.reduceSub,Int.reduceNeg,Int.reduceMul,Int.reduceEq,Int.reduceToNat,nilA,moveA,live,loadA,rdA,storeA,wrA,intA,elemA,lenA,appA,srcA,isPtr,isNilPtr,partA,resOf,sliceA,cut,id,ap2,reduceIte,concs,chkB,geB,AOp.cls,AOp.xs,ltB,ltC,Nat.reduceBEq,Option.toList,List.cons_append,decide_eq_true,decide_eq_false,if_pos,if_neg,List.length_map,pA_at,List.cons_append,bVb,bVn,eq_self,Bool.and_self,BEq.rfl,not_true_eq_false,cVu,cVi,shr1];try rfl));(first|(rfl;exact hb89;exact (hc_pc rfl h _))))|((first|with_reducible refine ret_h fun K hK=>?_|with_reducible refine ret_hh rfl fun K hK=>?_|with_reducible refine ret_pp fun K hK=>?_);simp (disch:=omega) only [bg0,bg1,bg2,bg3,bg4,stepO,rsAs,eff,AX.ev,St.put,binA,conc,ap1,ofVal,Int.reduceTMod,Int.reduceTDiv,reduceCtorEq,fillA,AV.cells,AV.fine,AV.one,Nat.reduceAdd,Nat.reduceSub,Nat.reduceMul,Nat.reduceLT,Nat.reduceLeDiff,Int.reduceLT,Int.reduceLE,Int.reduceAdd,Int.reduceSub,Int.reduceNeg,Int.reduceMul,Int.reduceEq,Int.reduceToNat,nilA,moveA,live,loadA,rdA,storeA,wrA,intA,elemA,lenA,appA,srcA,isPtr,isNilPtr,partA,resOf,sliceA,cut,id,ap2,reduceIte,concs,chkB,geB,AOp.cls,AOp.xs,ltB,ltC,Nat.reduceBEq,Option.toList,List.cons_append,decide_eq_true,decide_eq_false,if_pos,if_neg,List.length_map,pA_at,List.cons_append,bVb,bVn,eq_self,Bool.and_self,BEq.rfl,not_true_eq_false,cVu,cVi,shr1];(first|((with_reducible refine hK _ ?_ ?_ ?_ ?_);rotate_left 2;rfl;rfl)|((with_reducible refine hK _ ?_);rfl))))
set_option maxHeartbeats 1000000 in
theorem at39_41 (G : Nat → AV) (key : ByteArray) (m : List Pr) (i : Nat) (hi : i < m.length) (hm : m.length ≤ 1000000) (r : Bool) (h : PC Tryd.prog G 86 [.agg [S (m[i]).1, S (m[i]).2], .ad 1 [S key] 0 0] (Bo r)) :
    PC Tryd.prog G 85 [I i,.ad 1 [kfA 86 key] 0 0,.ad 1 [.sl 2 (m.map pA)] 0 0] (Bo r):=by
  refine pc_of cop85 ?_
  show W _ _ _ _ ⟨_,_⟩;simp only [A85,List.cons_append,List.nil_append,List.length_cons,List.length_nil,Nat.reduceAdd,Nat.reduceSub,List.replicate]
  repeat (first|with_reducible refine w_seq ?_|with_reducible refine w_reg ?_|with_reducible refine w_draw ?_|with_reducible refine ws_nil ?_|with_reducible refine wd_nil ?_|with_reducible refine q_then ?_|with_reducible refine w_ret ?_|((first|with_reducible refine ks fun K hK=>?_|with_reducible refine kd fun K hK=>?_|with_reducible refine kc fun K hK2 hK hK3=>?_);simp (disch:=omega) only [bg0,bg1,bg2,bg3,bg4,stepO,rsAs,eff,AX.ev,St.put,binA,conc,ap1,ofVal,Int.reduceTMod,Int.reduceTDiv,reduceCtorEq,fillA,AV.cells,AV.fine,AV.one,Nat.reduceAdd,Nat.reduceSub,Nat.reduceMul,Nat.reduceLT,Nat.reduceLeDiff,Int.reduceLT,Int.reduceLE,Int.reduceAdd,Int.reduceSub,Int.reduceNeg,Int.reduceMul,Int.reduceEq,Int.reduceToNat,nilA,moveA,live,loadA,rdA,storeA,wrA,intA,elemA,lenA,appA,srcA,isPtr,isNilPtr,partA,resOf,sliceA,cut,id,ap2,reduceIte,concs,chkB,geB,AOp.cls,AOp.xs,ltB,ltC,Nat.reduceBEq,Option.toList,List.cons_append,decide_eq_true,decide_eq_false,if_pos,if_neg,List.length_map,pA_at,List.cons_append,bVb,bVn,eq_self,Bool.and_self,BEq.rfl,not_true_eq_false,cVu,cVi,shr1];(first|((with_reducible refine hK _ ?_);clear hK K)|((with_reducible refine hK ?_);clear hK hK3 K hK2)|((with_reducible refine hK3 ?_);clear hK hK3 K hK2)))|((first|((with_reducible refine kvd 86 ?_ ?_ ?_ ?_ ?_ ?_ ?_ ?_);rotate_left 3));(focus (simp (disch:=omega) only [bg0,bg1,bg2,bg3,bg4,stepO,rsAs,eff,AX.ev,St.put,binA,conc,ap1,ofVal,Int.reduceTMod,Int.reduceTDiv,reduceCtorEq,fillA,AV.cells,AV.fine,AV.one,Nat.reduceAdd,Nat.reduceSub,Nat.reduceMul,Nat.reduceLT,Nat.reduceLeDiff,Int.reduceLT,Int.reduceLE,Int.reduceAdd,Int.reduceSub,Int.reduceNeg,Int.reduceMul,Int.reduceEq,Int.reduceToNat,nilA,moveA,live,loadA,rdA,storeA,wrA,intA,elemA,lenA,appA,srcA,isPtr,isNilPtr,partA,resOf,sliceA,cut,id,ap2,reduceIte,concs,chkB,geB,AOp.cls,AOp.xs,ltB,ltC,Nat.reduceBEq,Option.toList,List.cons_append,decide_eq_true,decide_eq_false,if_pos,if_neg,List.length_map,pA_at,List.cons_append,bVb,bVn,eq_self,Bool.and_self,BEq.rfl,not_true_eq_false,cVu,cVi,shr1];try rfl));(first|(rfl;exact hb86;exact (hc_pc rfl h _))))|((first|with_reducible refine ret_h fun K hK=>?_|with_reducible refine ret_hh rfl fun K hK=>?_|with_reducible refine ret_pp fun K hK=>?_);simp (disch:=omega) only [bg0,bg1,bg2,bg3,bg4,stepO,rsAs,eff,AX.ev,St.put,binA,conc,ap1,ofVal,Int.reduceTMod,Int.reduceTDiv,reduceCtorEq,fillA,AV.cells,AV.fine,AV.one,Nat.reduceAdd,Nat.reduceSub,Nat.reduceMul,Nat.reduceLT,Nat.reduceLeDiff,Int.reduceLT,Int.reduceLE,Int.reduceAdd,Int.reduceSub,Int.reduceNeg,Int.reduceMul,Int.reduceEq,Int.reduceToNat,nilA,moveA,live,loadA,rdA,storeA,wrA,intA,elemA,lenA,appA,srcA,isPtr,isNilPtr,partA,resOf,sliceA,cut,id,ap2,reduceIte,concs,chkB,geB,AOp.cls,AOp.xs,ltB,ltC,Nat.reduceBEq,Option.toList,List.cons_append,decide_eq_true,decide_eq_false,if_pos,if_neg,List.length_map,pA_at,List.cons_append,bVb,bVn,eq_self,Bool.and_self,BEq.rfl,not_true_eq_false,cVu,cVi,shr1];(first|((with_reducible refine hK _ ?_ ?_ ?_ ?_);rotate_left 2;rfl;rfl)|((with_reducible refine hK _ ?_);rfl))))
set_option maxHeartbeats 2000000 in
theorem search38 (G:Nat→AV) (n c:Nat) (hc:c≤n) (hn:n≤1000000) (cs:List AV) (hp:cs.all AV.isP=true) (h:∀ i,i < n→PC Tryd.prog G 85 (I i::cs) (Bo (decide (c≤i)))):PC Tryd.prog G 84 [I n,.fn 85 cs] (I c):=by
  refine pc_of cop84 ?_
  show W _ _ _ _ ⟨_,_⟩;simp only [A84,List.cons_append,List.nil_append,List.length_cons,List.length_nil,Nat.reduceAdd,Nat.reduceSub,List.replicate]
  repeat (first|with_reducible refine w_seq ?_|with_reducible refine w_reg ?_|with_reducible refine w_block ?_|with_reducible refine ws_nil ?_|with_reducible refine q_then ?_|((first|with_reducible refine ks fun K hK=>?_|with_reducible refine kd fun K hK=>?_|with_reducible refine kc fun K hK2 hK hK3=>?_);simp (disch:=omega) only [bg0,bg1,bg2,bg3,bg4,stepO,rsAs,eff,AX.ev,St.put,binA,conc,ap1,ofVal,Int.reduceTMod,Int.reduceTDiv,reduceCtorEq,fillA,AV.cells,AV.fine,AV.one,Nat.reduceAdd,Nat.reduceSub,Nat.reduceMul,Nat.reduceLT,Nat.reduceLeDiff,Int.reduceLT,Int.reduceLE,Int.reduceAdd,Int.reduceSub,Int.reduceNeg,Int.reduceMul,Int.reduceEq,Int.reduceToNat,nilA,moveA,live,loadA,rdA,storeA,wrA,intA,elemA,lenA,appA,srcA,isPtr,isNilPtr,partA,resOf,sliceA,cut,id,ap2,reduceIte,concs,chkB,geB,AOp.cls,AOp.xs,ltB,ltC,Nat.reduceBEq,Option.toList,List.cons_append,decide_eq_true,decide_eq_false,if_pos,if_neg,List.length_map,pA_at,List.cons_append,bVb,bVn,eq_self,Bool.and_self,BEq.rfl,not_true_eq_false,cVu,cVi,shr1];(first|((with_reducible refine hK _ ?_);clear hK K)|((with_reducible refine hK ?_);clear hK hK3 K hK2)|((with_reducible refine hK3 ?_);clear hK hK3 K hK2))))
  refine w_loop_d [5,6,7,9,10,11,12,13,14,15,16,17,18,19,20,21,22,23,24] (fun u v H=>∃ i j:Nat,u=j - i∧v 5=I i∧v 6=I j∧i≤c∧c≤j∧j≤n∧H=[]) n ⟨0,n,rfl,rfl,rfl,by omega,by omega,by omega,rfl⟩ ?_
  rintro u v H ⟨i,j,rfl,h5,h6,i1,i2,i3,rfl⟩
  simp only [mix,mix_nil,mix_end,mix_skp,Nat.reduceEqDiff,Nat.reduceLeDiff,reduceCtorEq,if_true,if_false,reduceIte,Nat.reduceAdd,h5,h6]
  by_cases hij:i < j
  · obtain ⟨k, hk⟩ : ∃ k, k = (i + j) / 2 := ⟨_, rfl⟩
    have hm:=hk.symm
    have hf:HC Tryd.prog G 85 (I k::cs) [] (Bo (decide (c≤k))) []:=hc_pc (by simp only [List.all_cons,hp];rfl) (h k (by omega)) _
    by_cases hck:c≤k
    · repeat (first|with_reducible refine w_seq ?_|with_reducible refine w_reg ?_|with_reducible refine w_block ?_|with_reducible refine w_skip ?_|with_reducible refine ws_nil ?_|with_reducible refine q_then ?_|with_reducible refine q_block_n ?_|((first|with_reducible refine ks fun K hK=>?_|with_reducible refine kd fun K hK=>?_|with_reducible refine kc fun K hK2 hK hK3=>?_);simp (disch:=omega) only [bg0,bg1,bg2,bg3,bg4,stepO,rsAs,eff,AX.ev,St.put,binA,conc,ap1,ofVal,Int.reduceTMod,Int.reduceTDiv,reduceCtorEq,fillA,AV.cells,AV.fine,AV.one,Nat.reduceAdd,Nat.reduceSub,Nat.reduceMul,Nat.reduceLT,Nat.reduceLeDiff,Int.reduceLT,Int.reduceLE,Int.reduceAdd,Int.reduceSub,Int.reduceNeg,Int.reduceMul,Int.reduceEq,Int.reduceToNat,nilA,moveA,live,loadA,rdA,storeA,wrA,intA,elemA,lenA,appA,srcA,isPtr,isNilPtr,partA,resOf,sliceA,cut,id,ap2,reduceIte,concs,chkB,geB,AOp.cls,AOp.xs,ltB,ltC,Nat.reduceBEq,Option.toList,List.cons_append,decide_eq_true,decide_eq_false,if_pos,if_neg,List.length_map,pA_at,List.cons_append,bVb,bVn,eq_self,Bool.and_self,BEq.rfl,not_true_eq_false,cVu,cVi,shr1,hm,hck];(first|((with_reducible refine hK _ ?_);clear hK K)|((with_reducible refine hK ?_);clear hK hK3 K hK2)|((with_reducible refine hK3 ?_);clear hK hK3 K hK2)))|((with_reducible refine kvs 85 ?_ ?_ ?_ ?_ ?_ ?_ ?_);rotate_left 3;rfl;exact hb85;exact hf))
      exact ⟨rfl,k - i,by omega,i,k,rfl,rfl,rfl,by omega,by omega,by omega,rfl⟩
    · repeat (first|with_reducible refine w_seq ?_|with_reducible refine w_reg ?_|with_reducible refine w_block ?_|with_reducible refine w_skip ?_|with_reducible refine ws_nil ?_|with_reducible refine q_then ?_|with_reducible refine q_block_n ?_|((first|with_reducible refine ks fun K hK=>?_|with_reducible refine kd fun K hK=>?_|with_reducible refine kc fun K hK2 hK hK3=>?_);simp (disch:=omega) only [bg0,bg1,bg2,bg3,bg4,stepO,rsAs,eff,AX.ev,St.put,binA,conc,ap1,ofVal,Int.reduceTMod,Int.reduceTDiv,reduceCtorEq,fillA,AV.cells,AV.fine,AV.one,Nat.reduceAdd,Nat.reduceSub,Nat.reduceMul,Nat.reduceLT,Nat.reduceLeDiff,Int.reduceLT,Int.reduceLE,Int.reduceAdd,Int.reduceSub,Int.reduceNeg,Int.reduceMul,Int.reduceEq,Int.reduceToNat,nilA,moveA,live,loadA,rdA,storeA,wrA,intA,elemA,lenA,appA,srcA,isPtr,isNilPtr,partA,resOf,sliceA,cut,id,ap2,reduceIte,concs,chkB,geB,AOp.cls,AOp.xs,ltB,ltC,Nat.reduceBEq,Option.toList,List.cons_append,decide_eq_true,decide_eq_false,if_pos,if_neg,List.length_map,pA_at,List.cons_append,bVb,bVn,eq_self,Bool.and_self,BEq.rfl,not_true_eq_false,cVu,cVi,shr1,hm,hck];(first|((with_reducible refine hK _ ?_);clear hK K)|((with_reducible refine hK ?_);clear hK hK3 K hK2)|((with_reducible refine hK3 ?_);clear hK hK3 K hK2)))|((with_reducible refine kvs 85 ?_ ?_ ?_ ?_ ?_ ?_ ?_);rotate_left 3;rfl;exact hb85;exact hf))
      exact ⟨rfl,j - (k+1),by omega,k+1,j,rfl,rfl,rfl,by omega,by omega,by omega,rfl⟩
  · obtain rfl : i = c := by omega
    repeat (first|with_reducible refine w_seq ?_|with_reducible refine w_reg ?_|with_reducible refine w_exit ?_|with_reducible refine ws_nil ?_|with_reducible refine q_then ?_|with_reducible refine q_then_x ?_|with_reducible refine q_block_x ?_|with_reducible refine w_ret ?_|((first|with_reducible refine ks fun K hK=>?_|with_reducible refine kd fun K hK=>?_|with_reducible refine kc fun K hK2 hK hK3=>?_);simp (disch:=omega) only [bg0,bg1,bg2,bg3,bg4,stepO,rsAs,eff,AX.ev,St.put,binA,conc,ap1,ofVal,Int.reduceTMod,Int.reduceTDiv,reduceCtorEq,fillA,AV.cells,AV.fine,AV.one,Nat.reduceAdd,Nat.reduceSub,Nat.reduceMul,Nat.reduceLT,Nat.reduceLeDiff,Int.reduceLT,Int.reduceLE,Int.reduceAdd,Int.reduceSub,Int.reduceNeg,Int.reduceMul,Int.reduceEq,Int.reduceToNat,nilA,moveA,live,loadA,rdA,storeA,wrA,intA,elemA,lenA,appA,srcA,isPtr,isNilPtr,partA,resOf,sliceA,cut,id,ap2,reduceIte,concs,chkB,geB,AOp.cls,AOp.xs,ltB,ltC,Nat.reduceBEq,Option.toList,List.cons_append,decide_eq_true,decide_eq_false,if_pos,if_neg,List.length_map,pA_at,List.cons_append,bVb,bVn,eq_self,Bool.and_self,BEq.rfl,not_true_eq_false,cVu,cVi,shr1];(first|((with_reducible refine hK _ ?_);clear hK K)|((with_reducible refine hK ?_);clear hK hK3 K hK2)|((with_reducible refine hK3 ?_);clear hK hK3 K hK2)))|((first|with_reducible refine ret_h fun K hK=>?_|with_reducible refine ret_hh rfl fun K hK=>?_|with_reducible refine ret_pp fun K hK=>?_);simp (disch:=omega) only [bg0,bg1,bg2,bg3,bg4,stepO,rsAs,eff,AX.ev,St.put,binA,conc,ap1,ofVal,Int.reduceTMod,Int.reduceTDiv,reduceCtorEq,fillA,AV.cells,AV.fine,AV.one,Nat.reduceAdd,Nat.reduceSub,Nat.reduceMul,Nat.reduceLT,Nat.reduceLeDiff,Int.reduceLT,Int.reduceLE,Int.reduceAdd,Int.reduceSub,Int.reduceNeg,Int.reduceMul,Int.reduceEq,Int.reduceToNat,nilA,moveA,live,loadA,rdA,storeA,wrA,intA,elemA,lenA,appA,srcA,isPtr,isNilPtr,partA,resOf,sliceA,cut,id,ap2,reduceIte,concs,chkB,geB,AOp.cls,AOp.xs,ltB,ltC,Nat.reduceBEq,Option.toList,List.cons_append,decide_eq_true,decide_eq_false,if_pos,if_neg,List.length_map,pA_at,List.cons_append,bVb,bVn,eq_self,Bool.and_self,BEq.rfl,not_true_eq_false,cVu,cVi,shr1];(first|((with_reducible refine hK _ ?_ ?_ ?_ ?_);rotate_left 2;rfl;rfl)|((with_reducible refine hK _ ?_);rfl))))
theorem lo_idx {m:List Pr} (h:SLe m) (key:ByteArray) (i:Nat) (hi:i < m.length):decide (0≤cB (m[i]).1 key)=decide ((lo m key).length≤i):=by
  have:=idx_lo h key hi
  by_cases h1:0≤cB (m[i]).1 key
  · simp [h1];omega
  · simp [h1];omega
theorem le_idx {m:List Pr} (h:SLe m) (key:ByteArray) (i:Nat) (hi:i < m.length):decide (0 < cB (m[i]).1 key)=decide ((le m key).length≤i):=by
  have:=idx_le h key hi
  by_cases h1:0 < cB (m[i]).1 key
  · simp [h1];omega
  · simp [h1];omega
set_option maxHeartbeats 2000000 in
theorem idx40 (G:Nat→AV) (m:List Pr) (hs:SLe m) (hm:Okl m) (key:ByteArray) (hk:key.size≤9223372036854775807):PC Tryd.prog G 55 [.sl 2 (m.map pA),kfA 89 key] (I (lo m key).length):=by
  have hlen:=hm.len
  have hc:(lo m key).length≤m.length:=lo_len
  have hf:=search38 G m.length (lo m key).length hc hlen [.ad 1 [kfA 89 key] 0 0,.ad 1 [.sl 2 (m.map pA)] 0 0] rfl (fun i hi=>by
    rw [← lo_idx hs key i hi]
    exact at39_40 G key m i hi hlen _ (nl40 G _ key (hm.k hi) hk))
  refine pc_of cop55 ?_
  show W _ _ _ _ ⟨_,_⟩;simp only [A55,List.cons_append,List.nil_append,List.length_cons,List.length_nil,Nat.reduceAdd,Nat.reduceSub,List.replicate]
  repeat (first|with_reducible refine w_seq ?_|with_reducible refine w_reg ?_|with_reducible refine ws_nil ?_|with_reducible refine q_then ?_|with_reducible refine w_ret ?_|((first|with_reducible refine ks fun K hK=>?_|with_reducible refine kd fun K hK=>?_|with_reducible refine kc fun K hK2 hK hK3=>?_);simp (disch:=omega) only [bg0,bg1,bg2,bg3,bg4,stepO,rsAs,eff,AX.ev,St.put,binA,conc,ap1,ofVal,Int.reduceTMod,Int.reduceTDiv,reduceCtorEq,fillA,AV.cells,AV.fine,AV.one,Nat.reduceAdd,Nat.reduceSub,Nat.reduceMul,Nat.reduceLT,Nat.reduceLeDiff,Int.reduceLT,Int.reduceLE,Int.reduceAdd,Int.reduceSub,Int.reduceNeg,Int.reduceMul,Int.reduceEq,Int.reduceToNat,nilA,moveA,live,loadA,rdA,storeA,wrA,intA,elemA,lenA,appA,srcA,isPtr,isNilPtr,partA,resOf,sliceA,cut,id,ap2,reduceIte,concs,chkB,geB,AOp.cls,AOp.xs,ltB,ltC,Nat.reduceBEq,Option.toList,List.cons_append,decide_eq_true,decide_eq_false,if_pos,if_neg,List.length_map,pA_at,List.cons_append,bVb,bVn,eq_self,Bool.and_self,BEq.rfl,not_true_eq_false,cVu,cVi,shr1];(first|((with_reducible refine hK _ ?_);clear hK K)|((with_reducible refine hK ?_);clear hK hK3 K hK2)|((with_reducible refine hK3 ?_);clear hK hK3 K hK2)))|((with_reducible refine kqs 84 ?_ ?_ ?_ ?_ ?_ ?_);rotate_left 3;rfl;exact hf)|((first|with_reducible refine ret_h fun K hK=>?_|with_reducible refine ret_hh rfl fun K hK=>?_|with_reducible refine ret_pp fun K hK=>?_);simp (disch:=omega) only [bg0,bg1,bg2,bg3,bg4,stepO,rsAs,eff,AX.ev,St.put,binA,conc,ap1,ofVal,Int.reduceTMod,Int.reduceTDiv,reduceCtorEq,fillA,AV.cells,AV.fine,AV.one,Nat.reduceAdd,Nat.reduceSub,Nat.reduceMul,Nat.reduceLT,Nat.reduceLeDiff,Int.reduceLT,Int.reduceLE,Int.reduceAdd,Int.reduceSub,Int.reduceNeg,Int.reduceMul,Int.reduceEq,Int.reduceToNat,nilA,moveA,live,loadA,rdA,storeA,wrA,intA,elemA,lenA,appA,srcA,isPtr,isNilPtr,partA,resOf,sliceA,cut,id,ap2,reduceIte,concs,chkB,geB,AOp.cls,AOp.xs,ltB,ltC,Nat.reduceBEq,Option.toList,List.cons_append,decide_eq_true,decide_eq_false,if_pos,if_neg,List.length_map,pA_at,List.cons_append,bVb,bVn,eq_self,Bool.and_self,BEq.rfl,not_true_eq_false,cVu,cVi,shr1];(first|((with_reducible refine hK _ ?_ ?_ ?_ ?_);rotate_left 2;rfl;rfl)|((with_reducible refine hK _ ?_);rfl))))
set_option maxHeartbeats 2000000 in
theorem idx41 (G:Nat→AV) (m:List Pr) (hs:SLe m) (hm:Okl m) (key:ByteArray) (hk:key.size≤9223372036854775807):PC Tryd.prog G 55 [.sl 2 (m.map pA),kfA 86 key] (I (le m key).length):=by
  have hlen:=hm.len
  have hc:(le m key).length≤m.length:=le_len
  have hf:=search38 G m.length (le m key).length hc hlen [.ad 1 [kfA 86 key] 0 0,.ad 1 [.sl 2 (m.map pA)] 0 0] rfl (fun i hi=>by
    rw [← le_idx hs key i hi]
    exact at39_41 G key m i hi hlen _ (gr41 G _ key (hm.k hi) hk))
  refine pc_of cop55 ?_
  show W _ _ _ _ ⟨_,_⟩;simp only [A55,List.cons_append,List.nil_append,List.length_cons,List.length_nil,Nat.reduceAdd,Nat.reduceSub,List.replicate]
  repeat (first|with_reducible refine w_seq ?_|with_reducible refine w_reg ?_|with_reducible refine ws_nil ?_|with_reducible refine q_then ?_|with_reducible refine w_ret ?_|((first|with_reducible refine ks fun K hK=>?_|with_reducible refine kd fun K hK=>?_|with_reducible refine kc fun K hK2 hK hK3=>?_);simp (disch:=omega) only [bg0,bg1,bg2,bg3,bg4,stepO,rsAs,eff,AX.ev,St.put,binA,conc,ap1,ofVal,Int.reduceTMod,Int.reduceTDiv,reduceCtorEq,fillA,AV.cells,AV.fine,AV.one,Nat.reduceAdd,Nat.reduceSub,Nat.reduceMul,Nat.reduceLT,Nat.reduceLeDiff,Int.reduceLT,Int.reduceLE,Int.reduceAdd,Int.reduceSub,Int.reduceNeg,Int.reduceMul,Int.reduceEq,Int.reduceToNat,nilA,moveA,live,loadA,rdA,storeA,wrA,intA,elemA,lenA,appA,srcA,isPtr,isNilPtr,partA,resOf,sliceA,cut,id,ap2,reduceIte,concs,chkB,geB,AOp.cls,AOp.xs,ltB,ltC,Nat.reduceBEq,Option.toList,List.cons_append,decide_eq_true,decide_eq_false,if_pos,if_neg,List.length_map,pA_at,List.cons_append,bVb,bVn,eq_self,Bool.and_self,BEq.rfl,not_true_eq_false,cVu,cVi,shr1];(first|((with_reducible refine hK _ ?_);clear hK K)|((with_reducible refine hK ?_);clear hK hK3 K hK2)|((with_reducible refine hK3 ?_);clear hK hK3 K hK2)))|((with_reducible refine kqs 84 ?_ ?_ ?_ ?_ ?_ ?_);rotate_left 3;rfl;exact hf)|((first|with_reducible refine ret_h fun K hK=>?_|with_reducible refine ret_hh rfl fun K hK=>?_|with_reducible refine ret_pp fun K hK=>?_);simp (disch:=omega) only [bg0,bg1,bg2,bg3,bg4,stepO,rsAs,eff,AX.ev,St.put,binA,conc,ap1,ofVal,Int.reduceTMod,Int.reduceTDiv,reduceCtorEq,fillA,AV.cells,AV.fine,AV.one,Nat.reduceAdd,Nat.reduceSub,Nat.reduceMul,Nat.reduceLT,Nat.reduceLeDiff,Int.reduceLT,Int.reduceLE,Int.reduceAdd,Int.reduceSub,Int.reduceNeg,Int.reduceMul,Int.reduceEq,Int.reduceToNat,nilA,moveA,live,loadA,rdA,storeA,wrA,intA,elemA,lenA,appA,srcA,isPtr,isNilPtr,partA,resOf,sliceA,cut,id,ap2,reduceIte,concs,chkB,geB,AOp.cls,AOp.xs,ltB,ltC,Nat.reduceBEq,Option.toList,List.cons_append,decide_eq_true,decide_eq_false,if_pos,if_neg,List.length_map,pA_at,List.cons_append,bVb,bVn,eq_self,Bool.and_self,BEq.rfl,not_true_eq_false,cVu,cVi,shr1];(first|((with_reducible refine hK _ ?_ ?_ ?_ ?_);rotate_left 2;rfl;rfl)|((with_reducible refine hK _ ?_);rfl))))
end Go.Proofs.YtgpldekhcojimaaDoor.Sim.Pr7
