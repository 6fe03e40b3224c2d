import Derived.Test.YtcjnikkmjhagmaaGreatDoorMgBQ
import Derived.Test.YtcjnikkmjhagmaaGreatDoorMgBI
import Derived.Test.YtcjnikkmjhagmaaGreatDoorMgBM
import Derived.Test.YtcjnikkmjhagmaaGreatDoorMgBJ
import Derived.Test.YtcjnikkmjhagmaaGreatDoorMgBE
namespace Go.Proofs.YtcjnikkmjhagmaaGreatDoor
open Go.RowKit
set_option linter.unusedVariables false
set_option linter.unusedSimpArgs false
theorem enR_cnt {o : Ob} {l : List Op5} (hl : l.length ≤ 40) : ((enR o l).length : Int) = cAll (mN o l) (mS o l) l := by
  have h := (cl_len o l hl).all
  rw [← h]
  unfold enR
  simp only [List.flatten_cons, List.flatten_nil, List.length_append, List.length_nil]
  push_cast; omega
theorem enR_mem {o : Ob} {l : List Op5} {c : List Int} : c ∈ enR o l ↔ c ∈ plCl (mN o l) (mS o l) ∨ c ∈ tmL (mN o l) (mS o l) (oPairL l l.length) (prN l) ∨ c ∈ stL (mN o l) (mS o l) o.I ∨ c ∈ mRes o l := by
  unfold enR
  simp only [List.flatten_cons, List.flatten_nil, List.mem_append, List.not_mem_nil, or_false]
theorem enR_vc {o : Ob} {l : List Op5} : ∀ c ∈ enR o l, VC (nVars (mN o l) (mS o l)) c := fun c hc => by
  rcases enR_mem.1 hc with h | h | h | h
  · exact plCl_vc c h
  · exact tmL_vc c h
  · exact stL_vc c h
  · exact mRes_vc c h
theorem enR_vf {o : Ob} {l : List Op5} (h : eE o l = 0) (hl : l.length ≤ 40) : VF (nVars (mN o l) (mS o l)) (enR o l) := by
  obtain ⟨_, _, _, _, h5, h6⟩ := eE_ok h
  have hv := nVars_nonneg (mN o l) (mS o l)
  have hc := enR_cnt (o := o) hl
  refine ⟨hv.1, by omega, by omega, fun k hk => ?_⟩
  rw [List.getD_eq_getElem?_getD, List.getElem?_eq_getElem hk]
  exact enR_vc _ (List.getElem_mem hk)
end Go.Proofs.YtcjnikkmjhagmaaGreatDoor
namespace Go.Proofs.YtcjnikkmjhagmaaGreatDoor
open Go.RowKit
section
variable {n : Nat} {m : Int} {M : List Bool} {ord : List Int}
end
end Go.Proofs.YtcjnikkmjhagmaaGreatDoor
namespace Go.Proofs.YtcjnikkmjhagmaaGreatDoor
open Go.RowKit
set_option linter.unusedVariables false
set_option linter.unusedSimpArgs false
def cMs (q : Int) (e : Nat) : Nat → Int
  | 0 => 0
  | i + 1 => cMs q e i + (if i < e then 1 + q else 2 * q)
theorem cMs_lo (q : Int) (e : Nat) : ∀ i, i ≤ e → cMs q e i = i * (1 + q)
  | 0, _ => by simp [cMs]
  | i + 1, h => by
    unfold cMs
    rw [cMs_lo q e i (by omega), if_pos (by omega), Int.natCast_add, Int.add_mul]; simp
theorem cMs_hi (q : Int) (e : Nat) : ∀ j, cMs q e (e + j) = e * (1 + q) + j * 2 * q
  | 0 => by rw [Nat.add_zero, cMs_lo q e e (Nat.le_refl _)]; simp
  | j + 1 => by
    show cMs q e (e + j) + (if e + j < e then 1 + q else 2 * q) = _
    rw [cMs_hi q e j, if_neg (by omega), Int.natCast_add, Int.add_mul, Int.add_mul]; simp only [Int.natCast_one, Int.one_mul]; omega
theorem cMs_end {n m e : Nat} (h : e ≤ n) : cMs ((n : Int) * m) e n = cMv n m e := by
  obtain ⟨j, rfl⟩ : ∃ j, n = e + j := ⟨n - e, by omega⟩
  have e1 : (((e + j : Nat) : Int) - (e : Int)) = j := by omega
  unfold cMv
  rw [e1, cMs_hi]
theorem cMs_lim {q : Int} (h0 : 0 ≤ q) (h1 : q ≤ 4000) (e : Nat) : ∀ i, 0 ≤ cMs q e i ∧ cMs q e i ≤ 8001 * (i : Int)
  | 0 => by simp [cMs]
  | i + 1 => by
    have := cMs_lim h0 h1 e i
    unfold cMs; split <;> omega
theorem cP_ref (n : Nat) : (n : Int) + (n : Int) * n * (n - 1) = cP n := by
  unfold cP
  rw [Int.mul_assoc, tri_int, show 2 * (n : Int) * (tri n : Int) = (n : Int) * (2 * tri n) by rw [Int.mul_comm 2 (n : Int), Int.mul_assoc]]
theorem Wa284a {A B : Prop} (h9 : B) (w : B → A := by (intro h9; (repeat intro K hK); refine ⟨?_⟩; (repeat (first | (first | (with_reducible first | refine AX_block ?_ | refine AX_skip ?_ | refine AX_exit ?_ | refine AX_ret ?_ | refine AX_ift ?_ | refine AX_iff ?_ | refine AX_seq_k (fun K hK => ?_) | refine ContX.use (by assumption) ?_) | simp only [thenX, inBlockX, if_true, if_false, reduceCtorEq]) | (first | ((with_reducible first | refine XOP tyOK ?_ | refine AOP tyOK ?_); simp (disch := omega) only [go_sem , iInts, iFlat, szG, Int.toNat_zero, Int.toNat_one, hs1, hs2, hs3, hs4, rows_one, rows_take, List.length_nil]; (with_reducible first | refine XRes_id ?_ | refine ADF_id ?_)) | (with_reducible first | refine XSK ?_ | refine ASK ?_)) | ((first | (with_reducible refine XRes_nil ?_) | (with_reducible refine ADF_nil ?_)); (first | refine hK _ ?_ | refine hK _ _ ?_); clear hK K) | ((first | (with_reducible refine AX_reg0 fun K hK => ?_) | (refine AX_drawG1 tyOK (by kernel_rfl) (by rfl) (by kernel_rfl) fun K hK => ?_)); simp only [go_sem]) | (first | (first | refine XTL (by rfl) hCk ?_ | refine ATL tyOK (by rfl) hCk ?_)))); refine Wk.o ?_; (repeat revert hK K); exact h9)) : A := w h9
set_option maxRecDepth 100000 in
set_option maxHeartbeats 1000000 in
theorem pf_rStates (n m : Int) : PF Tryz.prog 127 [lt (.int .i64 n), lt (.int .i64 m)] fun r H' => r = lt (.int .i64 (if nOk n m then cSt n.toNat m.toNat else 0)) ∧ H' = [] := by
  refine SF.forgetAll ?_
  have hs1 := trivial; have hs2 := trivial; have hs3 := trivial; have hs4 := trivial
  have hCk := pf_r31Check n m
  by_cases hok : nOk n m
  · rw [nCheck_yes hok] at hCk
    rw [if_pos hok]
    obtain ⟨N, M, rfl, rfl, hN, hM⟩ := nOk_nat hok
    rw [Int.toNat_natCast, Int.toNat_natCast]
    have hl := tri_le hM
    have e1 := tri_int M
    have hb : -64 ≤ (M : Int) * (M - 1) ∧ (M : Int) * (M - 1) ≤ 4096 := by omega
    clear e1
    have hl2 := cSt_lim hN hM
    have hs1 := tri_div M
    (refine SF_of_bodyX (aload tt) (aload_ok tyOK) Tryz.func127 rfl (by kernel_rfl) ?_; simp only [Tryz.ntmps127, List.length_cons, List.length_nil, Nat.reduceAdd, Nat.reduceSub, List.replicate_succ, List.replicate_zero, List.cons_append, List.nil_append])
    (refine Wk.o ?_; (repeat revert hK K); refine Wa284a ?_; (repeat intro K hK); refine ⟨?_⟩)
    (simp only [bodyX]; refine ⟨_, by simp only [aresults, aresult, XS.as, Tryz.results127, aload, go_sem, Option.bind_some]; rfl, ?_⟩)
    exact ⟨.iv _, rfl, trivial⟩
  · rw [nCheck_no hok] at hCk
    rw [if_neg hok]
    (refine SF_of_bodyX (aload tt) (aload_ok tyOK) Tryz.func127 rfl (by kernel_rfl) ?_; simp only [Tryz.ntmps127, List.length_cons, List.length_nil, Nat.reduceAdd, Nat.reduceSub, List.replicate_succ, List.replicate_zero, List.cons_append, List.nil_append])
    (refine Wk.o ?_; (repeat revert hK K); refine Wa284a ?_; (repeat intro K hK); refine ⟨?_⟩)
    (simp only [bodyX]; refine ⟨_, by simp only [aresults, aresult, XS.as, Tryz.results127, aload, go_sem, Option.bind_some]; rfl, ?_⟩)
    exact ⟨.iv _, rfl, trivial⟩
set_option maxRecDepth 100000 in
set_option maxHeartbeats 1000000 in
theorem pf_rPlaces (n m : Int) : PF Tryz.prog 125 [lt (.int .i64 n), lt (.int .i64 m)] fun r H' => r = lt (.int .i64 (if nOk n m then cP n.toNat else 0)) ∧ H' = [] := by
  refine SF.forgetAll ?_
  have hs1 := trivial; have hs2 := trivial; have hs3 := trivial; have hs4 := trivial
  have hCk := pf_r31Check n m
  by_cases hok : nOk n m
  · rw [nCheck_yes hok] at hCk
    rw [if_pos hok]
    obtain ⟨N, M, rfl, rfl, hN, hM⟩ := nOk_nat hok
    rw [Int.toNat_natCast]
    have hl := tri_le hN
    have hl2 := cP_lim hN
    have hP := cP_ref N
    have hq := nOk_sq hok
    unfold cP at hP
    have hb : 0 ≤ (N : Int) * N * (N - 1) ∧ (N : Int) * N * (N - 1) ≤ 1000000 := by omega
    have hP := cP_ref N
    (refine SF_of_bodyX (aload tt) (aload_ok tyOK) Tryz.func125 rfl (by kernel_rfl) ?_; simp only [Tryz.ntmps125, List.length_cons, List.length_nil, Nat.reduceAdd, Nat.reduceSub, List.replicate_succ, List.replicate_zero, List.cons_append, List.nil_append])
    (refine Wk.o ?_; (repeat revert hK K); refine Wa284a ?_; (repeat intro K hK); refine ⟨?_⟩)
    (simp only [bodyX]; refine ⟨_, by simp only [aresults, aresult, XS.as, Tryz.results125, aload, go_sem, Option.bind_some]; rfl, ?_⟩)
    exact ⟨.iv _, by rw [← hP], trivial⟩
  · rw [nCheck_no hok] at hCk
    rw [if_neg hok]
    (refine SF_of_bodyX (aload tt) (aload_ok tyOK) Tryz.func125 rfl (by kernel_rfl) ?_; simp only [Tryz.ntmps125, List.length_cons, List.length_nil, Nat.reduceAdd, Nat.reduceSub, List.replicate_succ, List.replicate_zero, List.cons_append, List.nil_append])
    (refine Wk.o ?_; (repeat revert hK K); refine Wa284a ?_; (repeat intro K hK); refine ⟨?_⟩)
    (simp only [bodyX]; refine ⟨_, by simp only [aresults, aresult, XS.as, Tryz.results125, aload, go_sem, Option.bind_some]; rfl, ?_⟩)
    exact ⟨.iv _, rfl, trivial⟩
set_option maxRecDepth 100000 in
set_option maxHeartbeats 1000000 in
theorem pf_rTimes (n m : Int) (p : Nat) : PF Tryz.prog 126 [lt (.int .i64 n), lt (.int .i64 m), lt (.int .i64 p)] fun r H' => r = lt (.int .i64 (if nOk n m ∧ p ≤ 2016 then cTm n.toNat p else 0)) ∧ H' = [] := by
  refine SF.forgetAll ?_
  have hs1 := trivial; have hs2 := trivial; have hs3 := trivial; have hs4 := trivial
  have hCk := pf_r31Check n m
  by_cases hok : nOk n m
  · rw [nCheck_yes hok] at hCk
    by_cases hp : p ≤ 2016
    · rw [if_pos ⟨hok, hp⟩]
      obtain ⟨N, M, rfl, rfl, hN, hM⟩ := nOk_nat hok
      rw [Int.toNat_natCast]
      have hl := tri_le hN
      have e1 := tri_int N
      have hb : -64 ≤ (N : Int) * (N - 1) ∧ (N : Int) * (N - 1) ≤ 4096 := by omega
      clear e1
      have hs1 := tri_div N
      have hl2 := cTm_lim hN hp
      (refine SF_of_bodyX (aload tt) (aload_ok tyOK) Tryz.func126 rfl (by kernel_rfl) ?_; simp only [Tryz.ntmps126, List.length_cons, List.length_nil, Nat.reduceAdd, Nat.reduceSub, List.replicate_succ, List.replicate_zero, List.cons_append, List.nil_append])
      (refine Wk.o ?_; (repeat revert hK K); refine Wa284a ?_; (repeat intro K hK); refine ⟨?_⟩)
      (simp only [bodyX]; refine ⟨_, by simp only [aresults, aresult, XS.as, Tryz.results126, aload, go_sem, Option.bind_some]; rfl, ?_⟩)
      exact ⟨.iv _, rfl, trivial⟩
    · rw [if_neg fun h => hp h.2]
      (refine SF_of_bodyX (aload tt) (aload_ok tyOK) Tryz.func126 rfl (by kernel_rfl) ?_; simp only [Tryz.ntmps126, List.length_cons, List.length_nil, Nat.reduceAdd, Nat.reduceSub, List.replicate_succ, List.replicate_zero, List.cons_append, List.nil_append])
      (refine Wk.o ?_; (repeat revert hK K); refine Wa284a ?_; (repeat intro K hK); refine ⟨?_⟩)
      (simp only [bodyX]; refine ⟨_, by simp only [aresults, aresult, XS.as, Tryz.results126, aload, go_sem, Option.bind_some]; rfl, ?_⟩)
      exact ⟨.iv _, rfl, trivial⟩
  · rw [nCheck_no hok] at hCk
    rw [if_neg fun h => hok h.1]
    (refine SF_of_bodyX (aload tt) (aload_ok tyOK) Tryz.func126 rfl (by kernel_rfl) ?_; simp only [Tryz.ntmps126, List.length_cons, List.length_nil, Nat.reduceAdd, Nat.reduceSub, List.replicate_succ, List.replicate_zero, List.cons_append, List.nil_append])
    (refine Wk.o ?_; (repeat revert hK K); refine Wa284a ?_; (repeat intro K hK); refine ⟨?_⟩)
    (simp only [bodyX]; refine ⟨_, by simp only [aresults, aresult, XS.as, Tryz.results126, aload, go_sem, Option.bind_some]; rfl, ?_⟩)
    exact ⟨.iv _, rfl, trivial⟩
set_option maxRecDepth 100000 in
set_option maxHeartbeats 1000000 in
theorem pf_rMoves (n m : Int) (e : Nat) : PF Tryz.prog 128 [lt (.int .i64 n), lt (.int .i64 m), lt (.int .i64 e)] fun r H' => r = lt (.int .i64 (if nOk n m ∧ (e : Int) ≤ n then cMv n.toNat m.toNat e else 0)) ∧ H' = [] := by
  refine SF.forgetAll ?_
  have hs1 := trivial; have hs2 := trivial; have hs3 := trivial; have hs4 := trivial
  have hCk := pf_r31Check n m
  by_cases hok : nOk n m
  · rw [nCheck_yes hok] at hCk
    obtain ⟨N, M, rfl, rfl, hN, hM⟩ := nOk_nat hok
    rw [Int.toNat_natCast, Int.toNat_natCast]
    by_cases hp : e ≤ N
    · rw [if_pos ⟨hok, by omega⟩]
      rw [← cMs_end hp]
      have hq : 0 ≤ (N : Int) * M ∧ (N : Int) * M ≤ 2048 := by
        have h1 : N * M ≤ 64 * 32 := Nat.mul_le_mul hN hM
        have h2 : ((N * M : Nat) : Int) = (N : Int) * M := by push_cast; rfl
        omega
      have hs2 : 2 * (N : Int) * M = 2 * ((N : Int) * M) := Int.mul_assoc _ _ _
      have hs3 : ((2 * N : Nat) : Int) * M = 2 * ((N : Int) * M) := by push_cast; exact Int.mul_assoc _ _ _
      generalize hs1 : (N : Int) * M = q at *
      have hlim := cMs_lim hq.1 (by omega) e
      (refine SF_of_bodyX (aload tt) (aload_ok tyOK) Tryz.func128 rfl (by kernel_rfl) ?_; simp only [Tryz.ntmps128, List.length_cons, List.length_nil, Nat.reduceAdd, Nat.reduceSub, List.replicate_succ, List.replicate_zero, List.cons_append, List.nil_append])
      (refine Wk.o ?_; (repeat revert hK K); refine Wa284a ?_; (repeat intro K hK); refine ⟨?_⟩)
      (refine AWH (σ := Nat) [22, 23, 24, 27, 28, 29, 30, 31, 32, 33, 34, 35, 36, 37, 38, 39, 40, 41, 25, 26] (fun i => [(8, lint i), (7, lint (cMs q e i))]) (fun i => []) (fun i => []) (fun i => i ≤ N) (fun i => N - i) 0 (by first | exact Nat.zero_le _) ?_; rintro i d fr hfr hi; simp only [updS, deadS, List.set_cons_succ, List.set_cons_zero, lint] at hfr; subst hfr; (try dsimp only))
      have hli := hlim i
      have hsu : cMs q e (i + 1) = cMs q e i + (if i < e then 1 + q else 2 * q) := rfl
      by_cases hlt : i < N
      · by_cases hie : i < e
        · rw [if_pos hie] at hsu
          (refine Wk.o ?_; (repeat revert hK K); refine Wa284a ?_; (repeat intro K hK); refine ⟨?_⟩)
          exact whx_ren [] (i + 1) (by omega) (by (first | omega | (dsimp only; omega) | (simp only; omega))) rfl (by decide) (by decide) (by (simp (disch := omega) only [go_sem, lint])) (by (simp (disch := omega) only [go_sem, lint])) (by (simp (disch := omega) only [go_sem, lint])) (fun d => by rw [hsu, ← Int.add_assoc]; (simp (disch := omega) only [go_sem, lint]))
        · rw [if_neg hie] at hsu
          (refine Wk.o ?_; (repeat revert hK K); refine Wa284a ?_; (repeat intro K hK); refine ⟨?_⟩)
          exact whx_ren [] (i + 1) (by omega) (by (first | omega | (dsimp only; omega) | (simp only; omega))) rfl (by decide) (by decide) (by (simp (disch := omega) only [go_sem, lint])) (by (simp (disch := omega) only [go_sem, lint])) (by (simp (disch := omega) only [go_sem, lint])) (fun d => by rw [hsu]; (simp (disch := omega) only [go_sem, lint]))
      · obtain rfl : i = N := by omega
        (refine Wk.o ?_; (repeat revert hK K); refine Wa284a ?_; (repeat intro K hK); refine ⟨?_⟩)
        (simp only [bodyX]; refine ⟨_, by simp only [aresults, aresult, XS.as, Tryz.results128, aload, go_sem, Option.bind_some]; rfl, ?_⟩)
        exact ⟨.iv _, rfl, trivial⟩
    · rw [if_neg fun h => hp (by omega)]
      (refine SF_of_bodyX (aload tt) (aload_ok tyOK) Tryz.func128 rfl (by kernel_rfl) ?_; simp only [Tryz.ntmps128, List.length_cons, List.length_nil, Nat.reduceAdd, Nat.reduceSub, List.replicate_succ, List.replicate_zero, List.cons_append, List.nil_append])
      (refine Wk.o ?_; (repeat revert hK K); refine Wa284a ?_; (repeat intro K hK); refine ⟨?_⟩)
      (simp only [bodyX]; refine ⟨_, by simp only [aresults, aresult, XS.as, Tryz.results128, aload, go_sem, Option.bind_some]; rfl, ?_⟩)
      exact ⟨.iv _, rfl, trivial⟩
  · rw [nCheck_no hok] at hCk
    rw [if_neg fun h => hok h.1]
    (refine SF_of_bodyX (aload tt) (aload_ok tyOK) Tryz.func128 rfl (by kernel_rfl) ?_; simp only [Tryz.ntmps128, List.length_cons, List.length_nil, Nat.reduceAdd, Nat.reduceSub, List.replicate_succ, List.replicate_zero, List.cons_append, List.nil_append])
    (refine Wk.o ?_; (repeat revert hK K); refine Wa284a ?_; (repeat intro K hK); refine ⟨?_⟩)
    (simp only [bodyX]; refine ⟨_, by simp only [aresults, aresult, XS.as, Tryz.results128, aload, go_sem, Option.bind_some]; rfl, ?_⟩)
    exact ⟨.iv _, rfl, trivial⟩
end Go.Proofs.YtcjnikkmjhagmaaGreatDoor
