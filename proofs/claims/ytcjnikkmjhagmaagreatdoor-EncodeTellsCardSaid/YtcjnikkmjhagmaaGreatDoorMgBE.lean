import Derived.Test.YtcjnikkmjhagmaaGreatDoorMgBD
namespace Go.Proofs.YtcjnikkmjhagmaaGreatDoor
open Go.RowKit
set_option linter.unusedVariables false
set_option linter.unusedSimpArgs false
def tri (n : Nat) : Nat := n * (n - 1) / 2
theorem tri_two (n : Nat) : 2 * tri n = n * (n - 1) := by
  unfold tri
  have : n * (n - 1) % 2 = 0 := by
    rcases Nat.mod_two_eq_zero_or_one n with h | h
    · rw [Nat.mul_mod, h]; simp
    · rw [Nat.mul_mod, show (n - 1) % 2 = 0 by omega]; simp
  omega
theorem tri_int (n : Nat) : (n : Int) * (n - 1) = 2 * tri n := by
  have := tri_two n
  rcases Nat.eq_zero_or_pos n with h | h
  · subst h; simp [tri]
  · have e : ((n : Int) - 1) = ((n - 1 : Nat) : Int) := by omega
    rw [e]; exact_mod_cast this.symm
theorem tri_le {n b : Nat} (h : n ≤ b) : 2 * tri n ≤ b * b := by
  rw [tri_two]; exact Nat.mul_le_mul h (by omega)
theorem tri_div (n : Nat) : Int.tdiv ((n : Int) * (n - 1)) 2 = tri n := by
  rw [tri_int, Int.mul_comm, Int.mul_tdiv_cancel _ (by decide)]
def cP (n : Nat) : Int := n + 2 * n * tri n
theorem cP_lim {n : Nat} (hn : n ≤ 64) : 0 ≤ 2 * (n : Int) * tri n ∧ 2 * (n : Int) * tri n ≤ 1000000 := by
  have := tri_le hn
  have e : 2 * (n : Int) * tri n = ((2 * n * tri n : Nat) : Int) := by push_cast; rfl
  have : 2 * n * tri n ≤ 128 * 2048 := Nat.mul_le_mul (by omega) (by omega)
  rw [e]; omega
def cSt (n m : Nat) : Int := 1 + ((n + 1 : Nat) : Int) * (1 + tri m)
theorem cSt_lim {n m : Nat} (hn : n ≤ 64) (hm : m ≤ 32) : 0 ≤ ((n + 1 : Nat) : Int) * (1 + tri m) ∧ ((n + 1 : Nat) : Int) * (1 + tri m) ≤ 1000000 := by
  have := tri_le hm
  have e : ((n + 1 : Nat) : Int) * (1 + tri m) = (((n + 1) * (1 + tri m) : Nat) : Int) := by push_cast; rfl
  have : (n + 1) * (1 + tri m) ≤ 65 * 2048 := Nat.mul_le_mul (by omega) (by omega)
  rw [e]; omega
def cTm (n p : Nat) : Int := (tri n : Int) * p
theorem cTm_lim {n p : Nat} (hn : n ≤ 64) (hp : p ≤ 2016) : 0 ≤ (tri n : Int) * p ∧ (tri n : Int) * p ≤ 10000000 := by
  have := tri_le hn
  have e : (tri n : Int) * p = ((tri n * p : Nat) : Int) := by push_cast; rfl
  have : tri n * p ≤ 2048 * 2016 := Nat.mul_le_mul (by omega) (by omega)
  rw [e]; omega
theorem W5462a {A B : Prop} (h9 : B) (w : B → A := by (intro h9; (repeat intro K hK); refine ⟨?_⟩; (repeat (first | (first | (with_reducible first | refine AX_block ?_ | refine AX_skip ?_ | refine AX_exit ?_ | refine AX_ret ?_ | refine AX_ift ?_ | refine AX_iff ?_ | refine AX_seq_k (fun K hK => ?_) | refine ContX.use (by assumption) ?_) | simp only [thenX, inBlockX, if_true, if_false, reduceCtorEq]) | (first | ((with_reducible first | refine XOP tyOK ?_ | refine AOP tyOK ?_); simp (disch := omega) only [go_sem , iInts, iFlat, szG, Int.toNat_zero, Int.toNat_one, hs1, hs2, hs3, rows_one, rows_take, List.length_nil]; (with_reducible first | refine XRes_id ?_ | refine ADF_id ?_)) | (with_reducible first | refine XSK ?_ | refine ASK ?_)) | ((first | (with_reducible refine XRes_nil ?_) | (with_reducible refine ADF_nil ?_)); (first | refine hK _ ?_ | refine hK _ _ ?_); clear hK K) | ((first | (with_reducible refine AX_reg0 fun K hK => ?_) | (refine AX_drawG1 tyOK (by kernel_rfl) (by rfl) (by kernel_rfl) fun K hK => ?_)); simp only [go_sem]) | (first | (first | refine XTL (by rfl) hCk ?_ | refine ATL tyOK (by rfl) hCk ?_ | refine XTL (by rfl) hV ?_ | refine ATL tyOK (by rfl) hV ?_ | refine XTL (by rfl) hCo ?_ | refine ATL tyOK (by rfl) hCo ?_)))); refine Wk.o ?_; (repeat revert hK K); exact h9)) : A := w h9
set_option maxRecDepth 100000 in
set_option maxHeartbeats 1000000 in
theorem pf_cTwo (n : Nat) (h : n ≤ 64) : PF Tryz.prog 108 [lt (.int .i64 n)] fun r H' => r = lt (.int .i64 (tri n)) ∧ H' = [] := by
  have hs1 := trivial; have hs2 := trivial; have hs3 := trivial; have hCk := trivial; have hV := trivial; have hCo := trivial
  have hl := tri_le h
  have e1 := tri_int n
  have e2 := tri_div n
  have hb : -64 ≤ (n : Int) * (n - 1) ∧ (n : Int) * (n - 1) ≤ 4096 := by omega
  clear e1
  (refine SF_of_bodyX (aload tt) (aload_ok tyOK) Tryz.func108 rfl (by kernel_rfl) ?_; simp only [Tryz.ntmps108, List.length_cons, List.length_nil, Nat.reduceAdd, Nat.reduceSub, List.replicate_succ, List.replicate_zero, List.cons_append, List.nil_append])
  (refine Wk.o ?_; (repeat revert hK K); refine W5462a ?_; (repeat intro K hK); refine ⟨?_⟩)
  (simp only [bodyX]; refine ⟨_, by simp only [aresults, aresult, XS.as, Tryz.results108, aload, go_sem, Option.bind_some]; rfl, ?_⟩)
  exact ⟨by rw [e2], trivial⟩
set_option maxRecDepth 100000 in
set_option maxHeartbeats 1000000 in
theorem pf_cMay (n m : Int) : PF Tryz.prog 59 [szA n m] fun r H' => r = lt (.bool (decide (nOk n m))) ∧ H' = [] := by
  refine SF.forgetAll ?_
  have hs1 := trivial; have hs2 := trivial; have hs3 := trivial; have hV := trivial; have hCo := trivial
  have hCk := pf_nCheck n m
  by_cases hok : nOk n m
  · rw [nCheck_yes hok] at hCk
    rw [decide_eq_true hok]
    (refine SF_of_bodyX (aload tt) (aload_ok tyOK) Tryz.func59 rfl (by kernel_rfl) ?_; simp only [Tryz.ntmps59, List.length_cons, List.length_nil, Nat.reduceAdd, Nat.reduceSub, List.replicate_succ, List.replicate_zero, List.cons_append, List.nil_append])
    (refine Wk.o ?_; (repeat revert hK K); refine W5462a ?_; (repeat intro K hK); refine ⟨?_⟩)
    (simp only [bodyX]; refine ⟨_, by simp only [aresults, aresult, XS.as, Tryz.results59, aload, go_sem, Option.bind_some]; rfl, ?_⟩)
    exact ⟨.iv _, rfl, trivial⟩
  · rw [nCheck_no hok] at hCk
    rw [decide_eq_false hok]
    (refine SF_of_bodyX (aload tt) (aload_ok tyOK) Tryz.func59 rfl (by kernel_rfl) ?_; simp only [Tryz.ntmps59, List.length_cons, List.length_nil, Nat.reduceAdd, Nat.reduceSub, List.replicate_succ, List.replicate_zero, List.cons_append, List.nil_append])
    (refine Wk.o ?_; (repeat revert hK K); refine W5462a ?_; (repeat intro K hK); refine ⟨?_⟩)
    (simp only [bodyX]; refine ⟨_, by simp only [aresults, aresult, XS.as, Tryz.results59, aload, go_sem, Option.bind_some]; rfl, ?_⟩)
    exact ⟨.iv _, rfl, trivial⟩
theorem nOk_nat {n m : Int} (h : nOk n m) : ∃ N M : Nat, n = N ∧ m = M ∧ N ≤ 64 ∧ M ≤ 32 := ⟨n.toNat, m.toNat, by unfold nOk at h; omega, by unfold nOk at h; omega, by unfold nOk at h; omega, by unfold nOk at h; omega⟩
set_option maxRecDepth 100000 in
set_option maxHeartbeats 1000000 in
theorem pf_cStates (n m : Int) : PF Tryz.prog 63 [szA n m] fun r H' => r = lt (.int .i64 (if nOk n m then cSt n.toNat m.toNat else 0)) ∧ H' = [] := by
  refine SF.forgetAll ?_
  have hs1 := trivial; have hs2 := trivial; have hs3 := trivial
  have hCk := pf_cMay n m
  by_cases hok : nOk n m
  · rw [decide_eq_true hok] at hCk
    rw [if_pos hok]
    obtain ⟨N, M, rfl, rfl, hN, hM⟩ := nOk_nat hok
    rw [Int.toNat_natCast, Int.toNat_natCast]
    have hV := pf_cTwo M (by omega)
    have hCo := trivial
    have hl := tri_le hM
    have hl2 := cSt_lim hN hM
    (refine SF_of_bodyX (aload tt) (aload_ok tyOK) Tryz.func63 rfl (by kernel_rfl) ?_; simp only [Tryz.ntmps63, List.length_cons, List.length_nil, Nat.reduceAdd, Nat.reduceSub, List.replicate_succ, List.replicate_zero, List.cons_append, List.nil_append])
    (refine Wk.o ?_; (repeat revert hK K); refine W5462a ?_; (repeat intro K hK); refine ⟨?_⟩)
    (simp only [bodyX]; refine ⟨_, by simp only [aresults, aresult, XS.as, Tryz.results63, aload, go_sem, Option.bind_some]; rfl, ?_⟩)
    exact ⟨.iv _, rfl, trivial⟩
  · rw [decide_eq_false hok] at hCk
    rw [if_neg hok]
    have hV := trivial
    have hCo := trivial
    (refine SF_of_bodyX (aload tt) (aload_ok tyOK) Tryz.func63 rfl (by kernel_rfl) ?_; simp only [Tryz.ntmps63, List.length_cons, List.length_nil, Nat.reduceAdd, Nat.reduceSub, List.replicate_succ, List.replicate_zero, List.cons_append, List.nil_append])
    (refine Wk.o ?_; (repeat revert hK K); refine W5462a ?_; (repeat intro K hK); refine ⟨?_⟩)
    (simp only [bodyX]; refine ⟨_, by simp only [aresults, aresult, XS.as, Tryz.results63, aload, go_sem, Option.bind_some]; rfl, ?_⟩)
    exact ⟨.iv _, rfl, trivial⟩
set_option maxRecDepth 100000 in
set_option maxHeartbeats 1000000 in
theorem pf_cPlaces (n m : Int) : PF Tryz.prog 61 [szA n m] fun r H' => r = lt (.int .i64 (if nOk n m then cP n.toNat else 0)) ∧ H' = [] := by
  refine SF.forgetAll ?_
  have hs1 := trivial; have hs2 := trivial; have hs3 := trivial
  have hCk := pf_cMay n m
  by_cases hok : nOk n m
  · rw [decide_eq_true hok] at hCk
    rw [if_pos hok]
    obtain ⟨N, M, rfl, rfl, hN, hM⟩ := nOk_nat hok
    rw [Int.toNat_natCast]
    have hV := pf_cTwo N (by omega)
    have hCo := trivial
    have hl := tri_le hN
    have hl2 := cP_lim hN
    (refine SF_of_bodyX (aload tt) (aload_ok tyOK) Tryz.func61 rfl (by kernel_rfl) ?_; simp only [Tryz.ntmps61, List.length_cons, List.length_nil, Nat.reduceAdd, Nat.reduceSub, List.replicate_succ, List.replicate_zero, List.cons_append, List.nil_append])
    (refine Wk.o ?_; (repeat revert hK K); refine W5462a ?_; (repeat intro K hK); refine ⟨?_⟩)
    (simp only [bodyX]; refine ⟨_, by simp only [aresults, aresult, XS.as, Tryz.results61, aload, go_sem, Option.bind_some]; rfl, ?_⟩)
    exact ⟨.iv _, rfl, trivial⟩
  · rw [decide_eq_false hok] at hCk
    rw [if_neg hok]
    have hV := trivial
    have hCo := trivial
    (refine SF_of_bodyX (aload tt) (aload_ok tyOK) Tryz.func61 rfl (by kernel_rfl) ?_; simp only [Tryz.ntmps61, List.length_cons, List.length_nil, Nat.reduceAdd, Nat.reduceSub, List.replicate_succ, List.replicate_zero, List.cons_append, List.nil_append])
    (refine Wk.o ?_; (repeat revert hK K); refine W5462a ?_; (repeat intro K hK); refine ⟨?_⟩)
    (simp only [bodyX]; refine ⟨_, by simp only [aresults, aresult, XS.as, Tryz.results61, aload, go_sem, Option.bind_some]; rfl, ?_⟩)
    exact ⟨.iv _, rfl, trivial⟩
set_option maxRecDepth 100000 in
set_option maxHeartbeats 1000000 in
theorem pf_cTimes (n m : Int) (p : Nat) : PF Tryz.prog 62 [szA n m, lt (.int .i64 p)] fun r H' => r = lt (.int .i64 (if nOk n m ∧ p ≤ 2016 then cTm n.toNat p else 0)) ∧ H' = [] := by
  refine SF.forgetAll ?_
  have hs1 := trivial; have hs2 := trivial; have hs3 := trivial
  have hCk := pf_cMay n m
  by_cases hok : nOk n m
  · rw [decide_eq_true hok] at hCk
    by_cases hp : p ≤ 2016
    · rw [if_pos ⟨hok, hp⟩]
      obtain ⟨N, M, rfl, rfl, hN, hM⟩ := nOk_nat hok
      rw [Int.toNat_natCast]
      have hV := pf_cTwo N (by omega)
      have hCo := trivial
      have hl := tri_le hN
      have hl2 := cTm_lim hN hp
      (refine SF_of_bodyX (aload tt) (aload_ok tyOK) Tryz.func62 rfl (by kernel_rfl) ?_; simp only [Tryz.ntmps62, List.length_cons, List.length_nil, Nat.reduceAdd, Nat.reduceSub, List.replicate_succ, List.replicate_zero, List.cons_append, List.nil_append])
      (refine Wk.o ?_; (repeat revert hK K); refine W5462a ?_; (repeat intro K hK); refine ⟨?_⟩)
      (simp only [bodyX]; refine ⟨_, by simp only [aresults, aresult, XS.as, Tryz.results62, aload, go_sem, Option.bind_some]; rfl, ?_⟩)
      exact ⟨.iv _, rfl, trivial⟩
    · rw [if_neg fun h => hp h.2]
      have hV := trivial
      have hCo := trivial
      (refine SF_of_bodyX (aload tt) (aload_ok tyOK) Tryz.func62 rfl (by kernel_rfl) ?_; simp only [Tryz.ntmps62, List.length_cons, List.length_nil, Nat.reduceAdd, Nat.reduceSub, List.replicate_succ, List.replicate_zero, List.cons_append, List.nil_append])
      (refine Wk.o ?_; (repeat revert hK K); refine W5462a ?_; (repeat intro K hK); refine ⟨?_⟩)
      (simp only [bodyX]; refine ⟨_, by simp only [aresults, aresult, XS.as, Tryz.results62, aload, go_sem, Option.bind_some]; rfl, ?_⟩)
      exact ⟨.iv _, rfl, trivial⟩
  · rw [decide_eq_false hok] at hCk
    rw [if_neg fun h => hok h.1]
    have hV := trivial
    have hCo := trivial
    (refine SF_of_bodyX (aload tt) (aload_ok tyOK) Tryz.func62 rfl (by kernel_rfl) ?_; simp only [Tryz.ntmps62, List.length_cons, List.length_nil, Nat.reduceAdd, Nat.reduceSub, List.replicate_succ, List.replicate_zero, List.cons_append, List.nil_append])
    (refine Wk.o ?_; (repeat revert hK K); refine W5462a ?_; (repeat intro K hK); refine ⟨?_⟩)
    (simp only [bodyX]; refine ⟨_, by simp only [aresults, aresult, XS.as, Tryz.results62, aload, go_sem, Option.bind_some]; rfl, ?_⟩)
    exact ⟨.iv _, rfl, trivial⟩
def cMv (n m e : Nat) : Int := (e : Int) * (1 + (n : Int) * m) + ((n : Int) - e) * 2 * ((n : Int) * m)
theorem cMv_lim {n m e : Nat} (hn : n ≤ 64) (hm : m ≤ 32) (he : e ≤ n) : (0 ≤ (n : Int) * m ∧ (n : Int) * m ≤ 100000) ∧ (0 ≤ (e : Int) * (1 + (n : Int) * m) ∧ (e : Int) * (1 + (n : Int) * m) ≤ 1000000) ∧ 0 ≤ ((n : Int) - e) * 2 * ((n : Int) * m) ∧ ((n : Int) - e) * 2 * ((n : Int) * m) ≤ 1000000 := by
  have h1 : n * m ≤ 64 * 32 := Nat.mul_le_mul hn hm
  have h2 : e * (1 + n * m) ≤ 64 * 2049 := Nat.mul_le_mul (by omega) (by omega)
  have h3 : (n - e) * 2 * (n * m) ≤ 128 * 2048 := Nat.mul_le_mul (by omega) (by omega)
  have e1 : (n : Int) * m = ((n * m : Nat) : Int) := by push_cast; rfl
  have e2 : (e : Int) * (1 + (n : Int) * m) = ((e * (1 + n * m) : Nat) : Int) := by push_cast; rfl
  have e3 : ((n : Int) - e) * 2 * ((n : Int) * m) = (((n - e) * 2 * (n * m) : Nat) : Int) := by rw [← Int.natCast_sub he]; push_cast; rfl
  rw [e3, e2, e1]; omega
set_option maxRecDepth 100000 in
set_option maxHeartbeats 1000000 in
theorem pf_cMoves (n m : Int) (e : Nat) : PF Tryz.prog 64 [szA n m, lt (.int .i64 e)] fun r H' => r = lt (.int .i64 (if nOk n m ∧ (e : Int) ≤ n then cMv n.toNat m.toNat e else 0)) ∧ H' = [] := by
  refine SF.forgetAll ?_
  have hs1 := trivial; have hs2 := trivial; have hs3 := trivial
  have hCk := pf_cMay n m
  by_cases hok : nOk n m
  · rw [decide_eq_true hok] at hCk
    obtain ⟨N, M, rfl, rfl, hN, hM⟩ := nOk_nat hok
    rw [Int.toNat_natCast, Int.toNat_natCast]
    have hV := trivial
    have hCo := trivial
    by_cases hp : e ≤ N
    · rw [if_pos ⟨hok, by omega⟩]
      have hl2 := cMv_lim hN hM hp
      (refine SF_of_bodyX (aload tt) (aload_ok tyOK) Tryz.func64 rfl (by kernel_rfl) ?_; simp only [Tryz.ntmps64, List.length_cons, List.length_nil, Nat.reduceAdd, Nat.reduceSub, List.replicate_succ, List.replicate_zero, List.cons_append, List.nil_append])
      (refine Wk.o ?_; (repeat revert hK K); refine W5462a ?_; (repeat intro K hK); refine ⟨?_⟩)
      (simp only [bodyX]; refine ⟨_, by simp only [aresults, aresult, XS.as, Tryz.results64, aload, go_sem, Option.bind_some]; rfl, ?_⟩)
      exact ⟨.iv _, rfl, trivial⟩
    · rw [if_neg fun h => hp (by omega)]
      (refine SF_of_bodyX (aload tt) (aload_ok tyOK) Tryz.func64 rfl (by kernel_rfl) ?_; simp only [Tryz.ntmps64, List.length_cons, List.length_nil, Nat.reduceAdd, Nat.reduceSub, List.replicate_succ, List.replicate_zero, List.cons_append, List.nil_append])
      (refine Wk.o ?_; (repeat revert hK K); refine W5462a ?_; (repeat intro K hK); refine ⟨?_⟩)
      (simp only [bodyX]; refine ⟨_, by simp only [aresults, aresult, XS.as, Tryz.results64, aload, go_sem, Option.bind_some]; rfl, ?_⟩)
      exact ⟨.iv _, rfl, trivial⟩
  · rw [decide_eq_false hok] at hCk
    rw [if_neg fun h => hok h.1]
    have hV := trivial
    have hCo := trivial
    (refine SF_of_bodyX (aload tt) (aload_ok tyOK) Tryz.func64 rfl (by kernel_rfl) ?_; simp only [Tryz.ntmps64, List.length_cons, List.length_nil, Nat.reduceAdd, Nat.reduceSub, List.replicate_succ, List.replicate_zero, List.cons_append, List.nil_append])
    (refine Wk.o ?_; (repeat revert hK K); refine W5462a ?_; (repeat intro K hK); refine ⟨?_⟩)
    (simp only [bodyX]; refine ⟨_, by simp only [aresults, aresult, XS.as, Tryz.results64, aload, go_sem, Option.bind_some]; rfl, ?_⟩)
    exact ⟨.iv _, rfl, trivial⟩
end Go.Proofs.YtcjnikkmjhagmaaGreatDoor
namespace Go.Proofs.YtcjnikkmjhagmaaGreatDoor
open Go.RowKit
set_option linter.unusedVariables false
set_option linter.unusedSimpArgs false
def g4 (a b c d : Int) : Nat → IV
  | 0 => .lit (.int .i64 a) | 1 => .lit (.int .i64 b) | 2 => .lit (.int .i64 c) | _ => .lit (.int .i64 d)
theorem frz_g4 {H : AHeap} {ds : List Nat} {o : Nat} {t : TypeId} {a b c d : Int} (hd : o ∈ ds) (h : H[o]? = some (some ⟨t, [lt (.int .i64 a), lt (.int .i64 b), lt (.int .i64 c), lt (.int .i64 d)]⟩)) : FrzV (onlyH ds H) (.optr o 0) (.iv (.ptr (g4 a b c d) 4)) := by
  refine .iv _ _ (.optr o 0 4 _ ⟨t, [lt (.int .i64 a), lt (.int .i64 b), lt (.int .i64 c), lt (.int .i64 d)]⟩ (fun j => .iv (g4 a b c d j)) (by decide) (only_mk hd h) (fun j hj => ?_) fun j _ => .iv _)
  rcases j with _ | _ | _ | _ | j
  · rfl
  · rfl
  · rfl
  · rfl
  · omega
def sum4 (a b c d : Int) (k : Nat) : Int := match k with | 0 => 0 | 1 => a | 2 => a + b | 3 => a + b + c | _ => a + b + c + d
theorem s4_0 (a b c d : Int) : sum4 a b c d 0 = 0 := rfl
theorem s4_1 (a b c d : Int) : sum4 a b c d 1 = a := rfl
theorem s4_2 (a b c d : Int) : sum4 a b c d 2 = a + b := rfl
theorem s4_3 (a b c d : Int) : sum4 a b c d 3 = a + b + c := rfl
theorem Wc2eaa {A B : Prop} (h9 : B) (w : B → A := by (intro h9; (repeat intro K hK); refine ⟨?_⟩; (repeat (first | (first | (with_reducible first | refine AX_block ?_ | refine AX_skip ?_ | refine AX_exit ?_ | refine AX_ret ?_ | refine AX_ift ?_ | refine AX_iff ?_ | refine AX_seq_k (fun K hK => ?_) | refine ContX.use (by assumption) ?_) | simp only [thenX, inBlockX, if_true, if_false, reduceCtorEq]) | (first | ((with_reducible refine XOP tyOK ?_); simp (disch := omega) only [go_sem , g4, s4_0, s4_1, s4_2, s4_3, Int.zero_add, Int.toNat_zero, Int.toNat_one, hs1, hs2, hs3, rows_one, rows_take, List.length_nil]; (with_reducible refine XRes_id ?_)) | (with_reducible refine XSK ?_)) | ((with_reducible refine XRes_nil ?_); refine hK _ ?_; clear hK K) | ((with_reducible refine AX_reg0 fun K hK => ?_); simp only [go_sem]) | (first | (first | refine XTL (by rfl) hCk ?_ | refine XTL (by rfl) hV ?_ | refine XTL (by rfl) hCo ?_)))); refine Wk.o ?_; (repeat revert hK K); exact h9)) : A := w h9
set_option maxRecDepth 100000 in
set_option maxHeartbeats 1000000 in
theorem pf_cSum (a b c d : Int) (ha : 0 ≤ a ∧ a ≤ 100000000) (hb : 0 ≤ b ∧ b ≤ 100000000) (hc : 0 ≤ c ∧ c ≤ 100000000) (hd : 0 ≤ d ∧ d ≤ 100000000) : PF Tryz.prog 65 [.iv (.ptr (g4 a b c d) 4)] fun r H' => r = lt (.int .i64 (a + b + c + d)) ∧ H' = [] := by
  refine SF.forgetAll ?_
  have hs1 := trivial; have hs2 := trivial; have hs3 := trivial; have hCk := trivial; have hV := trivial; have hCo := trivial
  (refine SF_of_bodyX (aload tt) (aload_ok tyOK) Tryz.func65 rfl (by kernel_rfl) ?_; simp only [Tryz.ntmps65, List.length_cons, List.length_nil, Nat.reduceAdd, Nat.reduceSub, List.replicate_succ, List.replicate_zero, List.cons_append, List.nil_append])
  (refine Wk.o ?_; (repeat revert hK K); refine Wc2eaa ?_; (repeat intro K hK); refine ⟨?_⟩)
  (refine AWH (σ := Nat) [6, 7, 3, 8, 9, 10, 11] (fun k => [(5, lint k), (1, lint (sum4 a b c d k))]) (fun k => []) (fun k => []) (fun k => k ≤ 4) (fun k => 4 - k) 0 (by first | exact by decide) ?_; rintro k d fr hfr hk; simp only [updS, deadS, List.set_cons_succ, List.set_cons_zero, lint] at hfr; subst hfr; (try dsimp only))
  have hc3 : k = 0 ∨ k = 1 ∨ k = 2 ∨ k = 3 ∨ k = 4 := by omega
  rcases hc3 with rfl | rfl | rfl | rfl | rfl
  · (refine Wk.o ?_; (repeat revert hK K); refine Wc2eaa ?_; (repeat intro K hK); refine ⟨?_⟩)
    exact WEND 1 (by decide) (by (first | omega | (dsimp only; omega) | (simp only; omega)))
  · (refine Wk.o ?_; (repeat revert hK K); refine Wc2eaa ?_; (repeat intro K hK); refine ⟨?_⟩)
    exact WEND 2 (by decide) (by (first | omega | (dsimp only; omega) | (simp only; omega)))
  · (refine Wk.o ?_; (repeat revert hK K); refine Wc2eaa ?_; (repeat intro K hK); refine ⟨?_⟩)
    exact WEND 3 (by decide) (by (first | omega | (dsimp only; omega) | (simp only; omega)))
  · (refine Wk.o ?_; (repeat revert hK K); refine Wc2eaa ?_; (repeat intro K hK); refine ⟨?_⟩)
    exact WEND 4 (by decide) (by (first | omega | (dsimp only; omega) | (simp only; omega)))
  · (refine Wk.o ?_; (repeat revert hK K); refine Wc2eaa ?_; (repeat intro K hK); refine ⟨?_⟩)
    (simp only [bodyX]; refine ⟨_, by simp only [aresults, aresult, XS.as, Tryz.results65, aload, go_sem, Option.bind_some]; rfl, ?_⟩)
    exact ⟨.iv _, rfl, trivial⟩
end Go.Proofs.YtcjnikkmjhagmaaGreatDoor
namespace Go.Proofs.YtcjnikkmjhagmaaGreatDoor
open Go.RowKit
set_option linter.unusedVariables false
set_option linter.unusedSimpArgs false
def qP (n m : Int) : Int := if nOk n m then cP n.toNat else 0
def qT (n m : Int) (p : Nat) : Int := if nOk n m ∧ p ≤ 2016 then cTm n.toNat p else 0
def qS (n m : Int) : Int := if nOk n m then cSt n.toNat m.toNat else 0
def qM (n m : Int) (e : Nat) : Int := if nOk n m ∧ (e : Int) ≤ n then cMv n.toNat m.toNat e else 0
theorem qP_lim (n m : Int) : 0 ≤ qP n m ∧ qP n m ≤ 100000000 := by
  unfold qP; split
  · next h => obtain ⟨N, M, rfl, rfl, hN, hM⟩ := nOk_nat h; have := cP_lim hN; rw [Int.toNat_natCast]; unfold cP; omega
  · omega
theorem qT_lim (n m : Int) (p : Nat) : 0 ≤ qT n m p ∧ qT n m p ≤ 100000000 := by
  unfold qT; split
  · next h => obtain ⟨N, M, rfl, rfl, hN, hM⟩ := nOk_nat h.1; have := cTm_lim hN h.2; rw [Int.toNat_natCast]; unfold cTm; omega
  · omega
theorem qS_lim (n m : Int) : 0 ≤ qS n m ∧ qS n m ≤ 100000000 := by
  unfold qS; split
  · next h => obtain ⟨N, M, rfl, rfl, hN, hM⟩ := nOk_nat h; have := cSt_lim hN hM; rw [Int.toNat_natCast, Int.toNat_natCast]; unfold cSt; omega
  · omega
theorem qM_lim (n m : Int) (e : Nat) : 0 ≤ qM n m e ∧ qM n m e ≤ 100000000 := by
  unfold qM; split
  · next h => obtain ⟨N, M, rfl, rfl, hN, hM⟩ := nOk_nat h.1; have := cMv_lim hN hM (by omega : e ≤ N); rw [Int.toNat_natCast, Int.toNat_natCast]; unfold cMv; omega
  · omega
def prN (l : List Op5) : Nat := (oPairL l l.length).length / 2
def enN (l : List Op5) : Nat := l.length - (oPends l l.length).length
theorem pf_PairsN (l : List Op5) (hl : l.length ≤ 100) : PF Tryz.prog 27 [.iv (iOps l)] fun r H' => r = .iv (iFlat (oPairL l l.length) (prN l) 2) ∧ H' = [] :=
  SF.mono (pf_Pairs l hl) fun r H' ⟨n, h1, h2, h3⟩ => by
    have e : n = prN l := by unfold prN; omega
    subst e; exact ⟨h2, h3⟩
theorem pairs_le (l : List Op5) : ∀ k, (oPairL l k).length ≤ 2 * (k * l.length)
  | 0 => by simp [oPairL]
  | k + 1 => by
    obtain ⟨n, h1, h2⟩ := oPair_len l k l.length
    have := pairs_le l k
    rw [oPairL_succ, List.length_append, Nat.add_mul, Nat.one_mul, h2]; omega
def cAll (n m : Int) (l : List Op5) : Int := if oCE l = 0 ∧ nOk n m ∧ (l.length : Int) = n then qP n m + qT n m (prN l) + qS n m + qM n m (enN l) else 0
theorem W103ea {A B : Prop} (h9 : B) (w : B → A := by (intro h9; (repeat intro K hK); refine ⟨?_⟩; (repeat (first | (first | (with_reducible first | refine AX_block ?_ | refine AX_skip ?_ | refine AX_exit ?_ | refine AX_ret ?_ | refine AX_ift ?_ | refine AX_iff ?_ | refine AX_seq_k (fun K hK => ?_) | refine ContX.use (by assumption) ?_) | simp only [thenX, inBlockX, if_true, if_false, reduceCtorEq]) | (first | ((with_reducible refine XOP tyOK ?_); simp (disch := omega) only [go_sem , g4, szG, iOps, iFlat, iInts, eqRes, Int.toNat_zero, Int.toNat_one, hs1, hs2, hs3, rows_one, rows_take, List.length_nil]; (with_reducible refine XRes_id ?_)) | (with_reducible refine XSK ?_)) | ((with_reducible refine XRes_nil ?_); refine hK _ ?_; clear hK K) | ((with_reducible refine AX_reg0 fun K hK => ?_); simp only [go_sem]) | (first | (first | refine XTL (by rfl) hO ?_ | refine ATL tyOK (by rfl) hO ?_ | refine XTL (by rfl) hCk ?_ | refine ATL tyOK (by rfl) hCk ?_ | refine XTL (by rfl) hE ?_ | refine ATL tyOK (by rfl) hE ?_) | ((refine ADR_tellF (by rfl) hP ?_ (fun _ => rfl) ?_); (focus exact idsA (by rfl)); (simp only [putL, List.set_cons_succ, List.set_cons_zero])) | ((refine ADR_tellF (by rfl) hPr ?_ (fun _ => rfl) ?_); (focus exact idsA (by rfl)); (simp only [putL, List.set_cons_succ, List.set_cons_zero])) | ((refine ADR_tellF (by rfl) hT ?_ (fun _ => rfl) ?_); (focus exact idsA (by rfl)); (simp only [putL, List.set_cons_succ, List.set_cons_zero])) | ((refine ADR_tellF (by rfl) hS ?_ (fun _ => rfl) ?_); (focus exact idsA (by rfl)); (simp only [putL, List.set_cons_succ, List.set_cons_zero])) | ((refine ADR_tellF (by rfl) hM ?_ (fun _ => rfl) ?_); (focus exact idsA (by rfl)); (simp only [putL, List.set_cons_succ, List.set_cons_zero])) | (first | refine XTL (by rfl) hP ?_ | refine ATL tyOK (by rfl) hP ?_ | refine XTL (by rfl) hPr ?_ | refine ATL tyOK (by rfl) hPr ?_ | refine XTL (by rfl) hT ?_ | refine ATL tyOK (by rfl) hT ?_ | refine XTL (by rfl) hS ?_ | refine ATL tyOK (by rfl) hS ?_ | refine XTL (by rfl) hM ?_ | refine ATL tyOK (by rfl) hM ?_ | refine XTL (by rfl) hSum ?_ | refine ATL tyOK (by rfl) hSum ?_)))); refine Wk.o ?_; (repeat revert hK K); exact h9)) : A := w h9
set_option maxRecDepth 100000 in
set_option maxHeartbeats 1000000 in
theorem pf_cAll (n m : Int) (l : List Op5) (hl : l.length ≤ 100) (hs : okS l) : PF Tryz.prog 21 [szA n m, .iv (iOps l)] fun r H' => r = lt (.int .i64 (cAll n m l)) ∧ H' = [] := by
  refine SF.forgetAll ?_
  have hs1 := trivial; have hs2 := trivial; have hs3 := trivial
  have hO := pf_oChk l (by omega) hs
  have hCk := pf_cMay n m
  have hE := pf_Pending l (by omega)
  have hP : PF Tryz.prog 61 [szA n m] fun r H' => r = lt (.int .i64 (qP n m)) ∧ H' = [] := pf_cPlaces n m
  have hPr := pf_PairsN l hl
  have hT : PF Tryz.prog 62 [szA n m, lt (.int .i64 (prN l))] fun r H' => r = lt (.int .i64 (qT n m (prN l))) ∧ H' = [] := pf_cTimes n m (prN l)
  have hS : PF Tryz.prog 63 [szA n m] fun r H' => r = lt (.int .i64 (qS n m)) ∧ H' = [] := pf_cStates n m
  have hM : PF Tryz.prog 64 [szA n m, lt (.int .i64 (enN l))] fun r H' => r = lt (.int .i64 (qM n m (enN l))) ∧ H' = [] := pf_cMoves n m (enN l)
  rw [show ((enN l : Nat) : Int) = (l.length : Int) - ((oPends l l.length).length : Int) by have := oPends_len l l.length; unfold enN; omega] at hM
  have l1 := qP_lim n m
  have l2 := qT_lim n m (prN l)
  have l3 := qS_lim n m
  have l4 := qM_lim n m (enN l)
  have hSum := pf_cSum (qP n m) (qT n m (prN l)) (qS n m) (qM n m (enN l)) l1 l2 l3 l4
  have hpl := oPends_len l l.length
  have hen : (enN l : Int) = (l.length : Int) - ((oPends l l.length).length : Int) := by unfold enN; omega
  have hpr : prN l ≤ 1000000000 := by have := pairs_le l l.length; have h2 : l.length * l.length ≤ 100 * 100 := Nat.mul_le_mul hl hl; unfold prN; omega
  by_cases h1 : oCE l = 0
  · by_cases h2 : nOk n m
    · rw [decide_eq_true h2] at hCk
      by_cases h3 : (l.length : Int) = n
      · have e : cAll n m l = qP n m + qT n m (prN l) + qS n m + qM n m (enN l) := by unfold cAll; rw [if_pos ⟨h1, h2, h3⟩]
        rw [e]
        rw [h1] at hO
        (refine SF_of_bodyX (aload tt) (aload_ok tyOK) Tryz.func21 rfl (by kernel_rfl) ?_; simp only [Tryz.ntmps21, List.length_cons, List.length_nil, Nat.reduceAdd, Nat.reduceSub, List.replicate_succ, List.replicate_zero, List.cons_append, List.nil_append])
        (refine Wk.o ?_; (repeat revert hK K); refine W103ea ?_; (repeat intro K hK); refine ⟨?_⟩)
        refine AX_freeze [0] [(2, .iv (.ptr (szG n m) 2))] (fun p hp => ?_) ?_
        · rw [List.mem_singleton.1 hp]; exact frz_sz (by decide) rfl
        simp only [setN, updS, List.set_cons_succ, List.set_cons_zero]
        repeat (first | (first | (with_reducible first | refine AX_block ?_ | refine AX_skip ?_ | refine AX_exit ?_ | refine AX_ret ?_ | refine AX_ift ?_ | refine AX_iff ?_ | refine AX_seq_k (fun K hK => ?_) | refine ContX.use (by assumption) ?_) | simp only [thenX, inBlockX, if_true, if_false, reduceCtorEq]) | (first | ((first | (with_reducible refine XRes_op tyOK ?_ ?_) | ((with_reducible first | refine ADF_op tyOK ?_ ?_ ?_ | refine ADX_op tyOK ?_ ?_ ?_); (focus rfl)) | (with_reducible refine ADR_alloc1 tyOK ?_ ?_) | ((with_reducible refine ADR_free1 tyOK ?_ ?_ ?_); (focus rfl)) | ((with_reducible refine ADR_free0 tyOK ?_ ?_ ?_); (focus rfl)) | ((with_reducible refine ADR_read1 tyOK ?_ ?_ ?_); (focus rfl)) | (with_reducible refine ADR_chg1 tyOK ?_ ?_)); (focus (first | (with_reducible rfl) | ((simp (disch := omega) only [go_sem]); done))); simp (disch := omega) only [go_sem , g4, szG, iOps, iFlat, iInts, eqRes, Int.toNat_zero, Int.toNat_one, hs1, hs2, hs3, rows_one, rows_take, List.length_nil]; (first | (with_reducible refine XRes_id ?_) | (with_reducible refine ADF_id ?_) | (with_reducible refine ADR_id1 ?_) | (with_reducible refine ADX_id ?_))) | ((first | (with_reducible refine XRes_skip ?_ ?_) | (with_reducible refine ADF_skip (b := true) ?_ ?_) | (with_reducible refine ADX_skip ?_ ?_) | ((with_reducible refine ADR_skip1 ?_ ?_ ?_); (focus rfl))); (focus (first | rfl | ((simp (disch := omega) only [go_sem]); done))); (simp only [putL, List.set_cons_succ, List.set_cons_zero]))) | ((first | (with_reducible refine XRes_nil ?_) | (with_reducible refine ADF_nil ?_) | (with_reducible refine ADR_nil ?_) | (with_reducible refine ADX_nil ?_)); (first | refine hK _ ?_ | refine hK _ _ ?_); clear hK K) | ((with_reducible refine AX_reg0 fun K hK => ?_); simp only [go_sem]) | ((refine AX_drawL tyOK (by kernel_rfl) (by decide +kernel) fun K hK => ?_); (simp only [go_sem, alL, kdOfL, kdOf, isApp, List.any_cons, List.any_nil, List.map_cons, List.map_nil, Bool.or_false, Bool.false_or, Bool.or_true, Bool.true_or, reduceCtorEq])) | (first | (first | refine XTL (by rfl) hO ?_ | refine ATL tyOK (by rfl) hO ?_ | refine XTL (by rfl) hCk ?_ | refine ATL tyOK (by rfl) hCk ?_ | refine XTL (by rfl) hE ?_ | refine ATL tyOK (by rfl) hE ?_) | ((refine ADR_tellF (by rfl) hP ?_ (fun _ => rfl) ?_); (focus exact idsA (by rfl)); (simp only [putL, List.set_cons_succ, List.set_cons_zero])) | ((refine ADR_tellF (by rfl) hPr ?_ (fun _ => rfl) ?_); (focus exact idsA (by rfl)); (simp only [putL, List.set_cons_succ, List.set_cons_zero])) | ((refine ADR_tellF (by rfl) hT ?_ (fun _ => rfl) ?_); (focus exact idsA (by rfl)); (simp only [putL, List.set_cons_succ, List.set_cons_zero])) | ((refine ADR_tellF (by rfl) hS ?_ (fun _ => rfl) ?_); (focus exact idsA (by rfl)); (simp only [putL, List.set_cons_succ, List.set_cons_zero])) | ((refine ADR_tellF (by rfl) hM ?_ (fun _ => rfl) ?_); (focus exact idsA (by rfl)); (simp only [putL, List.set_cons_succ, List.set_cons_zero])) | (first | refine XTL (by rfl) hP ?_ | refine ATL tyOK (by rfl) hP ?_ | refine XTL (by rfl) hPr ?_ | refine ATL tyOK (by rfl) hPr ?_ | refine XTL (by rfl) hT ?_ | refine ATL tyOK (by rfl) hT ?_ | refine XTL (by rfl) hS ?_ | refine ATL tyOK (by rfl) hS ?_ | refine XTL (by rfl) hM ?_ | refine ATL tyOK (by rfl) hM ?_ | refine XTL (by rfl) hSum ?_ | refine ATL tyOK (by rfl) hSum ?_)))
        refine AX_drawN tyOK (by kernel_rfl) 14 1 (by decide +kernel) fun K hK => ?_
        simp only [go_sem, alD, kdOf, isApp, List.any_cons, List.any_nil, List.map_cons, List.map_nil, Bool.or_false, Bool.false_or, Bool.or_true, Bool.true_or, reduceCtorEq]
        repeat (first | (first | ((first | (with_reducible refine XRes_op tyOK ?_ ?_) | ((with_reducible first | refine ADF_op tyOK ?_ ?_ ?_ | refine ADX_op tyOK ?_ ?_ ?_); (focus rfl)) | (with_reducible refine ADR_alloc1 tyOK ?_ ?_) | ((with_reducible refine ADR_free1 tyOK ?_ ?_ ?_); (focus rfl)) | ((with_reducible refine ADR_free0 tyOK ?_ ?_ ?_); (focus rfl)) | ((with_reducible refine ADR_read1 tyOK ?_ ?_ ?_); (focus rfl)) | (with_reducible refine ADR_chg1 tyOK ?_ ?_)); (focus (first | (with_reducible rfl) | ((simp (disch := omega) only [go_sem]); done))); simp (disch := omega) only [go_sem , g4, szG, iOps, iFlat, iInts, eqRes, Int.toNat_zero, Int.toNat_one, hs1, hs2, hs3, rows_one, rows_take, List.length_nil]; (first | (with_reducible refine XRes_id ?_) | (with_reducible refine ADF_id ?_) | (with_reducible refine ADR_id1 ?_) | (with_reducible refine ADX_id ?_))) | ((first | (with_reducible refine XRes_skip ?_ ?_) | (with_reducible refine ADF_skip (b := true) ?_ ?_) | (with_reducible refine ADX_skip ?_ ?_) | ((with_reducible refine ADR_skip1 ?_ ?_ ?_); (focus rfl))); (focus (first | rfl | ((simp (disch := omega) only [go_sem]); done))); (simp only [putL, List.set_cons_succ, List.set_cons_zero]))) | ((first | (with_reducible refine XRes_nil ?_) | (with_reducible refine ADF_nil ?_) | (with_reducible refine ADR_nil ?_) | (with_reducible refine ADX_nil ?_)); (first | refine hK _ ?_ | refine hK _ _ ?_); clear hK K) | (first | (first | refine XTL (by rfl) hO ?_ | refine ATL tyOK (by rfl) hO ?_ | refine XTL (by rfl) hCk ?_ | refine ATL tyOK (by rfl) hCk ?_ | refine XTL (by rfl) hE ?_ | refine ATL tyOK (by rfl) hE ?_) | ((refine ADR_tellF (by rfl) hP ?_ (fun _ => rfl) ?_); (focus exact idsA (by rfl)); (simp only [putL, List.set_cons_succ, List.set_cons_zero])) | ((refine ADR_tellF (by rfl) hPr ?_ (fun _ => rfl) ?_); (focus exact idsA (by rfl)); (simp only [putL, List.set_cons_succ, List.set_cons_zero])) | ((refine ADR_tellF (by rfl) hT ?_ (fun _ => rfl) ?_); (focus exact idsA (by rfl)); (simp only [putL, List.set_cons_succ, List.set_cons_zero])) | ((refine ADR_tellF (by rfl) hS ?_ (fun _ => rfl) ?_); (focus exact idsA (by rfl)); (simp only [putL, List.set_cons_succ, List.set_cons_zero])) | ((refine ADR_tellF (by rfl) hM ?_ (fun _ => rfl) ?_); (focus exact idsA (by rfl)); (simp only [putL, List.set_cons_succ, List.set_cons_zero])) | (first | refine XTL (by rfl) hP ?_ | refine ATL tyOK (by rfl) hP ?_ | refine XTL (by rfl) hPr ?_ | refine ATL tyOK (by rfl) hPr ?_ | refine XTL (by rfl) hT ?_ | refine ATL tyOK (by rfl) hT ?_ | refine XTL (by rfl) hS ?_ | refine ATL tyOK (by rfl) hS ?_ | refine XTL (by rfl) hM ?_ | refine ATL tyOK (by rfl) hM ?_ | refine XTL (by rfl) hSum ?_ | refine ATL tyOK (by rfl) hSum ?_)))
        refine ADR_leaf tyOK 1 ⟨98, [lint 0, lint 0, lint 0, lint 0]⟩ (fun n => .optr n 0) rfl (.inl fun _ => rfl) (fun j y h => ?_) (fun H => ?_) rfl (by decide) (by simp) ?_
        · rcases j with _ | _ | _ | _ | j <;> simp at h <;> subst h <;> exact .iv _
        · rfl
        refine ADR_nil ?_
        refine hK _ _ ?_
        clear hK K
        simp only [go_sem, dsts, List.drop_succ_cons, List.drop_zero, List.map_cons, List.map_nil, List.set_cons_succ, List.set_cons_zero, putL]
        (refine Wk.o ?_; (repeat revert hK K); refine W103ea ?_; (repeat intro K hK); refine ⟨?_⟩)
        refine XRes_nil ?_
        (repeat (first | (with_reducible first | refine AX_block ?_ | refine AX_skip ?_ | refine AX_exit ?_ | refine AX_ret ?_ | refine AX_ift ?_ | refine AX_iff ?_ | refine AX_seq_k (fun K hK => ?_) | refine ContX.use (by assumption) ?_) | simp only [thenX, inBlockX, if_true, if_false, reduceCtorEq]))
        refine AX_freeze [1] [(8, .iv (.ptr (g4 (qP n m) (qT n m (prN l)) (qS n m) (qM n m (enN l))) 4))] (fun p hp => ?_) ?_
        · rw [List.mem_singleton.1 hp]; exact frz_g4 (by decide) rfl
        simp only [setN, updS, List.set_cons_succ, List.set_cons_zero]
        (refine Wk.o ?_; (repeat revert hK K); refine W103ea ?_; (repeat intro K hK); refine ⟨?_⟩)
        refine XRes_slot (by rfl) rfl (PF.tells (fun a ha => by rw [List.mem_singleton.1 ha]; exact .iv _) (fun _ => rfl) hSum) ?_
        rintro r H' ⟨rfl, rfl⟩
        (simp only [putL, List.set_cons_succ, List.set_cons_zero])
        (refine Wk.o ?_; (repeat revert hK K); refine W103ea ?_; (repeat intro K hK); refine ⟨?_⟩)
        (simp only [bodyX]; refine ⟨_, by simp only [aresults, aresult, XS.as, Tryz.results21, aload, go_sem, Option.bind_some]; rfl, ?_⟩)
        exact ⟨.iv _, rfl, trivial⟩
      · have e : cAll n m l = 0 := by unfold cAll; rw [if_neg fun h => h3 h.2.2]
        rw [e]
        rw [h1] at hO
        (refine SF_of_bodyX (aload tt) (aload_ok tyOK) Tryz.func21 rfl (by kernel_rfl) ?_; simp only [Tryz.ntmps21, List.length_cons, List.length_nil, Nat.reduceAdd, Nat.reduceSub, List.replicate_succ, List.replicate_zero, List.cons_append, List.nil_append])
        (refine Wk.o ?_; (repeat revert hK K); refine W103ea ?_; (repeat intro K hK); refine ⟨?_⟩)
        (simp only [bodyX]; refine ⟨_, by simp only [aresults, aresult, XS.as, Tryz.results21, aload, go_sem, Option.bind_some]; rfl, ?_⟩)
        exact ⟨.iv _, rfl, trivial⟩
    · rw [decide_eq_false h2] at hCk
      have e : cAll n m l = 0 := by unfold cAll; rw [if_neg fun h => h2 h.2.1]
      rw [e]
      rw [h1] at hO
      (refine SF_of_bodyX (aload tt) (aload_ok tyOK) Tryz.func21 rfl (by kernel_rfl) ?_; simp only [Tryz.ntmps21, List.length_cons, List.length_nil, Nat.reduceAdd, Nat.reduceSub, List.replicate_succ, List.replicate_zero, List.cons_append, List.nil_append])
      (refine Wk.o ?_; (repeat revert hK K); refine W103ea ?_; (repeat intro K hK); refine ⟨?_⟩)
      (simp only [bodyX]; refine ⟨_, by simp only [aresults, aresult, XS.as, Tryz.results21, aload, go_sem, Option.bind_some]; rfl, ?_⟩)
      exact ⟨.iv _, rfl, trivial⟩
  · have e : cAll n m l = 0 := by unfold cAll; rw [if_neg fun h => h1 h.1]
    rw [e]
    (refine SF_of_bodyX (aload tt) (aload_ok tyOK) Tryz.func21 rfl (by kernel_rfl) ?_; simp only [Tryz.ntmps21, List.length_cons, List.length_nil, Nat.reduceAdd, Nat.reduceSub, List.replicate_succ, List.replicate_zero, List.cons_append, List.nil_append])
    (refine Wk.o ?_; (repeat revert hK K); refine W103ea ?_; (repeat intro K hK); refine ⟨?_⟩)
    (simp only [bodyX]; refine ⟨_, by simp only [aresults, aresult, XS.as, Tryz.results21, aload, go_sem, Option.bind_some]; rfl, ?_⟩)
    exact ⟨.iv _, rfl, trivial⟩
end Go.Proofs.YtcjnikkmjhagmaaGreatDoor
