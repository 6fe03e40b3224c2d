import Derived.Test.YtcjnikkmjhagmaaGreatDoorMgAW
import Derived.Test.YtcjnikkmjhagmaaGreatDoorMgAO
import Derived.Test.YtcjnikkmjhagmaaGreatDoorMgAV
namespace Go.Proofs.YtcjnikkmjhagmaaGreatDoor
open Go.ChangeShapes Go.WideShapes Go.ChangeAt Go.RowKit
set_option linter.unusedVariables false
theorem rws_of_flat {ys : List Int} {len : Nat} (hl : ys.length = len * 4) : ∃ xs : List Rw, xs.length = len ∧ flatR xs = ys := by
  refine ⟨(List.range len).map fun i => ⟨ys.getD (i * 4) 0, ys.getD (i * 4 + 1) 0, ys.getD (i * 4 + 2) 0, ys.getD (i * 4 + 3) 0⟩, by simp, list_of_getD (by rw [flatR_len]; simp [hl]) fun j hj => ?_⟩
  rw [flatR_len] at hj
  simp only [List.length_map, List.length_range] at hj
  have h1 : j / 4 < len := by omega
  have h2 : j % 4 < 4 := by omega
  have h3 := flatR_at h2 ((List.range len).map fun i => (⟨ys.getD (i * 4) 0, ys.getD (i * 4 + 1) 0, ys.getD (i * 4 + 2) 0, ys.getD (i * 4 + 3) 0⟩ : Rw)) (j / 4)
  rw [show j / 4 * 4 + j % 4 = j by omega] at h3
  rw [h3]
  have h4 : rwAt ((List.range len).map fun i => (⟨ys.getD (i * 4) 0, ys.getD (i * 4 + 1) 0, ys.getD (i * 4 + 2) 0, ys.getD (i * 4 + 3) 0⟩ : Rw)) (j / 4) = ⟨ys.getD (j / 4 * 4) 0, ys.getD (j / 4 * 4 + 1) 0, ys.getD (j / 4 * 4 + 2) 0, ys.getD (j / 4 * 4 + 3) 0⟩ := by
    unfold rwAt; rw [List.getD_eq_getElem?_getD]; simp only [List.getElem?_map, List.getElem?_range h1, Option.map_some, Option.getD_some]
  rw [h4]
  have h5 : j % 4 = 0 ∨ j % 4 = 1 ∨ j % 4 = 2 ∨ j % 4 = 3 := by omega
  rcases h5 with h | h | h | h <;> rw [h] <;> simp only [rwFl, List.getD_cons_zero, List.getD_cons_succ] <;> exact congrArg (fun z => ys.getD z 0) (by omega)
theorem StructRow.rwsA {w : World} {a : Option Addr} {len cap : Nat} (h : StructRow w 4 a len cap) : ∃ xs : List Rw, xs.length = len ∧ okI (flatR xs) ∧ RI (fun b => w.heap[b]?) (.sl (fun j => .lit (.int .i64 ((flatR xs).getD j 0))) xs.length 4) (.slice a len cap) := by
  obtain ⟨ys, h1, h2, h3⟩ := h.flat (by decide)
  obtain ⟨xs, rfl, rfl⟩ := rws_of_flat h1
  exact ⟨xs, rfl, h2, h3⟩
theorem RL.obj {G : Gh} {n : Nat} {x y z : Int} {a : Option Addr} {len cap : Nat} {xs : List Rw} (h : RI G.fz (.sl (fun j => .lit (.int .i64 ((flatR xs).getD j 0))) xs.length 4) (.slice a len cap)) : RA n G (obA ⟨x, y, z, xs⟩) (.agg #[.int .i64 x, .int .i64 y, .int .i64 z, .slice a len cap]) :=
  .agg [_, _, _, _] [_, _, _, _] rfl (RL.cons (.iv _ _ (.lit _)) (RL.cons (.iv _ _ (.lit _)) (RL.cons (.iv _ _ (.lit _)) (RL.cons (.iv _ _ h) (RL.nil _ _))))).2 rfl
end Go.Proofs.YtcjnikkmjhagmaaGreatDoor
namespace Go.Proofs.YtcjnikkmjhagmaaGreatDoor
open Go.RowKit
set_option linter.unusedVariables false
theorem ra_agg2 {n : Nat} {G : Gh} {a b v : Value} (h : RA n G (.agg [lt a, lt b]) v) : v = .agg #[a, b] := by
  cases h with
  | agg _ vs h1 h2 h3 =>
    have hr : RL n G [lt a, lt b] vs := ⟨h1, h2⟩
    obtain ⟨v1, us, rfl, r1, hr⟩ := hr.uncons
    obtain ⟨v2, us, rfl, r2, hr⟩ := hr.uncons
    rw [hr.unnil, r1.lit_inv, r2.lit_inv]
theorem ra_agg3 {n : Nat} {G : Gh} {a b c v : Value} (h : RA n G (.agg [lt a, lt b, lt c]) v) : v = .agg #[a, b, c] := by
  cases h with
  | agg _ vs h1 h2 h3 =>
    have hr : RL n G [lt a, lt b, lt c] vs := ⟨h1, h2⟩
    obtain ⟨v1, us, rfl, r1, hr⟩ := hr.uncons
    obtain ⟨v2, us, rfl, r2, hr⟩ := hr.uncons
    obtain ⟨v3, us, rfl, r3, hr⟩ := hr.uncons
    rw [hr.unnil, r1.lit_inv, r2.lit_inv, r3.lit_inv]
abbrev szA (o s : Int) : AV := .agg [lt (.int .i64 o), lt (.int .i64 s)]
theorem pf_nCheck (o s : Int) : PF Tryz.prog 68 [szA o s] fun r H' => r = lt (.int .i64 (nCheck o s)) ∧ H' = [] :=
  PF_of_walk ⟨_, Tryz.func68, by kernel_rfl, rfl⟩ fun G w vs hi hr => by
    obtain ⟨v1, us, rfl, r1, hr⟩ := hr.uncons
    rw [hr.unnil, ra_agg2 r1]
    exact num_Check o s w
theorem pf_nVar (o s k a b : Int) : PF Tryz.prog 40 [szA o s, .agg [lt (.int .i64 k), lt (.int .i64 a), lt (.int .i64 b)]] fun r H' => r = lt (.int .i64 (nVar o s k a b)) ∧ H' = [] :=
  PF_of_walk ⟨_, Tryz.func40, by kernel_rfl, rfl⟩ fun G w vs hi hr => by
    obtain ⟨v1, us, rfl, r1, hr⟩ := hr.uncons
    obtain ⟨v2, us, rfl, r2, hr⟩ := hr.uncons
    rw [hr.unnil, ra_agg2 r1, ra_agg3 r2]
    exact num_Var o s k a b w
end Go.Proofs.YtcjnikkmjhagmaaGreatDoor
namespace Go.Proofs.YtcjnikkmjhagmaaGreatDoor
open Go.RowKit
set_option linter.unusedVariables false
set_option linter.unusedSimpArgs false
set_option maxRecDepth 100000 in
set_option maxHeartbeats 1000000 in
theorem sf_indexRow (xs : List Rw) (hx : xs.length ≤ 100000) (p : Rw → Bool) (f : FuncId) (caps : List AV) (H : AHeap) (hcl : ∀ x : Rw, SF Tryz.prog f (rwA x :: caps) H fun r H' => r = lt (.bool (p x)) ∧ H' = H) (n : Nat) (hn : fb (fun i => if p (rwAt xs i) = true then 1 else 0) xs.length = n) :
    SF Tryz.prog 133 [.iv (iRws xs), .fn f [] caps] H fun r H' => r = lt (.int .i64 (if n < xs.length then n else -1)) ∧ H' = H := by
  (refine SF_of_bodyX (aload tt) (aload_ok tyOK) Tryz.func133 rfl (by kernel_rfl) ?_; simp only [Tryz.ntmps133, List.length_cons, List.length_nil, Nat.reduceAdd, Nat.reduceSub, List.replicate_succ, List.replicate_zero, List.cons_append, List.nil_append])
  (repeat (first | (first | (with_reducible first | refine AX_block ?_ | refine AX_skip ?_ | refine AX_exit ?_ | refine AX_ret ?_ | refine AX_ift ?_ | refine AX_iff ?_ | refine AX_seq_k (fun K hK => ?_) | refine ContX.use (by assumption) ?_) | simp only [thenX, inBlockX, if_true, if_false, reduceCtorEq]) | (first | ((with_reducible refine XOP tyOK ?_); simp (disch := omega) only [go_sem , flatR_s, flatR_k, flatR_n, flatR_r]; (with_reducible refine XRes_id ?_)) | (with_reducible refine XSK ?_)) | ((with_reducible refine XRes_nil ?_); refine hK _ ?_; clear hK K) | ((with_reducible refine AX_reg0 fun K hK => ?_); simp only [go_sem]) | (first | ((refine XRes_slot (by rfl) rfl (hcl _) ?_); rintro r H' ⟨rfl, rfl⟩; (simp only [putL, List.set_cons_succ, List.set_cons_zero])))))
  refine AX_wh (σ := Nat) [9, 10, 5, 11, 12, 13, 14, 15, 16, 17, 4, 18] (fun k => [(8, lint k)]) (fun _ => H) (fun _ => []) (fun k => k ≤ xs.length ∧ ∀ j, j < k → p (rwAt xs j) = false) (fun k => xs.length - k) 0 (fun d => by first | ((simp only [deadS, updS, List.set_cons_succ, List.set_cons_zero, lint, List.length_nil, List.length_cons]); done) | ((simp only [deadS, updS, List.set_cons_succ, List.set_cons_zero, lint, List.length_nil, List.length_cons]); rfl) | rfl) rfl rfl ⟨Nat.zero_le _, fun j h => absurd h (by omega)⟩ ?_
  rintro k d fr hfr ⟨hk, hj⟩
  simp only [updS, deadS, List.set_cons_succ, List.set_cons_zero, lint] at hfr
  subst hfr
  by_cases hlt : k < xs.length
  · (repeat' (first | (first | (with_reducible first | refine AX_block ?_ | refine AX_skip ?_ | refine AX_exit ?_ | refine AX_ret ?_ | refine AX_ift ?_ | refine AX_iff ?_ | refine AX_seq_k (fun K hK => ?_) | refine ContX.use (by assumption) ?_) | simp only [thenX, inBlockX, if_true, if_false, reduceCtorEq]) | (first | ((with_reducible refine XOP tyOK ?_); simp (disch := omega) only [go_sem , flatR_s, flatR_k, flatR_n, flatR_r]; (with_reducible refine XRes_id ?_)) | (with_reducible refine XSK ?_)) | ((with_reducible refine XRes_nil ?_); refine hK _ ?_; clear hK K) | ((with_reducible refine AX_reg0 fun K hK => ?_); simp only [go_sem]) | (first | ((refine XRes_slot (by rfl) rfl (hcl _) ?_); rintro r H' ⟨rfl, rfl⟩; (simp only [putL, List.set_cons_succ, List.set_cons_zero]))) | ((refine XRes_splitG (by rfl) (fun hc => ?_) (fun hc => ?_)) <;> (try simp only [eqRes, List.cons_beq_cons, Bool.and_eq_true, Bool.not_eq_true, Bool.and_eq_false_iff, decide_eq_true_eq, decide_eq_false_iff_not, bne_iff_ne, beq_iff_eq, bne_eq_false_iff_eq, beq_eq_false_iff_ne, Bool.not_eq_true', Bool.not_eq_false', ne_eq, Int.not_lt, Int.not_le, Decidable.not_not] at hc) <;> simp only [List.set_cons_succ, List.set_cons_zero]) | (first | ((with_reducible refine AX_if_t ?_ ?_); focus (simp (disch := omega) only [go_sem , flatR_s, flatR_k, flatR_n, flatR_r]; done)) | ((with_reducible refine AX_if_f ?_ ?_); focus (simp (disch := omega) only [go_sem , flatR_s, flatR_k, flatR_n, flatR_r]; done)) | (refine AX_cond _ (by rfl) (fun hc => ?_) (fun hc => ?_) <;> (try simp only [eqRes, List.cons_beq_cons, Bool.and_eq_true, Bool.not_eq_true, Bool.and_eq_false_iff, decide_eq_true_eq, decide_eq_false_iff_not, bne_iff_ne, beq_iff_eq, bne_eq_false_iff_eq, beq_eq_false_iff_ne, Bool.not_eq_true', Bool.not_eq_false', ne_eq, Int.not_lt, Int.not_le, Decidable.not_not] at hc)))))
    · (simp only [bodyX]; refine ⟨_, by simp only [aresults, aresult, XS.as, Tryz.results133, aload, go_sem, Option.bind_some]; rfl, ?_⟩)
      have : n = k := by rw [← hn]; exact fb_at (fun j h => by simp [hj j h]) (by simp [hc]) hlt
      subst this
      exact ⟨by rw [if_pos hlt], trivial⟩
    · refine whx_end (k + 1) ⟨by omega, fun j h => ?_⟩ (by (first | omega | (dsimp only; omega) | (simp only; omega))) rfl rfl (fun d => by (simp only [deadS, updS, List.set_cons_succ, List.set_cons_zero, lint, List.length_nil, List.length_cons]))
      rcases Nat.lt_or_ge j k with h1 | h1
      · exact hj j h1
      · rw [show j = k by omega]; exact hc
  · have : k = xs.length := by omega
    subst this
    (repeat' (first | (first | (with_reducible first | refine AX_block ?_ | refine AX_skip ?_ | refine AX_exit ?_ | refine AX_ret ?_ | refine AX_ift ?_ | refine AX_iff ?_ | refine AX_seq_k (fun K hK => ?_) | refine ContX.use (by assumption) ?_) | simp only [thenX, inBlockX, if_true, if_false, reduceCtorEq]) | (first | ((with_reducible refine XOP tyOK ?_); simp (disch := omega) only [go_sem , flatR_s, flatR_k, flatR_n, flatR_r]; (with_reducible refine XRes_id ?_)) | (with_reducible refine XSK ?_)) | ((with_reducible refine XRes_nil ?_); refine hK _ ?_; clear hK K) | ((with_reducible refine AX_reg0 fun K hK => ?_); simp only [go_sem]) | (first | ((refine XRes_slot (by rfl) rfl (hcl _) ?_); rintro r H' ⟨rfl, rfl⟩; (simp only [putL, List.set_cons_succ, List.set_cons_zero]))) | ((refine XRes_splitG (by rfl) (fun hc => ?_) (fun hc => ?_)) <;> (try simp only [eqRes, List.cons_beq_cons, Bool.and_eq_true, Bool.not_eq_true, Bool.and_eq_false_iff, decide_eq_true_eq, decide_eq_false_iff_not, bne_iff_ne, beq_iff_eq, bne_eq_false_iff_eq, beq_eq_false_iff_ne, Bool.not_eq_true', Bool.not_eq_false', ne_eq, Int.not_lt, Int.not_le, Decidable.not_not] at hc) <;> simp only [List.set_cons_succ, List.set_cons_zero]) | (first | ((with_reducible refine AX_if_t ?_ ?_); focus (simp (disch := omega) only [go_sem , flatR_s, flatR_k, flatR_n, flatR_r]; done)) | ((with_reducible refine AX_if_f ?_ ?_); focus (simp (disch := omega) only [go_sem , flatR_s, flatR_k, flatR_n, flatR_r]; done)) | (refine AX_cond _ (by rfl) (fun hc => ?_) (fun hc => ?_) <;> (try simp only [eqRes, List.cons_beq_cons, Bool.and_eq_true, Bool.not_eq_true, Bool.and_eq_false_iff, decide_eq_true_eq, decide_eq_false_iff_not, bne_iff_ne, beq_iff_eq, bne_eq_false_iff_eq, beq_eq_false_iff_ne, Bool.not_eq_true', Bool.not_eq_false', ne_eq, Int.not_lt, Int.not_le, Decidable.not_not] at hc)))))
    (simp only [bodyX]; refine ⟨_, by simp only [aresults, aresult, XS.as, Tryz.results133, aload, go_sem, Option.bind_some]; rfl, ?_⟩)
    have : n = xs.length := by rw [← hn]; exact fb_all (fun j h => by simp [hj j h])
    exact ⟨by rw [if_neg (by omega)], trivial⟩
set_option maxRecDepth 100000 in
set_option maxHeartbeats 1000000 in
theorem sf_move1 (o : Ob) (st kd : Int) (x : Rw) : SF Tryz.prog 134 [rwA x, .optr 1 0, .optr 2 0] [some ⟨24, [lt (.int .i64 o.S), lt (.int .i64 o.K), lt (.int .i64 o.I), .iv (iRws o.R)]⟩, some ⟨3, [lt (.int .i64 st)]⟩, some ⟨3, [lt (.int .i64 kd)]⟩] fun r H' => r = lt (.bool (decide (x.s = st ∧ x.k = kd))) ∧ H' = [some ⟨24, [lt (.int .i64 o.S), lt (.int .i64 o.K), lt (.int .i64 o.I), .iv (iRws o.R)]⟩, some ⟨3, [lt (.int .i64 st)]⟩, some ⟨3, [lt (.int .i64 kd)]⟩] := by
  (refine SF_of_bodyL (aload tt) (aload_ok tyOK) Tryz.func134 rfl (by kernel_rfl) ?_; simp only [Tryz.ntmps134, List.length_cons, List.length_nil, Nat.reduceAdd, Nat.reduceSub, List.replicate_succ, List.replicate_zero, List.cons_append, List.nil_append])
  (repeat' (first | (first | (with_reducible first | refine AX_block ?_ | refine AX_skip ?_ | refine AX_exit ?_ | refine AX_ret ?_ | refine AX_ift ?_ | refine AX_iff ?_ | refine AX_seq_k (fun K hK => ?_) | refine ContX.use (by assumption) ?_) | simp only [thenX, inBlockX, if_true, if_false, reduceCtorEq]) | (first | ((with_reducible refine XOP tyOK ?_); simp (disch := omega) only [go_sem , flatR_s, flatR_k, flatR_n, flatR_r]; (with_reducible refine XRes_id ?_)) | (with_reducible refine XSK ?_)) | ((with_reducible refine XRes_nil ?_); refine hK _ ?_; clear hK K) | ((with_reducible refine AX_reg0 fun K hK => ?_); simp only [go_sem]) | (first | ((refine XRes_slot (by rfl) rfl (hcl _) ?_); rintro r H' ⟨rfl, rfl⟩; (simp only [putL, List.set_cons_succ, List.set_cons_zero]))) | ((refine XRes_splitG (by rfl) (fun hc => ?_) (fun hc => ?_)) <;> (try simp only [eqRes, List.cons_beq_cons, Bool.and_eq_true, Bool.not_eq_true, Bool.and_eq_false_iff, decide_eq_true_eq, decide_eq_false_iff_not, bne_iff_ne, beq_iff_eq, bne_eq_false_iff_eq, beq_eq_false_iff_ne, Bool.not_eq_true', Bool.not_eq_false', ne_eq, Int.not_lt, Int.not_le, Decidable.not_not] at hc) <;> simp only [List.set_cons_succ, List.set_cons_zero]) | (first | ((with_reducible refine AX_if_t ?_ ?_); focus (simp (disch := omega) only [go_sem , flatR_s, flatR_k, flatR_n, flatR_r]; done)) | ((with_reducible refine AX_if_f ?_ ?_); focus (simp (disch := omega) only [go_sem , flatR_s, flatR_k, flatR_n, flatR_r]; done)) | (refine AX_cond _ (by rfl) (fun hc => ?_) (fun hc => ?_) <;> (try simp only [eqRes, List.cons_beq_cons, Bool.and_eq_true, Bool.not_eq_true, Bool.and_eq_false_iff, decide_eq_true_eq, decide_eq_false_iff_not, bne_iff_ne, beq_iff_eq, bne_eq_false_iff_eq, beq_eq_false_iff_ne, Bool.not_eq_true', Bool.not_eq_false', ne_eq, Int.not_lt, Int.not_le, Decidable.not_not] at hc)))))
  all_goals
    (refine lead_drop [] [0, 1, 2, 3, 5, 6, 7, 8, 9, 10, 11, 12, 13, 14] [some ⟨24, [lt (.int .i64 o.S), lt (.int .i64 o.K), lt (.int .i64 o.I), .iv (iRws o.R)]⟩, some ⟨3, [lt (.int .i64 st)]⟩, some ⟨3, [lt (.int .i64 kd)]⟩] (by decide) (by decide) (by (simp (disch := omega) only [go_sem, lint , flatR_s, flatR_k, flatR_n, flatR_r])) (by (simp (disch := omega) only [go_sem, lint , flatR_s, flatR_k, flatR_n, flatR_r])) (by (simp (disch := omega) only [go_sem, lint , flatR_s, flatR_k, flatR_n, flatR_r])) (fun d => ?_); (simp (disch := omega) only [go_sem, lint , flatR_s, flatR_k, flatR_n, flatR_r]))
    (simp only [bodyX]; refine ⟨_, by simp only [aresults, aresult, XS.as, Tryz.results134, aload, go_sem, Option.bind_some]; rfl, ?_⟩)
    exact ⟨by first | rfl | (refine congrArg (fun b => lt (.bool b)) ?_; rw [Bool.eq_iff_iff]; simp [*]; done), trivial⟩
end Go.Proofs.YtcjnikkmjhagmaaGreatDoor
