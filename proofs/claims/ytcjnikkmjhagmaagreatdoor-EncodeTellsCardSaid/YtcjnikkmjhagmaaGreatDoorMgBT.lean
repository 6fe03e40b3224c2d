import Derived.Test.YtcjnikkmjhagmaaGreatDoorMgBJ
import Derived.Test.YtcjnikkmjhagmaaGreatDoorMgBO
import Derived.Test.YtcjnikkmjhagmaaGreatDoorMgBP
namespace Go.Proofs.YtcjnikkmjhagmaaGreatDoor
open Go.RowKit
set_option linter.unusedVariables false
set_option linter.unusedSimpArgs false
theorem W5193a {A B : Prop} (h9 : B) (w : B → A := by (intro h9; (repeat intro K hK); refine ⟨?_⟩; (repeat (first | (first | (with_reducible first | refine AX_block ?_ | refine AX_skip ?_ | refine AX_exit ?_ | refine AX_ret ?_ | refine AX_ift ?_ | refine AX_iff ?_ | refine AX_seq_k (fun K hK => ?_) | refine ContX.use (by assumption) ?_) | simp only [thenX, inBlockX, if_true, if_false, reduceCtorEq]) | (first | ((with_reducible refine XOP tyOK ?_); simp (disch := omega) only [go_sem , iInts, iBools, hs1, hs2, hs3, hs4, Int.add_sub_cancel, List.length_nil, List.length_append, List.length_cons]; (with_reducible refine XRes_id ?_)) | (with_reducible refine XSK ?_)) | ((with_reducible refine XRes_nil ?_); refine hK _ ?_; clear hK K) | ((with_reducible refine AX_reg0 fun K hK => ?_); simp only [go_sem]) | (first | (first | refine XTL (by rfl) hCk ?_ | refine XTL (by rfl) hAt ?_)))); refine Wk.o ?_; (repeat revert hK K); exact h9)) : A := w h9
set_option maxRecDepth 100000 in
set_option maxHeartbeats 8000000 in
theorem pf_rRow (n m : Int) (M : List Bool) (hM : M.length ≤ 1000000) : PF Tryz.prog 44 [lt (.int .i64 n), lt (.int .i64 m), .iv (iBools M)] fun r H' => r = .tup [.iv (iInts (sxX n m M)), lt (.bool (decide (sxOk n m M)))] ∧ H' = [] := by
  refine SF.frozen ?_
  have hs1 := trivial; have hs2 := trivial; have hs3 := trivial; have hs4 := trivial; have hAt := trivial
  have hCk := pf_r31Check n m
  by_cases hok : nOk n m
  · rw [nCheck_yes hok] at hCk
    have hsq := nOk_sq hok
    have hst := nOk_st hok
    have hV : nVars n m = n * n + n + (n + 1) * m := by unfold nVars; rw [if_pos hok]; rfl
    obtain ⟨n, rfl⟩ : ∃ N : Nat, n = N := ⟨n.toNat, by unfold nOk at hok; omega⟩
    obtain ⟨m, rfl⟩ : ∃ N : Nat, m = N := ⟨m.toNat, by unfold nOk at hok; omega⟩
    have hn : n ≤ 64 := by unfold nOk at hok; omega
    have hmb : m ≤ 32 := by unfold nOk at hok; omega
    by_cases hl : (M.length : Int) = nVars n m
    · have hl2 := hl
      rw [hV] at hl2
      have hA := fun (a k : Nat) (ha : a < n + 1) (hk : k < m) => pf_r31State (n := n) (m := m) (a := a) (b := k) hok (by omega) (by omega) (by omega) (by omega)
      have hvb : ∀ a k : Nat, a < n + 1 → k < m → 1 ≤ nVar n m 3 a k ∧ nVar n m 3 a k ≤ nVars n m := fun (a k : Nat) (ha : a < n + 1) (hk : k < m) => nVar_pos ⟨hok, by decide, by decide, by omega, (by show (a : Int) < n + 1; omega), by omega, (by show (k : Int) < m; omega)⟩
      rw [← hl] at hvb
      have hnoG : ∀ a : Nat, a < n + 1 → ¬ cntT (srF n m M a) m = 1 → ¬ sxOk n m M := fun a ha h hh => h (by
        have h5 := hh.2.2 a (by rw [Int.toNat_natCast]; exact ha)
        unfold sxG at h5; rw [Int.toNat_natCast] at h5; exact h5)
      generalize hq1 : (n : Int) * n = q1 at *
      generalize hq2 : ((n : Int) + 1) * m = q2 at *
      clear hV
      (refine SF_of_bodyX (aload tt) (aload_ok tyOK) Tryz.func44 rfl (by kernel_rfl) ?_; simp only [Tryz.ntmps44, List.length_cons, List.length_nil, Nat.reduceAdd, Nat.reduceSub, List.replicate_succ, List.replicate_zero, List.cons_append, List.nil_append])
      unfold iBools
      have hs1 := hq1
      have hs2 : ((n + 1 : Nat) : Int) * m = q2 := by rw [← hq2]; push_cast; rfl
      (refine Wk.o ?_; (repeat revert hK K); refine W5193a ?_; (repeat intro K hK); refine ⟨?_⟩)
      refine AX_nil 8 3 1 rfl ?_
      (refine AWH (σ := Nat) [31, 32, 33, 36, 37, 10, 11, 38, 39, 40, 43, 44, 45, 46, 47, 48, 49, 50, 51, 52, 53, 54, 55, 41, 42, 56, 57, 58, 59, 60, 6, 7, 34, 35] (fun a => [(9, lint a), (8, .osl 0 0 (sxR n m M a).length 1)]) (fun a => [some ⟨3, (sxR n m M a).map lint⟩]) (fun a => []) (fun a => a ≤ n + 1 ∧ ∀ j, j < a → cntT (srF n m M j) m = 1) (fun a => n + 1 - a) 0 (by first | exact ⟨Nat.zero_le _, fun j h => absurd h (by omega)⟩) ?_; rintro a d fr hfr ⟨ha, hj⟩; simp only [updS, deadS, List.set_cons_succ, List.set_cons_zero, lint] at hfr; subst hfr; (try dsimp only))
      have hul := sxR_len n m M a
      by_cases hlt : a < n + 1
      · (refine Wk.o ?_; (repeat revert hK K); refine W5193a ?_; (repeat intro K hK); refine ⟨?_⟩)
        (refine AWH (σ := Nat × List Int) [38, 39, 40, 43, 44, 45, 46, 47, 48, 49, 50, 51, 52, 53, 54, 55, 41, 42, 36] (fun (b, ys) => [(11, lint b), (8, .osl 0 0 ys.length 1)]) (fun (b, ys) => [some ⟨3, ys.map lint⟩]) (fun (b, ys) => []) (fun (b, ys) => b ≤ m ∧ ys = sxR n m M a ++ truesI (srF n m M a) b ∧ ys.length ≤ a + b) (fun (b, ys) => m - b) (0, sxR n m M a) (by first | exact ⟨Nat.zero_le _, by simp [truesI], by (first | omega | (dsimp only; omega) | (simp only; omega))⟩) ?_; rintro ⟨b, ys⟩ d fr hfr ⟨hb, hy, hyl⟩; simp only [updS, deadS, List.set_cons_succ, List.set_cons_zero, lint] at hfr; subst hfr; (try dsimp only))
        by_cases hlb : b < m
        · have hAt := hA a b hlt hlb
          have hbv := hvb a b hlt hlb
          have ht0 : srF n m M a b = M.getD (nVar n m 3 a b - 1).toNat false := rfl
          have hts := truesI_succ (srF n m M a) b
          generalize nVar n m 3 a b = v at *
          cases ht : srF n m M a b with
          | true =>
            have hs3 : M.getD (v - 1).toNat false = true := by rw [← ht0, ht]
            rw [if_pos ht] at hts
            (refine Wk.o ?_; (repeat revert hK K); refine W5193a ?_; (repeat intro K hK); refine ⟨?_⟩)
            exact WRN [2] (b + 1, ys ++ [(b : Int)]) ⟨by omega, by rw [hts, hy, List.append_assoc], by simp only [List.length_append, List.length_cons, List.length_nil]; omega⟩ (by (first | omega | (dsimp only; omega) | (simp only; omega)))
          | false =>
            have hs3 : M.getD (v - 1).toNat false = false := by rw [← ht0, ht]
            rw [if_neg (by rw [ht]; decide)] at hts
            (refine Wk.o ?_; (repeat revert hK K); refine W5193a ?_; (repeat intro K hK); refine ⟨?_⟩)
            exact WRN [0] (b + 1, ys) ⟨by omega, by rw [hts, hy], by (first | omega | (dsimp only; omega) | (simp only; omega))⟩ (by (first | omega | (dsimp only; omega) | (simp only; omega)))
        · obtain rfl : b = m := by omega
          have hcl := truesI_length (srF n b M a) b
          have hyl2 : ys.length = a + cntT (srF n b M a) b := by rw [hy, List.length_append, hul, hcl]
          by_cases h1 : cntT (srF n b M a) b = 1
          · have h2 := truesI_one (srF n b M a) b h1
            have hys : ys = sxR n b M (a + 1) := by rw [hy, h2, sxR_succ, Int.toNat_natCast]
            have hyl3 : ys.length = a + 1 := by rw [hyl2, h1]
            clear hyl2 hcl
            (refine Wk.o ?_; (repeat revert hK K); refine W5193a ?_; (repeat intro K hK); refine ⟨?_⟩)
            refine whx_ren [0] (a + 1) ⟨by omega, fun i hi => ?_⟩ (by (first | omega | (dsimp only; omega) | (simp only; omega))) rfl (by decide) (by decide) (by (simp (disch := omega) only [go_sem, lint])) (by (simp (disch := omega) only [go_sem, lint])) (by rw [← hys]; (simp (disch := omega) only [go_sem, lint])) (fun d => by rw [← hys]; (simp (disch := omega) only [go_sem, lint]))
            rcases Nat.lt_or_ge i a with h | h
            · exact hj i h
            · rw [show i = a by omega]; exact h1
          · have hno := hnoG a hlt h1
            have hyl3 : ys.length ≠ a + 1 := by omega
            (refine Wk.o ?_; (repeat revert hK K); refine W5193a ?_; (repeat intro K hK); refine ⟨?_⟩)
            ((simp only [bodyX]; refine ⟨_, by simp only [aresults, aresult, XS.as, Tryz.results44, aload, go_sem, Option.bind_some]; rfl, ?_⟩); exact ⟨_, Snap.twoP (.iv _ _ (.nil _ _)) (.same _ (.iv _)), by (rw [(sx_no hno).1, (sx_no hno).2]) <;> rfl, trivial⟩)
      · obtain rfl : a = n + 1 := by omega
        have hyes : sxOk n m M := ⟨hok, hl, fun a ha => by unfold sxG; rw [Int.toNat_natCast]; exact hj a (by rw [Int.toNat_natCast] at ha; exact ha)⟩
        (refine Wk.o ?_; (repeat revert hK K); refine W5193a ?_; (repeat intro K hK); refine ⟨?_⟩)
        (simp only [bodyX]; refine ⟨_, by simp only [aresults, aresult, XS.as, Tryz.results44, aload, go_sem, Option.bind_some]; rfl, ?_⟩)
        exact ⟨_, Snap.twoP (snap_ints rfl rfl) (.same _ (.iv _)), by rw [(sx_yes hyes).1, (sx_yes hyes).2, Int.toNat_natCast], trivial⟩
    · have hno : ¬ sxOk n m M := fun h => hl h.2.1
      rw [hV] at hl
      generalize hq1 : (n : Int) * n = q1 at *
      generalize hq2 : ((n : Int) + 1) * m = q2 at *
      have hs1 := hq1
      have hs2 : ((n + 1 : Nat) : Int) * m = q2 := by rw [← hq2]; push_cast; rfl
      (refine SF_of_bodyX (aload tt) (aload_ok tyOK) Tryz.func44 rfl (by kernel_rfl) ?_; simp only [Tryz.ntmps44, List.length_cons, List.length_nil, Nat.reduceAdd, Nat.reduceSub, List.replicate_succ, List.replicate_zero, List.cons_append, List.nil_append])
      unfold iBools
      (refine Wk.o ?_; (repeat revert hK K); refine W5193a ?_; (repeat intro K hK); refine ⟨?_⟩)
      ((simp only [bodyX]; refine ⟨_, by simp only [aresults, aresult, XS.as, Tryz.results44, aload, go_sem, Option.bind_some]; rfl, ?_⟩); exact ⟨_, Snap.twoP (.iv _ _ (.nil _ _)) (.same _ (.iv _)), by (rw [(sx_no hno).1, (sx_no hno).2]) <;> rfl, trivial⟩)
  · have hno : ¬ sxOk n m M := fun h => hok h.1
    rw [nCheck_no hok] at hCk
    (refine SF_of_bodyX (aload tt) (aload_ok tyOK) Tryz.func44 rfl (by kernel_rfl) ?_; simp only [Tryz.ntmps44, List.length_cons, List.length_nil, Nat.reduceAdd, Nat.reduceSub, List.replicate_succ, List.replicate_zero, List.cons_append, List.nil_append])
    unfold iBools
    (refine Wk.o ?_; (repeat revert hK K); refine W5193a ?_; (repeat intro K hK); refine ⟨?_⟩)
    ((simp only [bodyX]; refine ⟨_, by simp only [aresults, aresult, XS.as, Tryz.results44, aload, go_sem, Option.bind_some]; rfl, ?_⟩); exact ⟨_, Snap.twoP (.iv _ _ (.nil _ _)) (.same _ (.iv _)), by (rw [(sx_no hno).1, (sx_no hno).2]) <;> rfl, trivial⟩)
end Go.Proofs.YtcjnikkmjhagmaaGreatDoor
namespace Go.Proofs.YtcjnikkmjhagmaaGreatDoor
open Go.RowKit
set_option linter.unusedVariables false
set_option linter.unusedSimpArgs false
theorem plc_ix (xs : List Int) (x : Int) : plc xs x = if xs.idxOf x < xs.length then (xs.idxOf x : Int) else -1 := by
  by_cases h : xs.idxOf x < xs.length
  · rw [if_pos h]
    refine plc_at (fun j hj e => ?_) (ix_at h) h
    have h1 := ix_le (ord := xs) (k := j) (by omega)
    rw [e] at h1; omega
  · rw [if_neg h]
    refine plc_no fun j hj e => h ?_
    have h1 := ix_le (ord := xs) (k := j) hj
    rw [e] at h1; omega
theorem Wc483a {A B : Prop} (h9 : B) (w : B → A := by (intro h9; (repeat intro K hK); refine ⟨?_⟩; (repeat (first | (first | (with_reducible first | refine AX_block ?_ | refine AX_skip ?_ | refine AX_exit ?_ | refine AX_ret ?_ | refine AX_ift ?_ | refine AX_iff ?_ | refine AX_seq_k (fun K hK => ?_) | refine ContX.use (by assumption) ?_) | simp only [thenX, inBlockX, if_true, if_false, reduceCtorEq]) | (first | ((with_reducible first | refine XOP tyOK ?_ | refine AOP tyOK ?_); simp (disch := omega) only [go_sem , hs1, hs2, hs3, hs4, iInts, iFlat, Int.toNat_zero, Int.toNat_one, List.length_nil]; (with_reducible first | refine XRes_id ?_ | refine ADF_id ?_)) | (with_reducible first | refine XSK ?_ | refine ASK ?_)) | ((first | (with_reducible refine XRes_nil ?_) | (with_reducible refine ADF_nil ?_)); (first | refine hK _ ?_ | refine hK _ _ ?_); clear hK K) | ((first | (with_reducible refine AX_reg0 fun K hK => ?_) | (refine AX_drawG1 tyOK (by kernel_rfl) (by rfl) (by kernel_rfl) fun K hK => ?_)); simp only [go_sem]) | (first | (first | refine XTL (by rfl) hA ?_ | refine ATL tyOK (by rfl) hA ?_ | refine XTL (by rfl) hB ?_ | refine ATL tyOK (by rfl) hB ?_)))); refine Wk.o ?_; (repeat revert hK K); exact h9)) : A := w h9
set_option maxRecDepth 100000 in
set_option maxHeartbeats 4000000 in
theorem pf_rAgainst (ord us : List Int) (Z : Nat) (ho : ord.length ≤ 1000000) (hu : us.length = Z * 2) (hZ : Z ≤ 1000000) : PF Tryz.prog 45 [.iv (iInts ord), .iv (iFlat us Z 2)] fun r H' => r = .tup [lt (.int .i64 (fb (agE ord us) Z)), lt (.bool (decide (fb (agE ord us) Z = Z)))] ∧ H' = [] := by
  refine SF.forgetAll ?_
  have hs1 := trivial; have hs2 := trivial; have hs3 := trivial; have hs4 := trivial; have hA := trivial; have hB := trivial
  have hP := fun x => pf_place33 ord x ho
  (refine SF_of_bodyX (aload tt) (aload_ok tyOK) Tryz.func45 rfl (by kernel_rfl) ?_; simp only [Tryz.ntmps45, List.length_cons, List.length_nil, Nat.reduceAdd, Nat.reduceSub, List.replicate_succ, List.replicate_zero, List.cons_append, List.nil_append])
  unfold iInts iFlat
  (refine Wk.o ?_; (repeat revert hK K); refine Wc483a ?_; (repeat intro K hK); refine ⟨?_⟩)
  (refine AWH (σ := Nat) [9, 10, 11, 12, 15, 16, 17, 18, 19, 20, 21, 22, 23, 24, 25, 26, 27, 28, 7, 8, 29, 30, 31, 32, 33, 34, 35, 36, 4, 5, 13, 14] (fun i => [(6, lint i)]) (fun i => []) (fun i => []) (fun i => i ≤ Z ∧ ∀ j, j < i → agE ord us j = 0) (fun i => Z - i) 0 (by first | exact ⟨Nat.zero_le _, fun j h => absurd h (by omega)⟩) ?_; rintro i d fr hfr ⟨hi, hj⟩; simp only [updS, deadS, List.set_cons_succ, List.set_cons_zero, lint] at hfr; subst hfr; (try dsimp only))
  by_cases hlt : i < Z
  · have hE : agE ord us i = if ord.idxOf (us.getD (i * 2 + 1) 0) < ord.idxOf (us.getD (i * 2) 0) ∧ ord.idxOf (us.getD (i * 2) 0) < ord.length then 1 else 0 := rfl
    have hA := hP (us.getD (i * 2) 0)
    have hB := hP (us.getD (i * 2 + 1) 0)
    rw [plc_ix] at hA hB
    have hx1 := List.idxOf_le_length (l := ord) (a := us.getD (i * 2) 0)
    have hx2 := List.idxOf_le_length (l := ord) (a := us.getD (i * 2 + 1) 0)
    generalize ord.idxOf (us.getD (i * 2 + 1) 0) = u at *
    generalize ord.idxOf (us.getD (i * 2) 0) = v at *
    by_cases h1 : v < ord.length
    · rw [if_pos h1] at hA
      by_cases h2 : u < ord.length
      · rw [if_pos h2] at hB
        by_cases h3 : u < v
        · rw [if_pos ⟨h3, h1⟩] at hE
          have hfb : fb (agE ord us) Z = i := fb_at hj (by rw [hE]; decide) hlt
          (refine Wk.o ?_; (repeat revert hK K); refine Wc483a ?_; (repeat intro K hK); refine ⟨?_⟩)
          (simp only [bodyX]; refine ⟨_, by simp only [aresults, aresult, XS.as, Tryz.results45, aload, go_sem, Option.bind_some]; rfl, ?_⟩)
          exact ⟨ids_idB rfl, by rw [hfb, decide_eq_false (by omega)], trivial⟩
        · rw [if_neg fun h => h3 h.1] at hE
          (refine Wk.o ?_; (repeat revert hK K); refine Wc483a ?_; (repeat intro K hK); refine ⟨?_⟩)
          exact WRN [] (i + 1) ⟨by omega, below_s hj hE⟩ (by (first | omega | (dsimp only; omega) | (simp only; omega)))
      · rw [if_neg h2] at hB
        rw [if_neg fun h => h2 (by omega)] at hE
        (refine Wk.o ?_; (repeat revert hK K); refine Wc483a ?_; (repeat intro K hK); refine ⟨?_⟩)
        exact WRN [] (i + 1) ⟨by omega, below_s hj hE⟩ (by (first | omega | (dsimp only; omega) | (simp only; omega)))
    · rw [if_neg h1] at hA
      rw [if_neg fun h => h1 h.2] at hE
      by_cases h2 : u < ord.length
      · rw [if_pos h2] at hB
        (refine Wk.o ?_; (repeat revert hK K); refine Wc483a ?_; (repeat intro K hK); refine ⟨?_⟩)
        exact WRN [] (i + 1) ⟨by omega, below_s hj hE⟩ (by (first | omega | (dsimp only; omega) | (simp only; omega)))
      · rw [if_neg h2] at hB
        (refine Wk.o ?_; (repeat revert hK K); refine Wc483a ?_; (repeat intro K hK); refine ⟨?_⟩)
        exact WRN [] (i + 1) ⟨by omega, below_s hj hE⟩ (by (first | omega | (dsimp only; omega) | (simp only; omega)))
  · obtain rfl : i = Z := by omega
    have hfb : fb (agE ord us) i = i := fb_all hj
    (refine Wk.o ?_; (repeat revert hK K); refine Wc483a ?_; (repeat intro K hK); refine ⟨?_⟩)
    (simp only [bodyX]; refine ⟨_, by simp only [aresults, aresult, XS.as, Tryz.results45, aload, go_sem, Option.bind_some]; rfl, ?_⟩)
    exact ⟨ids_idB rfl, by rw [hfb, decide_eq_true rfl], trivial⟩
end Go.Proofs.YtcjnikkmjhagmaaGreatDoor
namespace Go.Proofs.YtcjnikkmjhagmaaGreatDoor
open Go.RowKit
set_option linter.unusedVariables false
set_option linter.unusedSimpArgs false
theorem W6b7da {A B : Prop} (h9 : B) (w : B → A := by (intro h9; (repeat intro K hK); refine ⟨?_⟩; (repeat (first | (first | (with_reducible first | refine AX_block ?_ | refine AX_skip ?_ | refine AX_exit ?_ | refine AX_ret ?_ | refine AX_ift ?_ | refine AX_iff ?_ | refine AX_seq_k (fun K hK => ?_) | refine ContX.use (by assumption) ?_) | simp only [thenX, inBlockX, if_true, if_false, reduceCtorEq]) | (first | ((first | (with_reducible refine XRes_op tyOK ?_ ?_) | ((with_reducible first | refine ADF_op tyOK ?_ ?_ ?_ | refine ADX_op tyOK ?_ ?_ ?_); (focus rfl)) | (with_reducible refine ADR_alloc1 tyOK ?_ ?_) | ((with_reducible refine ADR_free1 tyOK ?_ ?_ ?_); (focus rfl)) | ((with_reducible refine ADR_free0 tyOK ?_ ?_ ?_); (focus rfl)) | ((with_reducible refine ADR_read1 tyOK ?_ ?_ ?_); (focus rfl)) | (with_reducible refine ADR_chg1 tyOK ?_ ?_)); (focus (first | (with_reducible rfl) | ((simp (disch := omega) only [go_sem]); done))); simp (disch := omega) only [go_sem , iOps, iFlat, iInts, iBools, hs1, hs2, hs3, flatO_p, flatO_k, flatO_s, flatO_e, flatO_r, List.length_nil]; (first | (with_reducible refine XRes_id ?_) | (with_reducible refine ADF_id ?_) | (with_reducible refine ADR_id1 ?_) | (with_reducible refine ADX_id ?_))) | ((first | (with_reducible refine XRes_skip ?_ ?_) | (with_reducible refine ADF_skip (b := true) ?_ ?_) | (with_reducible refine ADX_skip ?_ ?_) | ((with_reducible refine ADR_skip1 ?_ ?_ ?_); (focus rfl))); (focus (first | rfl | ((simp (disch := omega) only [go_sem]); done))); (simp only [putL, List.set_cons_succ, List.set_cons_zero]))) | ((first | (with_reducible refine XRes_nil ?_) | (with_reducible refine ADF_nil ?_) | (with_reducible refine ADR_nil ?_) | (with_reducible refine ADX_nil ?_)); (first | refine hK _ ?_ | refine hK _ _ ?_); clear hK K) | ((first | (with_reducible refine AX_reg0 fun K hK => ?_) | (refine AX_drawG1 tyOK (by kernel_rfl) (by rfl) (by kernel_rfl) fun K hK => ?_) | (refine AX_drawT tyOK (by kernel_rfl) (by decide +kernel) fun K hK => ?_) | (refine AX_drawM1 (by kernel_rfl) (by rfl) (by decide +kernel) fun K hK => ?_) | (refine AX_drawA tyOK (by kernel_rfl) (by decide +kernel) fun K hK => ?_)); (first | simp only [go_sem, preN, effOp, runF, alM, mapOp, alD2, kdOf2, Bool.not_false, Bool.not_true, reduceCtorEq] | simp only [go_sem, preN, effOp, runF, alM, mapOp, Bool.not_false, Bool.not_true, reduceCtorEq] | simp only [go_sem, preN, effOp, runF, alD2, kdOf2, Bool.not_false, Bool.not_true, reduceCtorEq] | simp only [go_sem, alD2, kdOf2, Bool.not_false, Bool.not_true, reduceCtorEq] | simp only [go_sem, preN, effOp, runF, Bool.not_false, Bool.not_true, reduceCtorEq] | simp only [go_sem])) | (first | (first | refine XTL (by rfl) hZ ?_ | refine ATL tyOK (by rfl) hZ ?_ | refine XTL (by rfl) hCk ?_ | refine ATL tyOK (by rfl) hCk ?_ | refine XTL (by rfl) hPl ?_ | refine ATL tyOK (by rfl) hPl ?_ | refine XTL (by rfl) hMay ?_ | refine ATL tyOK (by rfl) hMay ?_)))); refine Wk.o ?_; (repeat revert hK K); exact h9)) : A := w h9
set_option maxRecDepth 100000 in
set_option maxHeartbeats 8000000 in
theorem pf_rPlay (o : Ob) (l : List Op5) (ord : List Int) (inn : List Bool) (hr : o.R.length ≤ 100000) (ho : o.Ok) (hl : l.length ≤ 100000) (hs : okS l) (hol : ord.length ≤ 1000000) (hil : inn.length ≤ 1000000) : PF Tryz.prog 46 [obA o, .iv (iOps l), .iv (iInts ord), .iv (iBools inn)] fun r H' => r = .tup [.iv (iInts (plXs o l ord inn)), lt (.bool (plB o l ord inn))] ∧ H' = [] := by
  refine SF.frozen ?_
  have hs1 := trivial; have hs2 := trivial; have hs3 := trivial; have hMay := trivial; have hPl := trivial
  have hZ := pf_rSize o l hr ho hl
  have hCk := pf_r31Check (mN o l) (mS o l)
  by_cases hok : nOk (mN o l) (mS o l)
  · obtain ⟨hm, hln, hS1, hS2⟩ := m_nOk hok
    rw [nCheck_yes hok] at hCk
    have hok' := hok
    rw [(m_yes hm).1, (m_yes hm).2] at hZ hCk hok
    by_cases hal : ord.length = l.length
    · by_cases hin : inn.length = l.length
      · have hob := hm.1
        clear hm
        have hyes := fun (h0 : mAll l.length ord = true) (h1 : ∀ i, i < l.length → plIn l inn i) (h2 : ∀ k, k < l.length → plGo o l ord inn k = true) => pl_yes (o := o) (l := l) (ord := ord) (inn := inn) ⟨hok', h0, hin, h1, h2⟩
        have hnoP := fun (i : Nat) (hi : i < l.length) (h : (i : Int) ∉ ord) => pl_no (o := o) (l := l) (ord := ord) (inn := inn) fun hh => h ((mAll_iff.1 hh.2.1).2 i hi)
        have hnoI := fun (i : Nat) (hi : i < l.length) (h : ¬ plIn l inn i) => pl_no (o := o) (l := l) (ord := ord) (inn := inn) fun hh => h (hh.2.2.2.1 i hi)
        have hnoG := fun (i : Nat) (hi : i < l.length) (h : ¬ plGo o l ord inn i = true) => pl_no (o := o) (l := l) (ord := ord) (inn := inn) fun hh => h (hh.2.2.2.2 i hi)
        obtain ⟨S0, K0, I0, R0⟩ := o
        simp only at hS1 hS2 hok hZ hCk
        obtain ⟨m, rfl⟩ : ∃ m : Nat, S0 = m := ⟨S0.toNat, by omega⟩
        clear hok'
        (refine SF_of_bodyX (aload tt) (aload_ok tyOK) Tryz.func46 rfl (by kernel_rfl) ?_; simp only [Tryz.ntmps46, List.length_cons, List.length_nil, Nat.reduceAdd, Nat.reduceSub, List.replicate_succ, List.replicate_zero, List.cons_append, List.nil_append])
        unfold iOps iFlat iInts iBools
        (refine Wk.o ?_; (repeat revert hK K); refine W6b7da ?_; (repeat intro K hK); refine ⟨?_⟩)
        (refine AWH (σ := Nat) [40, 41, 42, 45, 46, 47, 48, 49, 50, 51, 52, 53, 54, 55, 56, 57, 58, 59, 60, 61, 62, 63, 8, 9, 43, 44] (fun i => [(12, lint i)]) (fun i => [some ⟨24, [lt (.int .i64 m), lt (.int .i64 K0), lt (.int .i64 I0), .iv (iRws R0)]⟩]) (fun i => []) (fun i => i ≤ l.length ∧ ∀ j : Nat, j < i → (j : Int) ∈ ord ∧ plIn l inn j) (fun i => l.length - i) 0 (by first | exact ⟨Nat.zero_le _, fun j h => absurd h (by omega)⟩) ?_; rintro i d fr hfr ⟨hi, hj⟩; simp only [updS, deadS, List.set_cons_succ, List.set_cons_zero, lint] at hfr; subst hfr; (try dsimp only))
        by_cases hlt : i < l.length
        · have hPl := pf_place33 ord i (by omega)
          by_cases hp0 : (i : Int) ∈ ord
          · have hpn : ¬ plc ord i < 0 := fun h => plc_neg.1 h hp0
            by_cases hp : plIn l inn i
            · have hj' : ∀ j : Nat, j < i + 1 → (j : Int) ∈ ord ∧ plIn l inn j := fun j h => by
                rcases Nat.lt_or_ge j i with h1 | h1
                · exact hj j h1
                · rw [show j = i by omega]; exact ⟨hp0, hp⟩
              by_cases he : (oAt l i).e = -1
              · (refine Wk.o ?_; (repeat revert hK K); refine W6b7da ?_; (repeat intro K hK); refine ⟨?_⟩)
                exact WRN [0] (i + 1) ⟨by omega, hj'⟩ (by (first | omega | (dsimp only; omega) | (simp only; omega)))
              · have hs1 : inn.getD i false = true := hp.resolve_left he
                (refine Wk.o ?_; (repeat revert hK K); refine W6b7da ?_; (repeat intro K hK); refine ⟨?_⟩)
                exact WRN [0] (i + 1) ⟨by omega, hj'⟩ (by (first | omega | (dsimp only; omega) | (simp only; omega)))
            · have he : (oAt l i).e ≠ -1 := fun h => hp (.inl h)
              have hs1 : inn.getD i false = false := by
                cases h : inn.getD i false with
                | false => rfl
                | true => exact absurd (Or.inr h) hp
              obtain ⟨e1, e2⟩ := hnoI i hlt hp
              (refine Wk.o ?_; (repeat revert hK K); refine W6b7da ?_; (repeat intro K hK); refine ⟨?_⟩)
              (simp only [bodyX]; refine ⟨_, by simp only [aresults, aresult, XS.as, Tryz.results46, aload, go_sem, Option.bind_some]; rfl, ?_⟩)
              exact ⟨_, Snap.two (.iv _ _ (.nil _ _)) (.same _ (.iv _)), by rw [e1, e2]; rfl, trivial⟩
          · have hpn : plc ord i < 0 := plc_neg.2 hp0
            obtain ⟨e1, e2⟩ := hnoP i hlt hp0
            (refine Wk.o ?_; (repeat revert hK K); refine W6b7da ?_; (repeat intro K hK); refine ⟨?_⟩)
            (simp only [bodyX]; refine ⟨_, by simp only [aresults, aresult, XS.as, Tryz.results46, aload, go_sem, Option.bind_some]; rfl, ?_⟩)
            exact ⟨_, Snap.two (.iv _ _ (.nil _ _)) (.same _ (.iv _)), by rw [e1, e2]; rfl, trivial⟩
        · obtain rfl : i = l.length := by omega
          have hall : mAll l.length ord = true := mAll_iff.2 ⟨hal, fun j hj' => (hj j hj').1⟩
          have hat := fun k hk => mAll_at (k := k) hall hk
          (refine Wk.o ?_; (repeat revert hK K); refine W6b7da ?_; (repeat intro K hK); refine ⟨?_⟩)
          refine AX_ren [0, 1] [66] ?fr2 [some ⟨24, [lt (.int .i64 m), lt (.int .i64 K0), lt (.int .i64 I0), .iv (iRws R0)]⟩, some ⟨3, [lint I0]⟩] (by decide) (by decide) (by (simp (disch := omega) only [go_sem, lint])) (by (simp (disch := omega) only [go_sem, lint])) (by (simp (disch := omega) only [go_sem, lint])) ?hfr (fun d2 => ?_)
          case hfr =>
            (simp (disch := omega) only [go_sem, lint])
            rfl
          simp only [deadS, List.set_cons_succ, List.set_cons_zero]
          (refine AWH (σ := Nat × List Int) [67, 68, 69, 72, 73, 74, 75, 15, 76, 77, 78, 79, 80, 81, 82, 84, 85, 86, 87, 88, 89, 90, 91, 92, 93, 83, 94, 95, 16, 17, 96, 97, 8, 9, 98, 99, 100, 101, 102, 70, 71] (fun (k, xs) => [(14, lint k), (13, .osl 1 0 (k + 1) 1)]) (fun (k, xs) => [some ⟨24, [lt (.int .i64 m), lt (.int .i64 K0), lt (.int .i64 I0), .iv (iRws R0)]⟩, some ⟨3, xs.map lint⟩]) (fun (k, xs) => []) (fun (k, xs) => k ≤ l.length ∧ xs = plRow ⟨↑m, K0, I0, R0⟩ l ord inn k ∧ ∀ j, j < k → plGo ⟨↑m, K0, I0, R0⟩ l ord inn j = true) (fun (k, xs) => l.length - k) (0, [I0]) (by first | exact ⟨Nat.zero_le _, rfl, fun j h => absurd h (by omega)⟩) ?_; rintro ⟨k, xs⟩ d fr hfr ⟨hk, hx, hg⟩; simp only [updS, deadS, List.set_cons_succ, List.set_cons_zero, lint] at hfr; subst hfr; (try dsimp only))
          have hxl : xs.length = k + 1 := by rw [hx, plRow_len]
          have hxk : xs.getD k 0 = plSt ⟨↑m, K0, I0, R0⟩ l ord inn k := by rw [hx, plRow_at _ _ _ _ (Nat.le_refl _)]
          by_cases hlt : k < l.length
          · obtain ⟨q, hq, hqe⟩ := hat k hlt
            have hop : plOp ord k = q := by unfold plOp; rw [hqe]; rfl
            have hs1 := hqe
            have hs3 := hxk
            by_cases hv : inn.getD q false = true
            · have hs2 := hv
              have hMay := pf_rMay ⟨↑m, K0, I0, R0⟩ (oAt l q) (plSt ⟨↑m, K0, I0, R0⟩ l ord inn k) hr
              unfold mayA at hMay
              cases hm : mvMay ⟨↑m, K0, I0, R0⟩ (oAt l q) (plSt ⟨↑m, K0, I0, R0⟩ l ord inn k) with
              | true =>
                rw [hm] at hMay
                have hst : plSt ⟨↑m, K0, I0, R0⟩ l ord inn (k + 1) = mvTo ⟨↑m, K0, I0, R0⟩ (oAt l q) (plSt ⟨↑m, K0, I0, R0⟩ l ord inn k) := by show (if _ then _ else _) = _; rw [hop, if_pos hv]
                rw [← hst] at hMay
                (refine Wk.o ?_; (repeat revert hK K); refine W6b7da ?_; (repeat intro K hK); refine ⟨?_⟩)
                refine WRN [0, 3] (k + 1, xs ++ [plSt ⟨↑m, K0, I0, R0⟩ l ord inn (k + 1)]) ⟨by omega, by rw [plRow_succ, hx], fun j hj => ?_⟩ (by (first | omega | (dsimp only; omega) | (simp only; omega)))
                rcases Nat.lt_or_ge j k with h | h
                · exact hg j h
                · rw [show j = k by omega]; unfold plGo; rw [hop, hm, Bool.or_true]
              | false =>
                rw [hm] at hMay
                obtain ⟨e1, e2⟩ := hnoG k hlt (by unfold plGo; rw [hop, hm, hv]; decide)
                (refine Wk.o ?_; (repeat revert hK K); refine W6b7da ?_; (repeat intro K hK); refine ⟨?_⟩)
                (simp only [bodyX]; refine ⟨_, by simp only [aresults, aresult, XS.as, Tryz.results46, aload, go_sem, Option.bind_some]; rfl, ?_⟩)
                exact ⟨_, Snap.two (.iv _ _ (.nil _ _)) (.same _ (.iv _)), by rw [e1, e2]; rfl, trivial⟩
            · have hv : inn.getD q false = false := by simpa using hv
              have hs2 := hv
              have hst : plSt ⟨↑m, K0, I0, R0⟩ l ord inn (k + 1) = plSt ⟨↑m, K0, I0, R0⟩ l ord inn k := by show (if _ then _ else _) = _; rw [hop, if_neg (by rw [hv]; decide)]
              (refine Wk.o ?_; (repeat revert hK K); refine W6b7da ?_; (repeat intro K hK); refine ⟨?_⟩)
              refine whx_ren [0, 3] (k + 1, xs ++ [plSt ⟨↑m, K0, I0, R0⟩ l ord inn (k + 1)]) ⟨by omega, by rw [plRow_succ, hx], fun j hj => ?_⟩ (by (first | omega | (dsimp only; omega) | (simp only; omega))) rfl (by decide) (by decide) (by (simp (disch := omega) only [go_sem, lint])) (by (simp (disch := omega) only [go_sem, lint])) (by rw [hst]; (simp (disch := omega) only [go_sem, lint])) (fun d => by (simp (disch := omega) only [go_sem, lint]))
              rcases Nat.lt_or_ge j k with h | h
              · exact hg j h
              · rw [show j = k by omega]; unfold plGo; rw [hop, hv]; rfl
          · obtain rfl : k = l.length := by omega
            obtain ⟨e1, e2⟩ := hyes hall (fun i hi => (hj i hi).2) hg
            (refine Wk.o ?_; (repeat revert hK K); refine W6b7da ?_; (repeat intro K hK); refine ⟨?_⟩)
            (simp only [bodyX]; refine ⟨_, by simp only [aresults, aresult, XS.as, Tryz.results46, aload, go_sem, Option.bind_some]; rfl, ?_⟩)
            exact ⟨_, Snap.two (snap_ints rfl hxl.symm) (.same _ (.iv _)), by rw [e1, e2, hx]; rfl, trivial⟩
      · have hno : ¬ plOk o l ord inn := fun h => hin h.2.2.1
        (refine SF_of_bodyX (aload tt) (aload_ok tyOK) Tryz.func46 rfl (by kernel_rfl) ?_; simp only [Tryz.ntmps46, List.length_cons, List.length_nil, Nat.reduceAdd, Nat.reduceSub, List.replicate_succ, List.replicate_zero, List.cons_append, List.nil_append])
        unfold iOps iFlat iInts iBools
        (refine Wk.o ?_; (repeat revert hK K); refine W6b7da ?_; (repeat intro K hK); refine ⟨?_⟩)
        ((simp only [bodyX]; refine ⟨_, by simp only [aresults, aresult, XS.as, Tryz.results46, aload, go_sem, Option.bind_some]; rfl, ?_⟩); exact ⟨_, Snap.two (.iv _ _ (.nil _ _)) (.same _ (.iv _)), by rw [(pl_no hno).1, (pl_no hno).2]; rfl, trivial⟩)
    · have hno : ¬ plOk o l ord inn := fun h => hal (mAll_iff.1 h.2.1).1
      (refine SF_of_bodyX (aload tt) (aload_ok tyOK) Tryz.func46 rfl (by kernel_rfl) ?_; simp only [Tryz.ntmps46, List.length_cons, List.length_nil, Nat.reduceAdd, Nat.reduceSub, List.replicate_succ, List.replicate_zero, List.cons_append, List.nil_append])
      unfold iOps iFlat iInts iBools
      (refine Wk.o ?_; (repeat revert hK K); refine W6b7da ?_; (repeat intro K hK); refine ⟨?_⟩)
      ((simp only [bodyX]; refine ⟨_, by simp only [aresults, aresult, XS.as, Tryz.results46, aload, go_sem, Option.bind_some]; rfl, ?_⟩); exact ⟨_, Snap.two (.iv _ _ (.nil _ _)) (.same _ (.iv _)), by rw [(pl_no hno).1, (pl_no hno).2]; rfl, trivial⟩)
  · have hno : ¬ plOk o l ord inn := fun h => hok h.1
    rw [nCheck_no hok] at hCk
    (refine SF_of_bodyX (aload tt) (aload_ok tyOK) Tryz.func46 rfl (by kernel_rfl) ?_; simp only [Tryz.ntmps46, List.length_cons, List.length_nil, Nat.reduceAdd, Nat.reduceSub, List.replicate_succ, List.replicate_zero, List.cons_append, List.nil_append])
    unfold iOps iFlat iInts iBools
    (refine Wk.o ?_; (repeat revert hK K); refine W6b7da ?_; (repeat intro K hK); refine ⟨?_⟩)
    ((simp only [bodyX]; refine ⟨_, by simp only [aresults, aresult, XS.as, Tryz.results46, aload, go_sem, Option.bind_some]; rfl, ?_⟩); exact ⟨_, Snap.two (.iv _ _ (.nil _ _)) (.same _ (.iv _)), by rw [(pl_no hno).1, (pl_no hno).2]; rfl, trivial⟩)
end Go.Proofs.YtcjnikkmjhagmaaGreatDoor
