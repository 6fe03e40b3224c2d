import Derived.Test.YtdaenbgjafalcaaDoorMgBI
import Derived.Test.YtdaenbgjafalcaaDoorMgAV
namespace Go.Proofs.YtdaenbgjafalcaaDoor
open Go.RowKit Go.Lib
set_option linter.unusedVariables false
set_option linter.unusedSimpArgs false
structure ObSm (o : Ob) : Prop where
  S : 0 ≤ o.S ∧ o.S ≤ 1000000
  K : 0 ≤ o.K ∧ o.K ≤ 1000000
  I : 0 ≤ o.I ∧ o.I ≤ 1000000
  len : o.R.length ≤ 3000
  row : ∀ i, i < o.R.length → (0 ≤ (rwAt o.R i).s ∧ (rwAt o.R i).s ≤ 1000000) ∧ (0 ≤ (rwAt o.R i).k ∧ (rwAt o.R i).k ≤ 1000000) ∧ (0 ≤ (rwAt o.R i).n ∧ (rwAt o.R i).n ≤ 1000000) ∧ (0 ≤ (rwAt o.R i).r ∧ (rwAt o.R i).r ≤ 1000000)
theorem fitS {x : Int} (h : 0 ≤ x ∧ x ≤ 1000000) : Fit x := ⟨by omega, by omega⟩
theorem ObSm.rowLen {o : Ob} (h : ObSm o) {i : Nat} (hi : i < o.R.length) : (rowB4 (rwAt o.R i)).length ≤ 200 := by
  obtain ⟨h1, h2, h3, h4⟩ := h.row i hi
  exact lineB_len (by decide) (fit4 (fitS h1) (fitS h2) (fitS h3) (fitS h4)) (Nat.le_refl 4)
theorem ObSm.headLen {o : Ob} (h : ObSm o) : (headB4 o).length ≤ 200 := lineB_len (by decide) (fit4 (fitS h.S) (fitS h.K) (fitS h.I) ⟨by omega, by have := h.len; omega⟩) (Nat.le_refl 4)
theorem ObSm.txt {o : Ob} (h : ObSm o) (k : Nat) (hk : k ≤ o.R.length) : ((o.R.take k).flatMap rowB4).length ≤ k * 200 := by
  induction k with
  | zero => simp
  | succ k ih =>
    have := ih (by omega)
    have h2 := h.rowLen (i := k) (by omega)
    rw [flat_step rowB4 ⟨0, 0, 0, 0⟩ (by omega), List.length_append]
    unfold rwAt at h2
    rw [Nat.add_mul]; omega
theorem ObSm.tot {o : Ob} (h : ObSm o) : (obB o).length ≤ 700000 := by
  have h1 := h.headLen
  have h2 := h.txt o.R.length (Nat.le_refl _)
  rw [List.take_length] at h2
  have := h.len
  unfold obB; rw [List.length_append]
  have : o.R.length * 200 ≤ 3000 * 200 := Nat.mul_le_mul_right _ this
  omega
attribute [go_sem] rnL_u8C idL_u8C
theorem W7ecca {A B : Prop} (h9 : B) (w : B → A := by (intro h9; (repeat intro K hK); refine ⟨?_⟩; (repeat (first | (first | (with_reducible first | refine AX_block ?_ | refine AX_skip ?_ | refine AX_exit ?_ | refine AX_ret ?_ | refine AX_ift ?_ | refine AX_iff ?_ | refine AX_seq_k (fun K hK => ?_) | refine ContX.use (by assumption) ?_) | simp only [thenX, inBlockX, if_true, if_false, reduceCtorEq]) | ((refine XRes_allocX tyOK (e := bT) (by rfl) (by rfl) (by rfl) ?_); (simp only [putL, List.set_cons_succ, List.set_cons_zero])) | (first | ((first | (with_reducible refine XRes_op tyOK ?_ ?_) | ((with_reducible first | refine ADF_op tyOK ?_ ?_ ?_ | refine ADX_op tyOK ?_ ?_ ?_); (focus rfl)) | (with_reducible refine ADR_alloc1 tyOK ?_ ?_) | ((with_reducible refine ADR_free1 tyOK ?_ ?_ ?_); (focus rfl)) | ((with_reducible refine ADR_free0 tyOK ?_ ?_ ?_); (focus rfl)) | ((with_reducible refine ADR_read1 tyOK ?_ ?_ ?_); (focus rfl)) | (with_reducible refine ADR_chg1 tyOK ?_ ?_)); (focus (first | (with_reducible rfl) | ((simp (disch := omega) only [go_sem]); done))); simp (disch := omega) only [go_sem , hs1, hs2, hs3, hs4, hs5, hs6, hs7, hs8, hs9, Int.toNat_zero, Int.toNat_one, Int.toNat_natCast, ba_size, ba_app, List.length_append, List.length_nil, List.length_cons, Nat.reduceAdd, u8C_len, List.length_set, flatR_s, flatR_k, flatR_n, flatR_r]; (first | (with_reducible refine XRes_id ?_) | (with_reducible refine ADF_id ?_) | (with_reducible refine ADR_id1 ?_) | (with_reducible refine ADX_id ?_))) | ((first | (with_reducible refine XRes_skip ?_ ?_) | (with_reducible refine ADF_skip (b := true) ?_ ?_) | (with_reducible refine ADX_skip ?_ ?_) | ((with_reducible refine ADR_skip1 ?_ ?_ ?_); (focus rfl))); (focus (first | rfl | ((simp (disch := omega) only [go_sem]); done))); (simp only [putL, List.set_cons_succ, List.set_cons_zero]))) | ((first | (with_reducible refine XRes_nil ?_) | (with_reducible refine ADF_nil ?_) | (with_reducible refine ADR_nil ?_) | (with_reducible refine ADX_nil ?_)); (first | refine hK _ ?_ | refine hK _ _ ?_); clear hK K) | (first | (first | refine XTL (by rfl) hk ?_ | refine ATL tyOK (by rfl) hk ?_ | refine XTL (by rfl) hW ?_ | refine ATL tyOK (by rfl) hW ?_ | refine XTL (by rfl) hW2 ?_ | refine ATL tyOK (by rfl) hW2 ?_) | ((refine XRes_slot (by rfl) rfl (hHd _) ?_); (rintro r H' ⟨rfl, rfl⟩); (simp only [putL, List.set_cons_succ, List.set_cons_zero])) | ((refine XRes_slot (by rfl) rfl (hRw _) ?_); (rintro r H' ⟨rfl, rfl⟩); (simp only [putL, List.set_cons_succ, List.set_cons_zero]))) | ((with_reducible refine AX_reg0 fun K hK => ?_); simp only [go_sem]))); refine Wk.o ?_; (repeat revert hK K); exact h9)) : A := w h9
set_option maxRecDepth 100000 in
set_option maxHeartbeats 4000000 in
theorem pf_oPrint (S Kn I : Int) (R : List Rw) (A : Int) (ho : ObSm ⟨S, Kn, I, R⟩) (hk : PF Tryd.prog 32 [obA ⟨S, Kn, I, R⟩] fun r H' => r = .tup [lt (.int .i64 A), lt (.int .i64 0)] ∧ H' = []) : PF Tryd.prog 25 [obA ⟨S, Kn, I, R⟩] fun r H' => r = .tup [lt (.string (ba (obB ⟨S, Kn, I, R⟩))), lt (.int .i64 0)] ∧ H' = [] := by
  refine SF.forgetAll ?_
  have hk0 := hk
  have hs1 := trivial; have hs2 := trivial; have hs3 := trivial; have hs4 := trivial; have hs5 := trivial; have hs6 := trivial; have hs7 := trivial; have hs8 := trivial; have hs9 := trivial; have hk := trivial; have hW := trivial; have hW2 := trivial; have hHd := trivial; have hRw := trivial
  have hk := hk0
  have hRl := ho.len
  have hhl := ho.headLen
  have hHd := fun H => PF.tells (H := H) (fun a ha => by simp only [List.mem_cons, List.not_mem_nil, or_false] at ha; subst ha; exact ids_idB rfl) (fun _ => rfl) (pf_ohead S Kn I R (fitS ho.S) (fitS ho.K) (fitS ho.I) (by have := ho.len; dsimp only at this; omega))
  have hhB : lineB wObj [S, Kn, I, R.length] = headB4 ⟨S, Kn, I, R⟩ := rfl
  rw [hhB] at hHd
  have htx := ho.txt
  have hrow := ho.row
  dsimp only at hRl htx hrow
  have hob : obB ⟨S, Kn, I, R⟩ = headB4 ⟨S, Kn, I, R⟩ ++ R.flatMap rowB4 := rfl
  rw [hob]
  have hbne : headB4 ⟨S, Kn, I, R⟩ ≠ [] := by unfold headB4 lineB wObj; simp
  generalize headB4 ⟨S, Kn, I, R⟩ = hb at *
  (refine SF_of_bodyX (aload tt) (aload_ok tyOK) Tryd.func25 rfl (by kernel_rfl) ?_; simp only [Tryd.ntmps25, List.length_cons, List.length_nil, Nat.reduceAdd, Nat.reduceSub, List.replicate_succ, List.replicate_zero, List.cons_append, List.nil_append])
  (refine Wk.o ?_; (repeat revert hK K); refine W7ecca ?_; (repeat intro K hK); refine ⟨?_⟩)
  refine XRes_cellNewO 1 5 1 1 _ rfl rfl ?_
  simp only [List.length_cons, List.length_nil, List.cons_append, List.nil_append, Nat.zero_add, Nat.reduceAdd, List.set_cons_succ, List.set_cons_zero]
  refine XRes_fn (by rfl) (sf_bws (o := 1) (q := 2) (l := []) (by rfl) (.inl rfl) (by rfl) (by decide) (by decide) hb (by omega)) ?_
  rintro r H1 ⟨rfl, rfl⟩
  (simp only [putL, List.set_cons_succ, List.set_cons_zero])
  (refine Wk.o ?_; (repeat revert hK K); refine W7ecca ?_; (repeat intro K hK); refine ⟨?_⟩)
  refine AX_ren [0, 1, 3] [] ?fr2 [some ⟨25, [lt (.int .i64 S), lt (.int .i64 Kn), lt (.int .i64 I), .iv (iRws R)]⟩, some ⟨bT, [.xptr 1 2, .osl 2 0 hb.length 1]⟩, some ⟨5, u8C hb⟩] (by decide) (by decide) (by (simp (disch := omega) only [go_sem, lint , hs1, hs2, hs3, hs4, hs5, hs6, hs7, hs8, hs9, Int.toNat_zero, Int.toNat_one, Int.toNat_natCast, ba_size, ba_app, List.length_append, List.length_nil, List.length_cons, Nat.reduceAdd, u8C_len, List.length_set, flatR_s, flatR_k, flatR_n, flatR_r])) (by (simp (disch := omega) only [go_sem, lint , hs1, hs2, hs3, hs4, hs5, hs6, hs7, hs8, hs9, Int.toNat_zero, Int.toNat_one, Int.toNat_natCast, ba_size, ba_app, List.length_append, List.length_nil, List.length_cons, Nat.reduceAdd, u8C_len, List.length_set, flatR_s, flatR_k, flatR_n, flatR_r])) (by (simp (disch := omega) only [go_sem, lint , hs1, hs2, hs3, hs4, hs5, hs6, hs7, hs8, hs9, Int.toNat_zero, Int.toNat_one, Int.toNat_natCast, ba_size, ba_app, List.length_append, List.length_nil, List.length_cons, Nat.reduceAdd, u8C_len, List.length_set, flatR_s, flatR_k, flatR_n, flatR_r])) ?hfr (fun d2 => ?_)
  case hfr =>
    (simp (disch := omega) only [go_sem, lint , hs1, hs2, hs3, hs4, hs5, hs6, hs7, hs8, hs9, Int.toNat_zero, Int.toNat_one, Int.toNat_natCast, ba_size, ba_app, List.length_append, List.length_nil, List.length_cons, Nat.reduceAdd, u8C_len, List.length_set, flatR_s, flatR_k, flatR_n, flatR_r])
    rfl
  simp only [deadS, List.set_cons_succ, List.set_cons_zero]
  (refine AWH (σ := Nat × List UInt8) [27, 28, 29, 10, 30, 31, 32, 33, 34] (fun (k, x) => [(26, lint k)]) (fun (k, x) => [some ⟨25, [lt (.int .i64 S), lt (.int .i64 Kn), lt (.int .i64 I), .iv (iRws R)]⟩, some ⟨bT, [.xptr 1 2, .osl 2 0 x.length 1]⟩, some ⟨5, u8C x⟩]) (fun (k, x) => []) (fun (k, x) => k ≤ R.length ∧ x = hb ++ (R.take k).flatMap rowB4) (fun (k, x) => R.length - k) (0, hb) (by first | exact ⟨Nat.zero_le _, by simp⟩) ?_; rintro ⟨k, x⟩ d fr hfr ⟨hk2, hx0⟩; simp only [updS, deadS, List.set_cons_succ, List.set_cons_zero, lint] at hfr; subst hfr; (try dsimp only))
  have hxl : x.length ≤ 200 + k * 200 := by rw [hx0, List.length_append]; have := htx k hk2; omega
  by_cases hlt : k < R.length
  · have hst := flat_step rowB4 ⟨0, 0, 0, 0⟩ hlt
    obtain ⟨r1, r2, r3, r4⟩ := hrow k hlt
    have hRw := fun H => PF.tells (H := H) (fun a ha => by simp only [List.mem_cons, List.not_mem_nil, or_false] at ha; subst ha; exact ids_idB rfl) (fun _ => rfl) (pf_orow (rwAt R k).s (rwAt R k).k (rwAt R k).n (rwAt R k).r (fitS r1) (fitS r2) (fitS r3) (fitS r4))
    have hnew : x ++ lineB wRow [(rwAt R k).s, (rwAt R k).k, (rwAt R k).n, (rwAt R k).r] = hb ++ (R.take (k + 1)).flatMap rowB4 := by rw [hst, hx0, List.append_assoc]; rfl
    have hll := lineB_len (w := wRow) (by decide) (fit4 (fitS r1) (fitS r2) (fitS r3) (fitS r4)) (Nat.le_refl 4)
    have hpos : (lineB wRow [(rwAt R k).s, (rwAt R k).k, (rwAt R k).n, (rwAt R k).r]).length ≠ 0 := by unfold lineB; simp
    generalize lineB wRow [(rwAt R k).s, (rwAt R k).k, (rwAt R k).n, (rwAt R k).r] = y at *
    (refine Wk.o ?_; (repeat revert hK K); refine W7ecca ?_; (repeat intro K hK); refine ⟨?_⟩)
    refine XRes_fn (by rfl) (sf_bws (o := 1) (q := 2) (l := x) (by rfl) (.inr rfl) (by rfl) (by decide) (by omega) y (by omega)) ?_
    rintro r H1 ⟨rfl, rfl⟩
    (simp only [putL, List.set_cons_succ, List.set_cons_zero])
    (refine Wk.o ?_; (repeat revert hK K); refine W7ecca ?_; (repeat intro K hK); refine ⟨?_⟩)
    exact whx_ren [0, 1, 4] (k + 1, x ++ y) ⟨by dsimp only; omega, hnew⟩ (by dsimp only; omega) rfl (by decide) (by decide) (by (simp (disch := omega) only [go_sem, lint , hs1, hs2, hs3, hs4, hs5, hs6, hs7, hs8, hs9, Int.toNat_zero, Int.toNat_one, Int.toNat_natCast, ba_size, ba_app, List.length_append, List.length_nil, List.length_cons, Nat.reduceAdd, u8C_len, List.length_set, flatR_s, flatR_k, flatR_n, flatR_r])) (by (simp (disch := omega) only [go_sem, lint , hs1, hs2, hs3, hs4, hs5, hs6, hs7, hs8, hs9, Int.toNat_zero, Int.toNat_one, Int.toNat_natCast, ba_size, ba_app, List.length_append, List.length_nil, List.length_cons, Nat.reduceAdd, u8C_len, List.length_set, flatR_s, flatR_k, flatR_n, flatR_r])) (by (simp (disch := omega) only [go_sem, lint , hs1, hs2, hs3, hs4, hs5, hs6, hs7, hs8, hs9, Int.toNat_zero, Int.toNat_one, Int.toNat_natCast, ba_size, ba_app, List.length_append, List.length_nil, List.length_cons, Nat.reduceAdd, u8C_len, List.length_set, flatR_s, flatR_k, flatR_n, flatR_r])) (fun d => by first | ((simp (disch := omega) only [go_sem, lint , hs1, hs2, hs3, hs4, hs5, hs6, hs7, hs8, hs9, Int.toNat_zero, Int.toNat_one, Int.toNat_natCast, ba_size, ba_app, List.length_append, List.length_nil, List.length_cons, Nat.reduceAdd, u8C_len, List.length_set, flatR_s, flatR_k, flatR_n, flatR_r]); done) | ((simp (disch := omega) only [go_sem, lint , hs1, hs2, hs3, hs4, hs5, hs6, hs7, hs8, hs9, Int.toNat_zero, Int.toNat_one, Int.toNat_natCast, ba_size, ba_app, List.length_append, List.length_nil, List.length_cons, Nat.reduceAdd, u8C_len, List.length_set, flatR_s, flatR_k, flatR_n, flatR_r]); rfl))
  · obtain rfl : k = R.length := by omega
    rw [List.take_length] at hx0
    (refine Wk.o ?_; (repeat revert hK K); refine W7ecca ?_; (repeat intro K hK); refine ⟨?_⟩)
    refine XRes_fn (by rfl) (sf_bstr (o := 1) (q := 2) (l := x) (by rfl) (by rfl) (by intro e; rw [hx0] at e; exact hbne (List.append_eq_nil_iff.1 e).1) (by omega)) ?_
    rintro r H1 ⟨rfl, rfl⟩
    (simp only [putL, List.set_cons_succ, List.set_cons_zero])
    (refine Wk.o ?_; (repeat revert hK K); refine W7ecca ?_; (repeat intro K hK); refine ⟨?_⟩)
    (simp only [bodyX]; refine ⟨_, by simp only [aresults, aresult, XS.as, Tryd.results25, aload, go_sem, Option.bind_some]; rfl, ?_⟩)
    exact ⟨ids_idB rfl, by rw [← hx0]; rfl, trivial⟩
end Go.Proofs.YtdaenbgjafalcaaDoor
namespace Go.Proofs.YtdaenbgjafalcaaDoor
open Go.RowKit Go.Lib
set_option linter.unusedVariables false
set_option linter.unusedSimpArgs false
theorem Wba97a {A B : Prop} (h9 : B) (w : B → A := by (intro h9; (repeat intro K hK); refine ⟨?_⟩; (repeat (first | (first | (with_reducible first | refine AX_block ?_ | refine AX_skip ?_ | refine AX_exit ?_ | refine AX_ret ?_ | refine AX_ift ?_ | refine AX_iff ?_ | refine AX_seq_k (fun K hK => ?_) | refine ContX.use (by assumption) ?_) | simp only [thenX, inBlockX, if_true, if_false, reduceCtorEq]) | ((first | (refine XRes_litF tyOK (by rfl) rfl (by decide) rfl rfl ?_) | (refine ADF_litF tyOK (by rfl) rfl (by decide) rfl rfl ?_)); (simp only [List.map_cons, List.map_nil, intOf, putL, List.set_cons_succ, List.set_cons_zero])) | (first | ((first | (with_reducible refine XRes_op tyOK ?_ ?_) | ((with_reducible first | refine ADF_op tyOK ?_ ?_ ?_ | refine ADX_op tyOK ?_ ?_ ?_); (focus rfl)) | (with_reducible refine ADR_alloc1 tyOK ?_ ?_) | ((with_reducible refine ADR_free1 tyOK ?_ ?_ ?_); (focus rfl)) | ((with_reducible refine ADR_free0 tyOK ?_ ?_ ?_); (focus rfl)) | ((with_reducible refine ADR_read1 tyOK ?_ ?_ ?_); (focus rfl)) | (with_reducible refine ADR_chg1 tyOK ?_ ?_)); (focus (first | (with_reducible rfl) | ((simp (disch := omega) only [go_sem]); done))); simp (disch := omega) only [go_sem , hs1, hs2, hs3, hs4, hs5, hs6, hs7, hs8, hs9, Int.toNat_zero, Int.toNat_one, Int.toNat_natCast, ba_size, ba_app, List.length_append, List.length_nil, List.length_cons, Nat.reduceAdd, flatR_s, flatR_k, flatR_n, flatR_r]; (first | (with_reducible refine XRes_id ?_) | (with_reducible refine ADF_id ?_) | (with_reducible refine ADR_id1 ?_) | (with_reducible refine ADX_id ?_))) | ((first | (with_reducible refine XRes_skip ?_ ?_) | (with_reducible refine ADF_skip (b := true) ?_ ?_) | (with_reducible refine ADX_skip ?_ ?_) | ((with_reducible refine ADR_skip1 ?_ ?_ ?_); (focus rfl))); (focus (first | rfl | ((simp (disch := omega) only [go_sem]); done))); (simp only [putL, List.set_cons_succ, List.set_cons_zero]))) | ((first | (with_reducible refine XRes_nil ?_) | (with_reducible refine ADF_nil ?_) | (with_reducible refine ADR_nil ?_) | (with_reducible refine ADX_nil ?_)); (first | refine hK _ ?_ | refine hK _ _ ?_); clear hK K) | (first | (first | refine XTL (by rfl) hk ?_ | refine ATL tyOK (by rfl) hk ?_ | refine XTL (by rfl) hW ?_ | refine ATL tyOK (by rfl) hW ?_ | refine XTL (by rfl) hW2 ?_ | refine ATL tyOK (by rfl) hW2 ?_)) | ((with_reducible refine AX_reg0 fun K hK => ?_); simp only [go_sem]) | ((refine AX_drawG1 tyOK (by kernel_rfl) (by rfl) (by kernel_rfl) fun K hK => ?_); (first | simp only [go_sem, preN, effOp, runF, alM, mapOp, alD2, kdOf2, Bool.not_false, Bool.not_true, reduceCtorEq] | simp only [go_sem, preN, effOp, runF, alM, mapOp, Bool.not_false, Bool.not_true, reduceCtorEq] | simp only [go_sem, preN, effOp, runF, alD2, kdOf2, Bool.not_false, Bool.not_true, reduceCtorEq] | simp only [go_sem, alD2, kdOf2, Bool.not_false, Bool.not_true, reduceCtorEq] | simp only [go_sem, preN, effOp, runF, Bool.not_false, Bool.not_true, reduceCtorEq] | simp only [go_sem])))); refine Wk.o ?_; (repeat revert hK K); exact h9)) : A := w h9
set_option maxRecDepth 100000 in
set_option maxHeartbeats 4000000 in
theorem pf_roPrint (S Kn I : Int) (R : List Rw) (A : Int) (ho : ObSm ⟨S, Kn, I, R⟩) (hk : PF Tryd.prog 35 [obA ⟨S, Kn, I, R⟩] fun r H' => r = .tup [lt (.int .i64 A), lt (.int .i64 0)] ∧ H' = []) : PF Tryd.prog 30 [obA ⟨S, Kn, I, R⟩] fun r H' => r = .tup [lt (.string (ba (obB ⟨S, Kn, I, R⟩))), lt (.int .i64 0)] ∧ H' = [] := by
  refine SF.forgetAll ?_
  have hk0 := hk
  have hs1 := trivial; have hs2 := trivial; have hs3 := trivial; have hs4 := trivial; have hs5 := trivial; have hs6 := trivial; have hs7 := trivial; have hs8 := trivial; have hs9 := trivial; have hk := trivial; have hW := trivial; have hW2 := trivial
  have hk := hk0
  have hRl := ho.len
  have hhl := ho.headLen
  dsimp only at hRl
  have hW := pf_rWords wObj [S, Kn, I, R.length] (by decide) (Nat.le_refl 4) (fit4 (fitS ho.S) (fitS ho.K) (fitS ho.I) ⟨by omega, by omega⟩)
  have hhB : lineB wObj [S, Kn, I, R.length] = headB4 ⟨S, Kn, I, R⟩ := rfl
  rw [hhB] at hW
  have htx := ho.txt
  have hrow := ho.row
  dsimp only at htx hrow
  have hob : obB ⟨S, Kn, I, R⟩ = headB4 ⟨S, Kn, I, R⟩ ++ R.flatMap rowB4 := rfl
  rw [hob]
  generalize headB4 ⟨S, Kn, I, R⟩ = hb at *
  (refine SF_of_bodyX (aload tt) (aload_ok tyOK) Tryd.func30 rfl (by kernel_rfl) ?_; simp only [Tryd.ntmps30, List.length_cons, List.length_nil, Nat.reduceAdd, Nat.reduceSub, List.replicate_succ, List.replicate_zero, List.cons_append, List.nil_append])
  (refine Wk.o ?_; (repeat revert hK K); refine Wba97a ?_; (repeat intro K hK); refine ⟨?_⟩)
  (refine AWH (σ := Nat × List UInt8) [28, 29, 30, 31, 32, 35, 36, 37, 38, 39, 8, 40, 41, 42, 43, 44, 45, 46, 47, 48, 49, 50, 51, 33, 34] (fun (k, x) => [(7, lint k), (6, lt (.string (ba x)))]) (fun (k, x) => [some ⟨25, [lt (.int .i64 S), lt (.int .i64 Kn), lt (.int .i64 I), .iv (iRws R)]⟩]) (fun (k, x) => []) (fun (k, x) => k ≤ R.length ∧ x = hb ++ (R.take k).flatMap rowB4) (fun (k, x) => R.length - k) (0, hb) (by first | exact ⟨Nat.zero_le _, by simp⟩) ?_; rintro ⟨k, x⟩ d fr hfr ⟨hk2, hx0⟩; simp only [updS, deadS, List.set_cons_succ, List.set_cons_zero, lint] at hfr; subst hfr; (try dsimp only))
  have hxl : x.length ≤ 200 + k * 200 := by rw [hx0, List.length_append]; have := htx k hk2; omega
  by_cases hlt : k < R.length
  · have hst := flat_step rowB4 ⟨0, 0, 0, 0⟩ hlt
    obtain ⟨r1, r2, r3, r4⟩ := hrow k hlt
    have hW2 := pf_rWords wRow [(rwAt R k).s, (rwAt R k).k, (rwAt R k).n, (rwAt R k).r] (by decide) (Nat.le_refl 4) (fit4 (fitS r1) (fitS r2) (fitS r3) (fitS r4))
    have hnew : x ++ lineB wRow [(rwAt R k).s, (rwAt R k).k, (rwAt R k).n, (rwAt R k).r] = hb ++ (R.take (k + 1)).flatMap rowB4 := by rw [hst, hx0, List.append_assoc]; rfl
    have hll := lineB_len (w := wRow) (by decide) (fit4 (fitS r1) (fitS r2) (fitS r3) (fitS r4)) (Nat.le_refl 4)
    generalize lineB wRow [(rwAt R k).s, (rwAt R k).k, (rwAt R k).n, (rwAt R k).r] = y at *
    (refine Wk.o ?_; (repeat revert hK K); refine Wba97a ?_; (repeat intro K hK); refine ⟨?_⟩)
    exact whx_ren [0] (k + 1, x ++ y) ⟨by dsimp only; omega, hnew⟩ (by dsimp only; omega) rfl (by decide) (by decide) (by (simp (disch := omega) only [go_sem, lint , hs1, hs2, hs3, hs4, hs5, hs6, hs7, hs8, hs9, Int.toNat_zero, Int.toNat_one, Int.toNat_natCast, ba_size, ba_app, List.length_append, List.length_nil, List.length_cons, Nat.reduceAdd, flatR_s, flatR_k, flatR_n, flatR_r])) (by (simp (disch := omega) only [go_sem, lint , hs1, hs2, hs3, hs4, hs5, hs6, hs7, hs8, hs9, Int.toNat_zero, Int.toNat_one, Int.toNat_natCast, ba_size, ba_app, List.length_append, List.length_nil, List.length_cons, Nat.reduceAdd, flatR_s, flatR_k, flatR_n, flatR_r])) (by (simp (disch := omega) only [go_sem, lint , hs1, hs2, hs3, hs4, hs5, hs6, hs7, hs8, hs9, Int.toNat_zero, Int.toNat_one, Int.toNat_natCast, ba_size, ba_app, List.length_append, List.length_nil, List.length_cons, Nat.reduceAdd, flatR_s, flatR_k, flatR_n, flatR_r])) (fun d => by first | ((simp (disch := omega) only [go_sem, lint , hs1, hs2, hs3, hs4, hs5, hs6, hs7, hs8, hs9, Int.toNat_zero, Int.toNat_one, Int.toNat_natCast, ba_size, ba_app, List.length_append, List.length_nil, List.length_cons, Nat.reduceAdd, flatR_s, flatR_k, flatR_n, flatR_r]); done) | ((simp (disch := omega) only [go_sem, lint , hs1, hs2, hs3, hs4, hs5, hs6, hs7, hs8, hs9, Int.toNat_zero, Int.toNat_one, Int.toNat_natCast, ba_size, ba_app, List.length_append, List.length_nil, List.length_cons, Nat.reduceAdd, flatR_s, flatR_k, flatR_n, flatR_r]); rfl))
  · obtain rfl : k = R.length := by omega
    rw [List.take_length] at hx0
    (refine Wk.o ?_; (repeat revert hK K); refine Wba97a ?_; (repeat intro K hK); refine ⟨?_⟩)
    (simp only [bodyX]; refine ⟨_, by simp only [aresults, aresult, XS.as, Tryd.results30, aload, go_sem, Option.bind_some]; rfl, ?_⟩)
    exact ⟨ids_idB rfl, by rw [← hx0], trivial⟩
end Go.Proofs.YtdaenbgjafalcaaDoor
namespace Go.Proofs.YtdaenbgjafalcaaDoor
open Go.RowKit
set_option linter.unusedVariables false
end Go.Proofs.YtdaenbgjafalcaaDoor
