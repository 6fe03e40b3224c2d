import Derived.Test.YtdaenbgjafalcaaDoorMgBC
import Derived.Test.YtdaenbgjafalcaaDoorMgBG
import Derived.Test.YtdaenbgjafalcaaDoorMgAT
import Derived.Test.YtdaenbgjafalcaaDoorMgAP
namespace Go.Proofs.YtdaenbgjafalcaaDoor
open Go.RowKit Go.Lib
set_option linter.unusedVariables false
set_option linter.unusedSimpArgs false
theorem Snap.quad {H : AHeap} {x y z u x' y' z' u' : AV} (h : Snap H x x') (k : Snap H y y') (l : Snap H z z') (m : Snap H u u') : Snap H (.tup [x, y, z, u]) (.tup [x', y', z', u']) := .tup _ _ rfl fun i a b e1 e2 => by
  match i with
  | 0 => simp at e1 e2; subst e1 e2; exact h
  | 1 => simp at e1 e2; subst e1 e2; exact k
  | 2 => simp at e1 e2; subst e1 e2; exact l
  | 3 => simp at e1 e2; subst e1 e2; exact m
  | i + 4 => simp at e1
theorem snap_ob {H : AHeap} {o n : Nat} {t : TypeId} {S K I : Int} {R : List Rw} (h : H[o]? = some (some ⟨t, (flatR R).map lint⟩)) (hn : n = R.length) : Snap H (.agg [lt (.int .i64 S), lt (.int .i64 K), lt (.int .i64 I), .osl o 0 n 4]) (obA ⟨S, K, I, R⟩) := by
  subst hn
  refine .agg _ _ rfl (fun i a b e1 e2 => ?_) rfl
  match i with
  | 0 => simp at e1 e2; subst e1 e2; exact .same _ (.iv _)
  | 1 => simp at e1 e2; subst e1 e2; exact .same _ (.iv _)
  | 2 => simp at e1 e2; subst e1 e2; exact .same _ (.iv _)
  | 3 => simp at e1 e2; subst e1 e2; exact snap_flat h (by decide) (flatR_len R)
  | i + 4 => simp at e1
theorem snap_ob0 {H : AHeap} : Snap H (.agg [lt (.int .i64 0), lt (.int .i64 0), lt (.int .i64 0), lt (.slice none 0 0)]) (obA ob0) := by
  refine .agg _ _ rfl (fun i a b e1 e2 => ?_) rfl
  match i with
  | 0 => simp at e1 e2; subst e1 e2; exact .same _ (.iv _)
  | 1 => simp at e1 e2; subst e1 e2; exact .same _ (.iv _)
  | 2 => simp at e1 e2; subst e1 e2; exact .same _ (.iv _)
  | 3 => simp at e1 e2; subst e1 e2; exact .iv _ _ (.nil _ _)
  | i + 4 => simp at e1
theorem snap_ls0 {H : AHeap} : Snap H (lt (.slice none 0 0)) (.iv (iLs [])) := .iv _ _ (.nil _ _)
theorem W4c74a {A B : Prop} (h9 : B) (w : B → A := by (intro h9; (repeat intro K hK); refine ⟨?_⟩; (repeat (first | (first | (with_reducible first | refine AX_block ?_ | refine AX_skip ?_ | refine AX_exit ?_ | refine AX_ret ?_ | refine AX_ift ?_ | refine AX_iff ?_ | refine AX_seq_k (fun K hK => ?_) | refine ContX.use (by assumption) ?_) | simp only [thenX, inBlockX, if_true, if_false, reduceCtorEq]) | (first | ((first | (with_reducible refine XRes_op tyOK ?_ ?_) | ((with_reducible first | refine ADF_op tyOK ?_ ?_ ?_ | refine ADX_op tyOK ?_ ?_ ?_); (focus rfl)) | (with_reducible refine ADR_alloc1 tyOK ?_ ?_) | ((with_reducible refine ADR_free1 tyOK ?_ ?_ ?_); (focus rfl)) | ((with_reducible refine ADR_free0 tyOK ?_ ?_ ?_); (focus rfl)) | ((with_reducible refine ADR_read1 tyOK ?_ ?_ ?_); (focus rfl)) | (with_reducible refine ADR_chg1 tyOK ?_ ?_)); (focus (first | (with_reducible rfl) | ((simp (disch := omega) only [go_sem]); done))); simp (disch := omega) only [go_sem , hg0, hg1, hg2, hg3, hs1, hs2, hs3, hs4, hs5, hs6, hs7, hs8, hs9, hsa, hsb, Int.toNat_zero, Int.toNat_one, Int.reduceToNat, Nat.reduceMul, Nat.reduceAdd, Nat.zero_add, Nat.one_mul, Int.toNat_natCast, Nat.reduceEqDiff, List.length_map, List.length_cons, List.length_nil, flatR_len]; (first | (with_reducible refine XRes_id ?_) | (with_reducible refine ADF_id ?_) | (with_reducible refine ADR_id1 ?_) | (with_reducible refine ADX_id ?_))) | ((first | (with_reducible refine XRes_skip ?_ ?_) | (with_reducible refine ADF_skip (b := true) ?_ ?_) | (with_reducible refine ADX_skip ?_ ?_) | ((with_reducible refine ADR_skip1 ?_ ?_ ?_); (focus rfl))); (focus (first | rfl | ((simp (disch := omega) only [go_sem]); done))); (simp only [putL, List.set_cons_succ, List.set_cons_zero]))) | ((first | (with_reducible refine XRes_nil ?_) | (with_reducible refine ADF_nil ?_) | (with_reducible refine ADR_nil ?_) | (with_reducible refine ADX_nil ?_)); (first | refine hK _ ?_ | refine hK _ _ ?_); clear hK K) | (first | (first | refine XTL (by rfl) pf_four ?_ | refine ATL tyOK (by rfl) pf_four ?_ | refine XTL (by rfl) hX1 ?_ | refine ATL tyOK (by rfl) hX1 ?_ | refine XTL (by rfl) hN1 ?_ | refine ATL tyOK (by rfl) hN1 ?_ | refine XTL (by rfl) hX2 ?_ | refine ATL tyOK (by rfl) hX2 ?_ | refine XTL (by rfl) hN2 ?_ | refine ATL tyOK (by rfl) hN2 ?_)) | ((with_reducible refine AX_reg0 fun K hK => ?_); simp only [go_sem]) | ((refine AX_drawG1 tyOK (by kernel_rfl) (by rfl) (by kernel_rfl) fun K hK => ?_); (first | simp only [go_sem, preN, effOp, runF, alM, mapOp, alD2, kdOf2, Bool.not_false, Bool.not_true, reduceCtorEq] | simp only [go_sem, preN, effOp, runF, alM, mapOp, Bool.not_false, Bool.not_true, reduceCtorEq] | simp only [go_sem, preN, effOp, runF, alD2, kdOf2, Bool.not_false, Bool.not_true, reduceCtorEq] | simp only [go_sem, alD2, kdOf2, Bool.not_false, Bool.not_true, reduceCtorEq] | simp only [go_sem, preN, effOp, runF, Bool.not_false, Bool.not_true, reduceCtorEq] | simp only [go_sem])))); refine Wk.o ?_; (repeat revert hK K); exact h9)) : A := w h9
set_option maxRecDepth 100000 in
set_option maxHeartbeats 8000000 in
theorem pf_Take (L : List (List Tok3)) (z : Int) (hL : LsOK L) :
    PF Tryd.prog 17 [.iv (iLs L), lt (.int .i64 z)] fun r H' => r = .tup [obA (takeP L z).1, .iv (iLs (takeP L z).2.1), lt (.int .i64 (takeP L z).2.2.1), lt (.int .i64 (takeP L z).2.2.2)] ∧ H' = [] := by
  refine SF.frozen ?_
  have hg0 := trivial; have hg1 := trivial; have hg2 := trivial; have hg3 := trivial; have hs1 := trivial; have hs2 := trivial; have hs3 := trivial; have hs4 := trivial; have hs5 := trivial; have hs6 := trivial; have hs7 := trivial; have hs8 := trivial; have hs9 := trivial; have hsa := trivial; have hsb := trivial; have hX1 := trivial; have hN1 := trivial; have hX2 := trivial; have hN2 := trivial
  have hX1 := pf_next L hL
  obtain ⟨hT1, hL1⟩ := nxt_ok hL
  have hN1 := pf_nums (nxt L).1 wObj lo4 hi4 z hT1 (by decide) (by decide)
  have hll := nxt_len L
  have hq1 : nums (nxt L).1 wObj lo4 hi4 z = tq L z := rfl
  rw [hq1] at hN1
  by_cases he : (tq L z).2.2 = 0
  · obtain ⟨hne, hn4, hz1, hnb⟩ := nums_ok (T := (nxt L).1) (w := wObj) (z := z) he
    rw [hq1] at hn4 hz1 hnb
    obtain ⟨e1, e2, e3⟩ := tokL_atL (T := (nxt L).1) (k := 0) (by omega)
    have hpos0 := hT1.pos 0
    have hlenT := hT1.len
    have hg : tg L z = rowsGo z ((tq L z).1.getD 3 0).toNat (nxt L).2 [] [] := rfl
    have hpg := fun h1 => takeP_g (L := L) (z := z) he h1
    have hpo := fun h1 => takeP_o (L := L) (z := z) he h1
    have hob : tob L z = ⟨(tq L z).1.getD 0 0, (tq L z).1.getD 1 0, (tq L z).1.getD 2 0, (tg L z).1⟩ := rfl
    have b0 := hnb 0; have b1 := hnb 1; have b2 := hnb 2; have b3 := hnb 3
    have hs5 : (tokL (nxt L).1).getD 1 undef = _ := e2
    rw [hob] at hpo
    clear hob hq1 hnb e1 e2 e3
    generalize ((nxt L).1.getD 0 tok0).2.1 = p0 at *
    generalize takeP L z = Q at *
    generalize tg L z = G at *
    generalize tq L z = q at *
    obtain ⟨n, at1, e1⟩ := q
    dsimp only at *
    have hz1 := hz1.symm
    subst he hz1
    rw [show iInts n = .sl (fun j => .lit (.int .i64 (n.getD j 0))) n.length 1 from rfl] at hN1
    have hs2 := hn4
    have hs3 : iTokL (nxt L).1 = .sl (fun j => .lit ((tokL (nxt L).1).getD j undef)) (nxt L).1.length 3 := rfl
    generalize hg0 : n.getD 0 0 = S at *
    generalize hg1 : n.getD 1 0 = Kn at *
    generalize hg2 : n.getD 2 0 = I at *
    generalize hg3 : n.getD 3 0 = n3 at *
    (refine SF_of_bodyX (aload tt) (aload_ok tyOK) Tryd.func17 rfl (by kernel_rfl) ?_; simp only [Tryd.ntmps17, List.length_cons, List.length_nil, Nat.reduceAdd, Nat.reduceSub, List.replicate_succ, List.replicate_zero, List.cons_append, List.nil_append])
    (refine Wk.o ?_; (repeat revert hK K); refine W4c74a ?_; (repeat intro K hK); refine ⟨?_⟩)
    refine AX_drawLk (fun _ => True) 11 [.free, .free, .free, .free, .free, .free, .free, .free, .free, .free, .chg] [false, false, true, false, false, true, false, false, true, false, true] (by kernel_rfl) (by decide +kernel) (by decide +kernel) trivial fun K hK => ?_
    simp only [go_sem]
    repeat (first | (first | ((with_reducible refine ADL_free tyOK ?_ ?_ ?_); (focus rfl); (focus (first | (with_reducible rfl) | ((simp (disch := omega) only [go_sem]); done))); simp (disch := omega) only [go_sem , hg0, hg1, hg2, hg3, hs1, hs2, hs3, hs4, hs5, hs6, hs7, hs8, hs9, hsa, hsb, Int.toNat_zero, Int.toNat_one, Int.reduceToNat, Nat.reduceMul, Nat.reduceAdd, Nat.zero_add, Nat.one_mul, Int.toNat_natCast, Nat.reduceEqDiff, List.length_map, List.length_cons, List.length_nil, flatR_len]; (with_reducible refine ADL_id ?_)) | ((refine ADL_look tyOK (by rfl) (by rfl) (fun H hS => by first | (simp only [go_sem, hS , hg0, hg1, hg2, hg3, hs1, hs2, hs3, hs4, hs5, hs6, hs7, hs8, hs9, hsa, hsb, Int.toNat_zero, Int.toNat_one, Int.reduceToNat, Nat.reduceMul, Nat.reduceAdd, Nat.zero_add, Nat.one_mul, Int.toNat_natCast, Nat.reduceEqDiff, List.length_map, List.length_cons, List.length_nil, flatR_len]; rfl) | (simp (disch := omega) only [go_sem , hg0, hg1, hg2, hg3, hs1, hs2, hs3, hs4, hs5, hs6, hs7, hs8, hs9, hsa, hsb, Int.toNat_zero, Int.toNat_one, Int.reduceToNat, Nat.reduceMul, Nat.reduceAdd, Nat.zero_add, Nat.one_mul, Int.toNat_natCast, Nat.reduceEqDiff, List.length_map, List.length_cons, List.length_nil, flatR_len]; rfl)) ?_); (simp only [putL, List.set_cons_succ, List.set_cons_zero])) | ((with_reducible refine ADL_chg tyOK ?_ ?_ ?_); (focus (simp only [List.length_cons]; omega)); (focus (first | (with_reducible rfl) | ((simp (disch := omega) only [go_sem]); done))); simp (disch := omega) only [go_sem , hg0, hg1, hg2, hg3, hs1, hs2, hs3, hs4, hs5, hs6, hs7, hs8, hs9, hsa, hsb, Int.toNat_zero, Int.toNat_one, Int.reduceToNat, Nat.reduceMul, Nat.reduceAdd, Nat.zero_add, Nat.one_mul, Int.toNat_natCast, Nat.reduceEqDiff, List.length_map, List.length_cons, List.length_nil, flatR_len]; (first | (refine ⟨(by decide), (fun hh => by first | trivial | rfl | cases hh), ?_⟩) | (refine ⟨(by decide), ?_⟩) | (refine ⟨(fun hh => by first | trivial | rfl | cases hh), ?_⟩) | skip); (with_reducible refine ADL_id ?_))) | ((refine ADL_nil ?_); (refine hK _ _ _ (by simp only [List.length_cons]; omega) ?_); clear hK K))
    (refine Wk.o ?_; (repeat revert hK K); refine W4c74a ?_; (repeat intro K hK); refine ⟨?_⟩)
    refine AX_cellNew 0 98 4 3 _ rfl rfl ?_
    refine AX_nil 12 3 1 rfl ?_
    simp only [List.length_cons, List.length_nil, List.cons_append, List.nil_append, Nat.zero_add, Nat.reduceAdd, List.set_cons_succ, List.set_cons_zero]
    have hinit : ([] : List Int).map lint = [] := rfl
    (refine AX_wh (σ := Nat × List (List Tok3) × List Rw × List Int) [56, 13, 58, 59, 57, 60, 61, 63, 64, 65, 66, 67, 62, 68, 69, 70, 14, 15, 16, 71, 72, 73, 74, 75, 6, 7, 76, 77, 78, 79, 80, 81, 82, 83, 84, 85, 86, 87, 88, 89, 90, 91, 92, 93, 94, 95, 96, 97, 98, 99, 100, 101] (fun (i, L2, R, P) => [(55, lint i), (5, .iv (iLs L2)), (12, .osl 2 0 P.length 1)]) (fun (i, L2, R, P) => [some ⟨25, [lt (.int .i64 S), lt (.int .i64 Kn), lt (.int .i64 I), .osl 1 0 R.length 4]⟩, some ⟨98, (flatR R).map lint⟩, some ⟨3, P.map lint⟩]) (fun (i, L2, R, P) => []) (fun (i, L2, R, P) => i ≤ n3.toNat ∧ G = rowsGo z (n3.toNat - i) L2 R P ∧ R.length = i ∧ P.length = i ∧ LsOK L2 ∧ L2.length + i ≤ L.length) (fun (i, L2, R, P) => n3.toNat - i) (0, (nxt L).2, [], []) (fun d => by first | ((simp only [deadS, updS, List.set_cons_succ, List.set_cons_zero, lint, List.length_nil, List.length_cons]); done) | ((simp only [deadS, updS, List.set_cons_succ, List.set_cons_zero, lint, List.length_nil, List.length_cons]); rfl) | rfl) (by first | (with_reducible rfl) | (simp only [hinit]; done) | rfl) (by first | (with_reducible rfl) | rfl) (by first | exact ⟨Nat.zero_le _, hg, rfl, rfl, hL1, by omega⟩) ?_; rintro ⟨i, L2, R, P⟩ d fr hfr ⟨hi, hgo, hRi, hPi, hL2, hLi⟩; simp only [updS, deadS, List.set_cons_succ, List.set_cons_zero, lint] at hfr; subst hfr; (try dsimp only))
    have hlenL := hL.len
    clear hg
    by_cases hlt : i < n3.toNat
    · have hs6 : decide ((i : Int) < n3) = true := decide_eq_true (by omega)
      have hX2 := pf_next L2 hL2
      obtain ⟨hT2, hL3⟩ := nxt_ok hL2
      have hN2 := pf_nums (nxt L2).1 wRow lo4 hi4 z hT2 (by decide) (by decide)
      have hll2 := nxt_len L2
      obtain ⟨m, hm⟩ : ∃ m, n3.toNat - i = m + 1 := ⟨n3.toNat - i - 1, by omega⟩
      rw [hm] at hgo
      by_cases he2 : (nums (nxt L2).1 wRow lo4 hi4 z).2.2 = 0
      · obtain ⟨hne2, hm4, hz2, hnb2⟩ := nums_ok he2
        have hnx := nxt_lt L2 hne2
        rw [rowsGo_ok he2] at hgo
        obtain ⟨f1, f2, f3⟩ := tokL_atL (T := (nxt L2).1) (k := 0) (by omega)
        have hs7 : (tokL (nxt L2).1).getD 1 undef = _ := f2
        have hlenT2 := hT2.len
        have hpos2 := hT2.pos 0
        have c0 := hnb2 0; have c1 := hnb2 1; have c2 := hnb2 2; have c3 := hnb2 3
        clear f1 f2 f3 hnb2
        generalize ((nxt L2).1.getD 0 tok0).2.1 = p2 at *
        generalize nums (nxt L2).1 wRow lo4 hi4 z = q2 at *
        obtain ⟨n2, at2, e2⟩ := q2
        dsimp only at *
        have hz2 := hz2.symm
        subst he2 hz2
        rw [show iInts n2 = .sl (fun j => .lit (.int .i64 (n2.getD j 0))) n2.length 1 from rfl] at hN2
        have hs4 := hm4
        have hs8 : iTokL (nxt L2).1 = .sl (fun j => .lit ((tokL (nxt L2).1).getD j undef)) (nxt L2).1.length 3 := rfl
        have hs9 := flatR_snoc R n2
        have hsa : ((flatR R).map lint).take (R.length * 4) = (flatR R).map lint := List.take_of_length_le (by rw [List.length_map, flatR_len]; exact Nat.le_refl _)
        have hlR : (R ++ [rwOf n2]).length = R.length + 1 := by simp
        have hlP : (P ++ [p2]).length = P.length + 1 := by simp
        (refine Wk.o ?_; (repeat revert hK K); refine W4c74a ?_; (repeat intro K hK); refine ⟨?_⟩)
        refine AX_drawLk (fun H => H[0]? = some (some ⟨25, [lt (.int .i64 S), lt (.int .i64 Kn), lt (.int .i64 I), .osl 1 0 R.length 4]⟩)) 18 [.free, .free, .free, .free, .free, .free, .free, .free, .free, .free, .free, .free, .free, .free, .free, .chg, .chg, .free, .chg] [false, true, false, false, true, false, false, true, false, false, true, false, false, true, false, true, true, false, false] (by kernel_rfl) (by decide +kernel) (by decide +kernel) rfl fun K hK => ?_
        simp only [go_sem]
        repeat (first | (first | ((with_reducible refine ADL_free tyOK ?_ ?_ ?_); (focus rfl); (focus (first | (with_reducible rfl) | ((simp (disch := omega) only [go_sem]); done))); simp (disch := omega) only [go_sem , hg0, hg1, hg2, hg3, hs1, hs2, hs3, hs4, hs5, hs6, hs7, hs8, hs9, hsa, hsb, Int.toNat_zero, Int.toNat_one, Int.reduceToNat, Nat.reduceMul, Nat.reduceAdd, Nat.zero_add, Nat.one_mul, Int.toNat_natCast, Nat.reduceEqDiff, List.length_map, List.length_cons, List.length_nil, flatR_len]; (with_reducible refine ADL_id ?_)) | ((refine ADL_look tyOK (by rfl) (by rfl) (fun H hS => by first | (simp only [go_sem, hS , hg0, hg1, hg2, hg3, hs1, hs2, hs3, hs4, hs5, hs6, hs7, hs8, hs9, hsa, hsb, Int.toNat_zero, Int.toNat_one, Int.reduceToNat, Nat.reduceMul, Nat.reduceAdd, Nat.zero_add, Nat.one_mul, Int.toNat_natCast, Nat.reduceEqDiff, List.length_map, List.length_cons, List.length_nil, flatR_len]; rfl) | (simp (disch := omega) only [go_sem , hg0, hg1, hg2, hg3, hs1, hs2, hs3, hs4, hs5, hs6, hs7, hs8, hs9, hsa, hsb, Int.toNat_zero, Int.toNat_one, Int.reduceToNat, Nat.reduceMul, Nat.reduceAdd, Nat.zero_add, Nat.one_mul, Int.toNat_natCast, Nat.reduceEqDiff, List.length_map, List.length_cons, List.length_nil, flatR_len]; rfl)) ?_); (simp only [putL, List.set_cons_succ, List.set_cons_zero])) | ((with_reducible refine ADL_chg tyOK ?_ ?_ ?_); (focus (simp only [List.length_cons]; omega)); (focus (first | (with_reducible rfl) | ((simp (disch := omega) only [go_sem]); done))); simp (disch := omega) only [go_sem , hg0, hg1, hg2, hg3, hs1, hs2, hs3, hs4, hs5, hs6, hs7, hs8, hs9, hsa, hsb, Int.toNat_zero, Int.toNat_one, Int.reduceToNat, Nat.reduceMul, Nat.reduceAdd, Nat.zero_add, Nat.one_mul, Int.toNat_natCast, Nat.reduceEqDiff, List.length_map, List.length_cons, List.length_nil, flatR_len]; (first | (refine ⟨(by decide), (fun hh => by first | trivial | rfl | cases hh), ?_⟩) | (refine ⟨(by decide), ?_⟩) | (refine ⟨(fun hh => by first | trivial | rfl | cases hh), ?_⟩) | skip); (with_reducible refine ADL_id ?_))) | ((refine ADL_nil ?_); (refine hK _ _ _ (by simp only [List.length_cons]; omega) ?_); clear hK K))
        (refine Wk.o ?_; (repeat revert hK K); refine W4c74a ?_; (repeat intro K hK); refine ⟨?_⟩)
        exact whx_ren [0, 4, 6] (i + 1, (nxt L2).2, R ++ [rwOf n2], P ++ [p2]) ⟨by dsimp only; omega, by rw [hgo]; congr 1; omega, by dsimp only; omega, by dsimp only; omega, hL3, by dsimp only; omega⟩ (by dsimp only; omega) rfl (by decide) (by decide) (by (simp (disch := omega) only [go_sem, lint, Nat.reduceEqDiff, List.length_map, flatR_len])) (by (simp (disch := omega) only [go_sem, lint, Nat.reduceEqDiff, List.length_map, flatR_len])) (by (simp (disch := omega) only [go_sem, lint, Nat.reduceEqDiff, List.length_map, flatR_len])) (fun d => by first | ((simp (disch := omega) only [go_sem, lint, Nat.reduceEqDiff, List.length_map, flatR_len]); done) | ((simp (disch := omega) only [go_sem, lint, Nat.reduceEqDiff, List.length_map, flatR_len]); rfl))
      · rw [rowsGo_bad he2] at hgo
        have hp := hpg (by rw [hgo]; exact he2)
        rw [hgo] at hp
        have hs7 : ((nums (nxt L2).1 wRow lo4 hi4 z).2.2 != 0) = true := by simpa using he2
        generalize nums (nxt L2).1 wRow lo4 hi4 z = q2 at *
        obtain ⟨n2, at2, e2⟩ := q2
        dsimp only at *
        (refine Wk.o ?_; (repeat revert hK K); refine W4c74a ?_; (repeat intro K hK); refine ⟨?_⟩)
        (simp only [bodyX]; refine ⟨_, by simp only [aresults, aresult, XS.as, Tryd.results17, aload, go_sem, Option.bind_some]; rfl, ?_⟩)
        exact ⟨_, Snap.quad snap_ob0 snap_ls0 (.same _ (.iv _)) (.same _ (.iv _)), by rw [hp], trivial⟩
    · have hs6 : decide ((i : Int) < n3) = false := decide_eq_false (by omega)
      rw [show n3.toNat - i = 0 by omega, rowsGo] at hgo
      subst hgo
      have hpo := hpo rfl
      dsimp only at hpo
      have hC := pf_obCheck ⟨S, Kn, I, R⟩ (by show R.length ≤ 100000; omega) ⟨by show _ ∧ _; dsimp only; omega, by show _ ∧ _; dsimp only; omega, by show _ ∧ _; dsimp only; omega⟩
      have hat := ob_at (o := ⟨S, Kn, I, R⟩)
      generalize obE ⟨S, Kn, I, R⟩ = oe at *
      generalize obAt ⟨S, Kn, I, R⟩ = oa at *
      (refine Wk.o ?_; (repeat revert hK K); refine W4c74a ?_; (repeat intro K hK); refine ⟨?_⟩)
      refine XRes_sayN rfl hC (SnapL.cons (snap_ob rfl rfl) (SnapL.nil _)) (noImm2 _ _) (fun _ => rfl) ?_
      (simp only [putL, List.set_cons_succ, List.set_cons_zero])
      by_cases h2 : oe = 2
      · subst h2
        rw [if_pos rfl] at hpo
        (refine Wk.o ?_; (repeat revert hK K); refine W4c74a ?_; (repeat intro K hK); refine ⟨?_⟩)
        refine AX_drawLk (fun _ => True) 10 [.free, .free, .free, .free, .free, .free, .chg, .free, .free, .free] [false, false, false, false, true, false, true, false, false, false] (by kernel_rfl) (by decide +kernel) (by decide +kernel) trivial fun K hK => ?_
        simp only [go_sem]
        repeat (first | (first | ((with_reducible refine ADL_free tyOK ?_ ?_ ?_); (focus rfl); (focus (first | (with_reducible rfl) | ((simp (disch := omega) only [go_sem]); done))); simp (disch := omega) only [go_sem , hg0, hg1, hg2, hg3, hs1, hs2, hs3, hs4, hs5, hs6, hs7, hs8, hs9, hsa, hsb, Int.toNat_zero, Int.toNat_one, Int.reduceToNat, Nat.reduceMul, Nat.reduceAdd, Nat.zero_add, Nat.one_mul, Int.toNat_natCast, Nat.reduceEqDiff, List.length_map, List.length_cons, List.length_nil, flatR_len]; (with_reducible refine ADL_id ?_)) | ((refine ADL_look tyOK (by rfl) (by rfl) (fun H hS => by first | (simp only [go_sem, hS , hg0, hg1, hg2, hg3, hs1, hs2, hs3, hs4, hs5, hs6, hs7, hs8, hs9, hsa, hsb, Int.toNat_zero, Int.toNat_one, Int.reduceToNat, Nat.reduceMul, Nat.reduceAdd, Nat.zero_add, Nat.one_mul, Int.toNat_natCast, Nat.reduceEqDiff, List.length_map, List.length_cons, List.length_nil, flatR_len]; rfl) | (simp (disch := omega) only [go_sem , hg0, hg1, hg2, hg3, hs1, hs2, hs3, hs4, hs5, hs6, hs7, hs8, hs9, hsa, hsb, Int.toNat_zero, Int.toNat_one, Int.reduceToNat, Nat.reduceMul, Nat.reduceAdd, Nat.zero_add, Nat.one_mul, Int.toNat_natCast, Nat.reduceEqDiff, List.length_map, List.length_cons, List.length_nil, flatR_len]; rfl)) ?_); (simp only [putL, List.set_cons_succ, List.set_cons_zero])) | ((with_reducible refine ADL_chg tyOK ?_ ?_ ?_); (focus (simp only [List.length_cons]; omega)); (focus (first | (with_reducible rfl) | ((simp (disch := omega) only [go_sem]); done))); simp (disch := omega) only [go_sem , hg0, hg1, hg2, hg3, hs1, hs2, hs3, hs4, hs5, hs6, hs7, hs8, hs9, hsa, hsb, Int.toNat_zero, Int.toNat_one, Int.reduceToNat, Nat.reduceMul, Nat.reduceAdd, Nat.zero_add, Nat.one_mul, Int.toNat_natCast, Nat.reduceEqDiff, List.length_map, List.length_cons, List.length_nil, flatR_len]; (first | (refine ⟨(by decide), (fun hh => by first | trivial | rfl | cases hh), ?_⟩) | (refine ⟨(by decide), ?_⟩) | (refine ⟨(fun hh => by first | trivial | rfl | cases hh), ?_⟩) | skip); (with_reducible refine ADL_id ?_))) | ((refine ADL_nil ?_); (refine hK _ _ _ (by simp only [List.length_cons]; omega) ?_); clear hK K))
        (refine Wk.o ?_; (repeat revert hK K); refine W4c74a ?_; (repeat intro K hK); refine ⟨?_⟩)
        (simp only [bodyX]; refine ⟨_, by simp only [aresults, aresult, XS.as, Tryd.results17, aload, go_sem, Option.bind_some]; rfl, ?_⟩)
        exact ⟨_, Snap.quad snap_ob0 snap_ls0 (.same _ (.iv _)) (.same _ (.iv _)), by rw [hpo], trivial⟩
      · rw [if_neg h2] at hpo
        have hs7 : (oe == 2) = false := by simpa using h2
        by_cases h0 : oe = 0
        · subst h0
          rw [if_neg (by simp)] at hpo
          (refine Wk.o ?_; (repeat revert hK K); refine W4c74a ?_; (repeat intro K hK); refine ⟨?_⟩)
          (simp only [bodyX]; refine ⟨_, by simp only [aresults, aresult, XS.as, Tryd.results17, aload, go_sem, Option.bind_some]; rfl, ?_⟩)
          exact ⟨_, Snap.quad (snap_ob rfl rfl) (.same _ (.iv _)) (.same _ (.iv _)) (.same _ (.iv _)), by rw [hpo], trivial⟩
        · rw [if_pos h0] at hpo
          obtain ⟨ha1, ha2⟩ := hat h0 h2
          dsimp only at ha2
          have hs8 : (oe != 0) = true := by simpa using h0
          have hs9 : (P.map lint)[oa.toNat]? = some (lt (.int .i64 (P.getD oa.toNat 0))) := lint_at (by omega)
          (refine Wk.o ?_; (repeat revert hK K); refine W4c74a ?_; (repeat intro K hK); refine ⟨?_⟩)
          refine AX_drawLk (fun H => H[2]? = some (some ⟨3, P.map lint⟩)) 10 [.free, .free, .free, .free, .free, .free, .chg, .free, .free, .free] [false, false, false, false, true, false, true, false, false, false] (by kernel_rfl) (by decide +kernel) (by decide +kernel) rfl fun K hK => ?_
          simp only [go_sem]
          repeat (first | (first | ((with_reducible refine ADL_free tyOK ?_ ?_ ?_); (focus rfl); (focus (first | (with_reducible rfl) | ((simp (disch := omega) only [go_sem]); done))); simp (disch := omega) only [go_sem , hg0, hg1, hg2, hg3, hs1, hs2, hs3, hs4, hs5, hs6, hs7, hs8, hs9, hsa, hsb, Int.toNat_zero, Int.toNat_one, Int.reduceToNat, Nat.reduceMul, Nat.reduceAdd, Nat.zero_add, Nat.one_mul, Int.toNat_natCast, Nat.reduceEqDiff, List.length_map, List.length_cons, List.length_nil, flatR_len]; (with_reducible refine ADL_id ?_)) | ((refine ADL_look tyOK (by rfl) (by rfl) (fun H hS => by first | (simp only [go_sem, hS , hg0, hg1, hg2, hg3, hs1, hs2, hs3, hs4, hs5, hs6, hs7, hs8, hs9, hsa, hsb, Int.toNat_zero, Int.toNat_one, Int.reduceToNat, Nat.reduceMul, Nat.reduceAdd, Nat.zero_add, Nat.one_mul, Int.toNat_natCast, Nat.reduceEqDiff, List.length_map, List.length_cons, List.length_nil, flatR_len]; rfl) | (simp (disch := omega) only [go_sem , hg0, hg1, hg2, hg3, hs1, hs2, hs3, hs4, hs5, hs6, hs7, hs8, hs9, hsa, hsb, Int.toNat_zero, Int.toNat_one, Int.reduceToNat, Nat.reduceMul, Nat.reduceAdd, Nat.zero_add, Nat.one_mul, Int.toNat_natCast, Nat.reduceEqDiff, List.length_map, List.length_cons, List.length_nil, flatR_len]; rfl)) ?_); (simp only [putL, List.set_cons_succ, List.set_cons_zero])) | ((with_reducible refine ADL_chg tyOK ?_ ?_ ?_); (focus (simp only [List.length_cons]; omega)); (focus (first | (with_reducible rfl) | ((simp (disch := omega) only [go_sem]); done))); simp (disch := omega) only [go_sem , hg0, hg1, hg2, hg3, hs1, hs2, hs3, hs4, hs5, hs6, hs7, hs8, hs9, hsa, hsb, Int.toNat_zero, Int.toNat_one, Int.reduceToNat, Nat.reduceMul, Nat.reduceAdd, Nat.zero_add, Nat.one_mul, Int.toNat_natCast, Nat.reduceEqDiff, List.length_map, List.length_cons, List.length_nil, flatR_len]; (first | (refine ⟨(by decide), (fun hh => by first | trivial | rfl | cases hh), ?_⟩) | (refine ⟨(by decide), ?_⟩) | (refine ⟨(fun hh => by first | trivial | rfl | cases hh), ?_⟩) | skip); (with_reducible refine ADL_id ?_))) | ((refine ADL_nil ?_); (refine hK _ _ _ (by simp only [List.length_cons]; omega) ?_); clear hK K))
          (refine Wk.o ?_; (repeat revert hK K); refine W4c74a ?_; (repeat intro K hK); refine ⟨?_⟩)
          (simp only [bodyX]; refine ⟨_, by simp only [aresults, aresult, XS.as, Tryd.results17, aload, go_sem, Option.bind_some]; rfl, ?_⟩)
          exact ⟨_, Snap.quad snap_ob0 snap_ls0 (.same _ (.iv _)) (.same _ (.iv _)), by rw [hpo], trivial⟩
  · have hp := takeP_q he
    have hs1 : ((tq L z).2.2 != 0) = true := by simpa using he
    generalize takeP L z = Q at *
    generalize tq L z = q at *
    obtain ⟨n, at1, e1⟩ := q
    dsimp only at *
    (refine SF_of_bodyX (aload tt) (aload_ok tyOK) Tryd.func17 rfl (by kernel_rfl) ?_; simp only [Tryd.ntmps17, List.length_cons, List.length_nil, Nat.reduceAdd, Nat.reduceSub, List.replicate_succ, List.replicate_zero, List.cons_append, List.nil_append])
    (refine Wk.o ?_; (repeat revert hK K); refine W4c74a ?_; (repeat intro K hK); refine ⟨?_⟩)
    (simp only [bodyX]; refine ⟨_, by simp only [aresults, aresult, XS.as, Tryd.results17, aload, go_sem, Option.bind_some]; rfl, ?_⟩)
    exact ⟨_, Snap.quad snap_ob0 snap_ls0 (.same _ (.iv _)) (.same _ (.iv _)), by rw [hp], trivial⟩
end Go.Proofs.YtdaenbgjafalcaaDoor
namespace Go.Proofs.YtdaenbgjafalcaaDoor
open Go.RowKit Go.Lib
set_option linter.unusedVariables false
set_option linter.unusedSimpArgs false
def lsC (L : List (List Tok3)) : List AV := L.map fun T => .iv (iTokL T)
theorem lsC_len (L : List (List Tok3)) : (lsC L).length = L.length := by unfold lsC; simp
theorem lsC_snoc (L : List (List Tok3)) (T : List Tok3) : lsC L ++ [.iv (.sl (fun j => .lit ((tokL T).getD j undef)) T.length 3)] = lsC (L ++ [T]) := by unfold lsC; rw [List.map_append]; rfl
theorem rnL_lsC (r : Nat → Nat) (L : List (List Tok3)) : rnL r (lsC L) = lsC L := by unfold lsC; rw [rnL_map, List.map_map]; rfl
theorem idL_lsC (p : Nat → Bool) (L : List (List Tok3)) : idL p (lsC L) = true := by unfold lsC; rw [idL_all, List.all_map, List.all_eq_true]; exact fun _ _ => rfl
theorem lsC_one (L : List (List Tok3)) : (lsC L).all AV.one = true := by unfold lsC; rw [List.all_map, List.all_eq_true]; exact fun _ _ => rfl
theorem lsC_take (L : List (List Tok3)) : (lsC L).take L.length = lsC L := List.take_of_length_le (by rw [lsC_len]; exact Nat.le_refl _)
theorem said_len (L : List (List Tok3)) : (said L).length ≤ L.length := List.length_filter_le _ _
theorem LsOK.said {L : List (List Tok3)} (h : LsOK L) : LsOK (Go.Proofs.YtdaenbgjafalcaaDoor.said L) := ⟨Nat.le_trans (said_len L) h.len, fun T hT => h.tok T (List.mem_filter.1 hT).1⟩
attribute [go_sem] rnL_lsC idL_lsC lsC_len lsC_one lsC_take lsC_snoc
end Go.Proofs.YtdaenbgjafalcaaDoor
namespace Go.Proofs.YtdaenbgjafalcaaDoor
open Go.RowKit
set_option linter.unusedVariables false
set_option linter.unusedSimpArgs false
set_option maxRecDepth 100000 in
set_option maxHeartbeats 4000000 in
theorem pf_rObCheck (o : Ob) (hr : o.R.length ≤ 100000) (ho : o.Ok) : PF Tryd.prog 35 [obA o] fun r H' => r = .tup [lt (.int .i64 (obAt o)), lt (.int .i64 (obE o))] ∧ H' = [] := by
  refine SF.forgetAll ?_
  have b1 := ho.S; have b2 := ho.K; have b3 := ho.I
  by_cases hh : obHead o
  · have hh1 := hh
    unfold obHead at hh1
    (refine SF_of_bodyX (aload tt) (aload_ok tyOK) Tryd.func35 rfl (by kernel_rfl) ?_; simp only [Tryd.ntmps35, List.length_cons, List.length_nil, Nat.reduceAdd, Nat.reduceSub, List.replicate_succ, List.replicate_zero, List.cons_append, List.nil_append])
    (repeat (first | (first | (with_reducible first | refine AX_block ?_ | refine AX_skip ?_ | refine AX_exit ?_ | refine AX_ret ?_ | refine AX_ift ?_ | refine AX_iff ?_ | refine AX_seq_k (fun K hK => ?_) | refine ContX.use (by assumption) ?_) | simp only [thenX, inBlockX, if_true, if_false, reduceCtorEq]) | (first | ((with_reducible first | refine XOP tyOK ?_ | refine AOP tyOK ?_); simp (disch := omega) only [go_sem , flatR_s, flatR_k, flatR_n, flatR_r]; (with_reducible first | refine XRes_id ?_ | refine ADF_id ?_)) | (with_reducible first | refine XSK ?_ | refine ASK ?_)) | ((first | (with_reducible refine XRes_nil ?_) | (with_reducible refine ADF_nil ?_)); (first | refine hK _ ?_ | refine hK _ _ ?_); clear hK K) | ((first | (with_reducible refine AX_reg0 fun K hK => ?_) | (refine AX_drawG1 tyOK (by kernel_rfl) (by rfl) (by kernel_rfl) fun K hK => ?_)); simp only [go_sem]) | fail))
    (refine AWH (σ := Nat) [36, 37, 38, 39, 40, 43, 44, 45, 46, 47, 5, 48, 49, 50, 51, 52, 53, 54, 55, 56, 57, 58, 59, 60, 61, 62, 63, 64, 65, 66, 67, 68, 69, 70, 2, 3, 71, 72, 73, 74, 75, 76, 77, 78, 79, 80, 81, 82, 83, 84, 85, 86, 87, 88, 89, 90, 91, 92, 93, 94, 95, 96, 97, 98, 99, 100, 101, 102, 103, 104, 105, 106, 107, 108, 109, 110, 111, 112, 113, 114, 115, 116, 117, 118, 119, 120, 121, 122, 123, 124, 125, 126, 127, 128, 129, 41, 42] (fun i => [(4, lint i)]) (fun i => [some ⟨25, [lt (.int .i64 o.S), lt (.int .i64 o.K), lt (.int .i64 o.I), .iv (iRws o.R)]⟩]) (fun i => []) (fun i => i ≤ o.R.length ∧ ∀ j, j < i → obErr o j = 0) (fun i => o.R.length - i) 0 (by first | exact ⟨Nat.zero_le _, fun j h => absurd h (by omega)⟩) ?_; rintro i d fr hfr ⟨hi, hp⟩; simp only [updS, deadS, List.set_cons_succ, List.set_cons_zero, lint] at hfr; subst hfr; (try dsimp only))
    by_cases hlt : i < o.R.length
    · have hti : ((i : Int) - 1).toNat = i - 1 := by omega
      (repeat' (first | (first | (with_reducible first | refine AX_block ?_ | refine AX_skip ?_ | refine AX_exit ?_ | refine AX_ret ?_ | refine AX_ift ?_ | refine AX_iff ?_ | refine AX_seq_k (fun K hK => ?_) | refine ContX.use (by assumption) ?_) | simp only [thenX, inBlockX, if_true, if_false, reduceCtorEq]) | (first | ((with_reducible first | refine XOP tyOK ?_ | refine AOP tyOK ?_); simp (disch := omega) only [go_sem , flatR_s, flatR_k, flatR_n, flatR_r]; (with_reducible first | refine XRes_id ?_ | refine ADF_id ?_)) | (with_reducible first | refine XSK ?_ | refine ASK ?_)) | ((first | (with_reducible refine XRes_nil ?_) | (with_reducible refine ADF_nil ?_)); (first | refine hK _ ?_ | refine hK _ _ ?_); clear hK K) | ((first | (with_reducible refine AX_reg0 fun K hK => ?_) | (refine AX_drawG1 tyOK (by kernel_rfl) (by rfl) (by kernel_rfl) fun K hK => ?_)); simp only [go_sem]) | fail | ((first | (refine XRes_splitG (by rfl) (fun hc => ?_) (fun hc => ?_)) | (refine ADF_splitG (by rfl) (fun hc => ?_) (fun hc => ?_))) <;> (try simp only [eqRes, List.cons_beq_cons, Bool.and_eq_true, Bool.not_eq_true, Bool.and_eq_false_iff, decide_eq_true_eq, decide_eq_false_iff_not, bne_iff_ne, beq_iff_eq, bne_eq_false_iff_eq, beq_eq_false_iff_ne, Bool.not_eq_true', Bool.not_eq_false', ne_eq, Int.not_lt, Int.not_le, Decidable.not_not] at hc) <;> simp only [List.set_cons_succ, List.set_cons_zero]) | (first | ((with_reducible refine AX_if_t ?_ ?_); focus (simp (disch := omega) only [go_sem , flatR_s, flatR_k, flatR_n, flatR_r]; done)) | ((with_reducible refine AX_if_f ?_ ?_); focus (simp (disch := omega) only [go_sem , flatR_s, flatR_k, flatR_n, flatR_r]; done)) | (refine AX_cond _ (by rfl) (fun hc => ?_) (fun hc => ?_) <;> (try simp only [eqRes, List.cons_beq_cons, Bool.and_eq_true, Bool.not_eq_true, Bool.and_eq_false_iff, decide_eq_true_eq, decide_eq_false_iff_not, bne_iff_ne, beq_iff_eq, bne_eq_false_iff_eq, beq_eq_false_iff_ne, Bool.not_eq_true', Bool.not_eq_false', ne_eq, Int.not_lt, Int.not_le, Decidable.not_not] at hc)))))
      all_goals first
        | ((simp only [bodyX]; refine ⟨_, by simp only [aresults, aresult, XS.as, Tryd.results35, aload, go_sem, Option.bind_some]; rfl, ?_⟩); (obtain ⟨e1, e2⟩ := obAt_of hh hp hlt (by ((try simp only [hti, rises] at *); unfold obErr; (try simp only [rises]); (repeat' split) <;> first | rfl | omega)); rw [e1, e2]; refine ⟨ids_idB rfl, congrArg (fun z : Int => AV.tup [lt (.int .i64 (i : Int)), lt (.int .i64 z)]) (?_ : _ = obErr o i), trivial⟩; ((try simp only [hti, rises] at *); unfold obErr; (try simp only [rises]); (repeat' split) <;> first | rfl | omega)))
        | (refine WRN [0] (i + 1) ⟨by omega, fun j h => ?_⟩ (by (first | omega | (dsimp only; omega) | (simp only; omega)))
           rcases Nat.lt_or_ge j i with h1 | h1
           · exact hp j h1
           · rw [show j = i by omega]; ((try simp only [hti, rises] at *); unfold obErr; (try simp only [rises]); (repeat' split) <;> first | rfl | omega))
    · have hii : i = o.R.length := by omega
      subst hii
      (repeat' (first | (first | (with_reducible first | refine AX_block ?_ | refine AX_skip ?_ | refine AX_exit ?_ | refine AX_ret ?_ | refine AX_ift ?_ | refine AX_iff ?_ | refine AX_seq_k (fun K hK => ?_) | refine ContX.use (by assumption) ?_) | simp only [thenX, inBlockX, if_true, if_false, reduceCtorEq]) | (first | ((with_reducible first | refine XOP tyOK ?_ | refine AOP tyOK ?_); simp (disch := omega) only [go_sem , flatR_s, flatR_k, flatR_n, flatR_r]; (with_reducible first | refine XRes_id ?_ | refine ADF_id ?_)) | (with_reducible first | refine XSK ?_ | refine ASK ?_)) | ((first | (with_reducible refine XRes_nil ?_) | (with_reducible refine ADF_nil ?_)); (first | refine hK _ ?_ | refine hK _ _ ?_); clear hK K) | ((first | (with_reducible refine AX_reg0 fun K hK => ?_) | (refine AX_drawG1 tyOK (by kernel_rfl) (by rfl) (by kernel_rfl) fun K hK => ?_)); simp only [go_sem]) | fail | ((first | (refine XRes_splitG (by rfl) (fun hc => ?_) (fun hc => ?_)) | (refine ADF_splitG (by rfl) (fun hc => ?_) (fun hc => ?_))) <;> (try simp only [eqRes, List.cons_beq_cons, Bool.and_eq_true, Bool.not_eq_true, Bool.and_eq_false_iff, decide_eq_true_eq, decide_eq_false_iff_not, bne_iff_ne, beq_iff_eq, bne_eq_false_iff_eq, beq_eq_false_iff_ne, Bool.not_eq_true', Bool.not_eq_false', ne_eq, Int.not_lt, Int.not_le, Decidable.not_not] at hc) <;> simp only [List.set_cons_succ, List.set_cons_zero]) | (first | ((with_reducible refine AX_if_t ?_ ?_); focus (simp (disch := omega) only [go_sem , flatR_s, flatR_k, flatR_n, flatR_r]; done)) | ((with_reducible refine AX_if_f ?_ ?_); focus (simp (disch := omega) only [go_sem , flatR_s, flatR_k, flatR_n, flatR_r]; done)) | (refine AX_cond _ (by rfl) (fun hc => ?_) (fun hc => ?_) <;> (try simp only [eqRes, List.cons_beq_cons, Bool.and_eq_true, Bool.not_eq_true, Bool.and_eq_false_iff, decide_eq_true_eq, decide_eq_false_iff_not, bne_iff_ne, beq_iff_eq, bne_eq_false_iff_eq, beq_eq_false_iff_ne, Bool.not_eq_true', Bool.not_eq_false', ne_eq, Int.not_lt, Int.not_le, Decidable.not_not] at hc)))))
      (simp only [bodyX]; refine ⟨_, by simp only [aresults, aresult, XS.as, Tryd.results35, aload, go_sem, Option.bind_some]; rfl, ?_⟩)
      obtain ⟨e1, e2⟩ := obAt_end hh hp
      rw [e1, e2]
      exact ⟨ids_idB rfl, rfl, trivial⟩
  · have hh1 := hh
    unfold obHead at hh1
    obtain ⟨e1, e2⟩ := obAt_head hh
    (refine SF_of_bodyX (aload tt) (aload_ok tyOK) Tryd.func35 rfl (by kernel_rfl) ?_; simp only [Tryd.ntmps35, List.length_cons, List.length_nil, Nat.reduceAdd, Nat.reduceSub, List.replicate_succ, List.replicate_zero, List.cons_append, List.nil_append])
    (repeat' (first | (first | (with_reducible first | refine AX_block ?_ | refine AX_skip ?_ | refine AX_exit ?_ | refine AX_ret ?_ | refine AX_ift ?_ | refine AX_iff ?_ | refine AX_seq_k (fun K hK => ?_) | refine ContX.use (by assumption) ?_) | simp only [thenX, inBlockX, if_true, if_false, reduceCtorEq]) | (first | ((with_reducible first | refine XOP tyOK ?_ | refine AOP tyOK ?_); simp (disch := omega) only [go_sem , flatR_s, flatR_k, flatR_n, flatR_r]; (with_reducible first | refine XRes_id ?_ | refine ADF_id ?_)) | (with_reducible first | refine XSK ?_ | refine ASK ?_)) | ((first | (with_reducible refine XRes_nil ?_) | (with_reducible refine ADF_nil ?_)); (first | refine hK _ ?_ | refine hK _ _ ?_); clear hK K) | ((first | (with_reducible refine AX_reg0 fun K hK => ?_) | (refine AX_drawG1 tyOK (by kernel_rfl) (by rfl) (by kernel_rfl) fun K hK => ?_)); simp only [go_sem]) | fail | ((first | (refine XRes_splitG (by rfl) (fun hc => ?_) (fun hc => ?_)) | (refine ADF_splitG (by rfl) (fun hc => ?_) (fun hc => ?_))) <;> (try simp only [eqRes, List.cons_beq_cons, Bool.and_eq_true, Bool.not_eq_true, Bool.and_eq_false_iff, decide_eq_true_eq, decide_eq_false_iff_not, bne_iff_ne, beq_iff_eq, bne_eq_false_iff_eq, beq_eq_false_iff_ne, Bool.not_eq_true', Bool.not_eq_false', ne_eq, Int.not_lt, Int.not_le, Decidable.not_not] at hc) <;> simp only [List.set_cons_succ, List.set_cons_zero]) | (first | ((with_reducible refine AX_if_t ?_ ?_); focus (simp (disch := omega) only [go_sem , flatR_s, flatR_k, flatR_n, flatR_r]; done)) | ((with_reducible refine AX_if_f ?_ ?_); focus (simp (disch := omega) only [go_sem , flatR_s, flatR_k, flatR_n, flatR_r]; done)) | (refine AX_cond _ (by rfl) (fun hc => ?_) (fun hc => ?_) <;> (try simp only [eqRes, List.cons_beq_cons, Bool.and_eq_true, Bool.not_eq_true, Bool.and_eq_false_iff, decide_eq_true_eq, decide_eq_false_iff_not, bne_iff_ne, beq_iff_eq, bne_eq_false_iff_eq, beq_eq_false_iff_ne, Bool.not_eq_true', Bool.not_eq_false', ne_eq, Int.not_lt, Int.not_le, Decidable.not_not] at hc)))))
    all_goals (first | (exfalso; omega) | ((simp only [bodyX]; refine ⟨_, by simp only [aresults, aresult, XS.as, Tryd.results35, aload, go_sem, Option.bind_some]; rfl, ?_⟩); rw [e1, e2]; exact ⟨ids_idB rfl, rfl, trivial⟩))
end Go.Proofs.YtdaenbgjafalcaaDoor
