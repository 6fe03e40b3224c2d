import Derived.Test.YtdaenbgjafalcaaDoorMgBI
import Derived.Test.YtdaenbgjafalcaaDoorMgAT
import Derived.Test.YtdaenbgjafalcaaDoorMgAZ
import Derived.Test.YtdaenbgjafalcaaDoorMgBF
namespace Go.Proofs.YtdaenbgjafalcaaDoor
open Go.RowKit Go.Lib
set_option linter.unusedVariables false
set_option linter.unusedSimpArgs false
def taken (q : Ob × List (List Tok3) × Int × Int) : Int := if q.2.2.2 = 0 then (q.1.R.length : Int) + 1 else 0
theorem taken_bad {o : Ob} {r : List (List Tok3)} {a e : Int} (h : e ≠ 0) : taken (o, r, a, e) = 0 := if_neg h
theorem taken_ok {o : Ob} {r : List (List Tok3)} {a : Int} : taken (o, r, a, 0) = (o.R.length : Int) + 1 := if_pos rfl
theorem W30cba {A B : Prop} (h9 : B) (w : B → A := by (intro h9; (repeat intro K hK); refine ⟨?_⟩; (repeat (first | (first | (with_reducible first | refine AX_block ?_ | refine AX_skip ?_ | refine AX_exit ?_ | refine AX_ret ?_ | refine AX_ift ?_ | refine AX_iff ?_ | refine AX_seq_k (fun K hK => ?_) | refine ContX.use (by assumption) ?_) | simp only [thenX, inBlockX, if_true, if_false, reduceCtorEq]) | (first | ((first | (with_reducible refine XRes_op tyOK ?_ ?_) | ((with_reducible first | refine ADF_op tyOK ?_ ?_ ?_ | refine ADX_op tyOK ?_ ?_ ?_); (focus rfl)) | (with_reducible refine ADR_alloc1 tyOK ?_ ?_) | ((with_reducible refine ADR_free1 tyOK ?_ ?_ ?_); (focus rfl)) | ((with_reducible refine ADR_free0 tyOK ?_ ?_ ?_); (focus rfl)) | ((with_reducible refine ADR_read1 tyOK ?_ ?_ ?_); (focus rfl)) | (with_reducible refine ADR_chg1 tyOK ?_ ?_)); (focus (first | (with_reducible rfl) | ((simp (disch := omega) only [go_sem]); done))); simp (disch := omega) only [go_sem , hg0, hg1, hg2, hg3, hs1, hs2, hs3, hs4, hs5, hs6, hs7, hs8, hs9, hsa, hsb, Int.toNat_zero, Int.toNat_one, Int.reduceToNat, Nat.reduceMul, Nat.reduceAdd, Nat.zero_add, Nat.one_mul, Int.toNat_natCast, Nat.reduceEqDiff, List.length_map, List.length_cons, List.length_nil, flatR_len]; (first | (with_reducible refine XRes_id ?_) | (with_reducible refine ADF_id ?_) | (with_reducible refine ADR_id1 ?_) | (with_reducible refine ADX_id ?_))) | ((first | (with_reducible refine XRes_skip ?_ ?_) | (with_reducible refine ADF_skip (b := true) ?_ ?_) | (with_reducible refine ADX_skip ?_ ?_) | ((with_reducible refine ADR_skip1 ?_ ?_ ?_); (focus rfl))); (focus (first | rfl | ((simp (disch := omega) only [go_sem]); done))); (simp only [putL, List.set_cons_succ, List.set_cons_zero]))) | ((first | (with_reducible refine XRes_nil ?_) | (with_reducible refine ADF_nil ?_) | (with_reducible refine ADR_nil ?_) | (with_reducible refine ADX_nil ?_)); (first | refine hK _ ?_ | refine hK _ _ ?_); clear hK K) | (first | (first | refine XTL (by rfl) hN1 ?_ | refine ATL tyOK (by rfl) hN1 ?_ | refine XTL (by rfl) hN2 ?_ | refine ATL tyOK (by rfl) hN2 ?_)) | ((with_reducible refine AX_reg0 fun K hK => ?_); simp only [go_sem]) | ((refine AX_drawG1 tyOK (by kernel_rfl) (by rfl) (by kernel_rfl) fun K hK => ?_); (first | simp only [go_sem, preN, effOp, runF, alM, mapOp, alD2, kdOf2, Bool.not_false, Bool.not_true, reduceCtorEq] | simp only [go_sem, preN, effOp, runF, alM, mapOp, Bool.not_false, Bool.not_true, reduceCtorEq] | simp only [go_sem, preN, effOp, runF, alD2, kdOf2, Bool.not_false, Bool.not_true, reduceCtorEq] | simp only [go_sem, alD2, kdOf2, Bool.not_false, Bool.not_true, reduceCtorEq] | simp only [go_sem, preN, effOp, runF, Bool.not_false, Bool.not_true, reduceCtorEq] | simp only [go_sem])))); refine Wk.o ?_; (repeat revert hK K); exact h9)) : A := w h9
set_option maxRecDepth 100000 in
set_option maxHeartbeats 8000000 in
theorem pf_rTake (L : List (List Tok3)) (z : Int) (hL : LsOK L) :
    PF Tryd.prog 21 [.iv (iLs (said L)), lt (.int .i64 z)] fun r H' => r = .tup [obA (takeP L z).1, lt (.int .i64 (taken (takeP L z))), lt (.int .i64 (takeP L z).2.2.1), lt (.int .i64 (takeP L z).2.2.2)] ∧ H' = [] := by
  refine SF.frozen ?_
  have hg0 := trivial; have hg1 := trivial; have hg2 := trivial; have hg3 := trivial; have hs1 := trivial; have hs2 := trivial; have hs3 := trivial; have hs4 := trivial; have hs5 := trivial; have hs6 := trivial; have hs7 := trivial; have hs8 := trivial; have hs9 := trivial; have hsa := trivial; have hsb := trivial; have hN1 := trivial; have hN2 := trivial
  obtain ⟨hs0, hsd⟩ := nxt_said L
  have hl := hL.said
  have hN1 := pf_rline (said L) 0 wObj z hl
  rw [hs0] at hN1
  obtain ⟨hT1, hL1⟩ := nxt_ok hL
  have hll := nxt_len L
  have hq1 : nums (nxt L).1 wObj lo4 hi4 z = tq L z := rfl
  rw [hq1] at hN1
  generalize said L = l at *
  by_cases he : (tq L z).2.2 = 0
  · obtain ⟨hne, hn4, hz1, hnb⟩ := nums_ok (T := (nxt L).1) (w := wObj) (z := z) he
    rw [hq1] at hn4 hz1 hnb
    have hg : tg L z = rowsGo z ((tq L z).1.getD 3 0).toNat (nxt L).2 [] [] := rfl
    have hpg := fun h1 => takeP_g (L := L) (z := z) he h1
    have hpo := fun h1 => takeP_o (L := L) (z := z) he h1
    have hob : tob L z = ⟨(tq L z).1.getD 0 0, (tq L z).1.getD 1 0, (tq L z).1.getD 2 0, (tg L z).1⟩ := rfl
    have b0 := hnb 0; have b1 := hnb 1; have b2 := hnb 2; have b3 := hnb 3
    rw [hob, ← hs0] at hpo
    rw [← hs0] at hne
    clear hob hq1 hnb
    generalize takeP L z = Q at *
    generalize tg L z = G at *
    generalize tq L z = q at *
    obtain ⟨n, at1, e1⟩ := q
    dsimp only at *
    have hz1 := hz1.symm
    subst he hz1
    rw [show iInts n = .sl (fun j => .lit (.int .i64 (n.getD j 0))) n.length 1 from rfl] at hN1
    have hs2 := hn4
    generalize hg0 : n.getD 0 0 = S at *
    generalize hg1 : n.getD 1 0 = Kn at *
    generalize hg2 : n.getD 2 0 = I at *
    generalize hg3 : n.getD 3 0 = n3 at *
    have hlenl := hl.len
    (refine SF_of_bodyX (aload tt) (aload_ok tyOK) Tryd.func21 rfl (by kernel_rfl) ?_; simp only [Tryd.ntmps21, List.length_cons, List.length_nil, Nat.reduceAdd, Nat.reduceSub, List.replicate_succ, List.replicate_zero, List.cons_append, List.nil_append])
    (refine Wk.o ?_; (repeat revert hK K); refine W30cba ?_; (repeat intro K hK); refine ⟨?_⟩)
    refine AX_drawLk (fun _ => True) 12 [.free, .free, .free, .free, .free, .free, .free, .free, .free, .free, .chg, .chg] [false, false, true, false, false, true, false, false, true, false, true, true] (by kernel_rfl) (by decide +kernel) (by decide +kernel) trivial fun K hK => ?_
    simp only [go_sem]
    repeat (first | (first | ((with_reducible refine ADL_free tyOK ?_ ?_ ?_); (focus rfl); (focus (first | (with_reducible rfl) | ((simp (disch := omega) only [go_sem]); done))); simp (disch := omega) only [go_sem , hg0, hg1, hg2, hg3, hs1, hs2, hs3, hs4, hs5, hs6, hs7, hs8, hs9, hsa, hsb, Int.toNat_zero, Int.toNat_one, Int.reduceToNat, Nat.reduceMul, Nat.reduceAdd, Nat.zero_add, Nat.one_mul, Int.toNat_natCast, Nat.reduceEqDiff, List.length_map, List.length_cons, List.length_nil, flatR_len]; (with_reducible refine ADL_id ?_)) | ((refine ADL_look tyOK (by rfl) (by rfl) (fun H hS => by first | (simp only [go_sem, hS , hg0, hg1, hg2, hg3, hs1, hs2, hs3, hs4, hs5, hs6, hs7, hs8, hs9, hsa, hsb, Int.toNat_zero, Int.toNat_one, Int.reduceToNat, Nat.reduceMul, Nat.reduceAdd, Nat.zero_add, Nat.one_mul, Int.toNat_natCast, Nat.reduceEqDiff, List.length_map, List.length_cons, List.length_nil, flatR_len]; rfl) | (simp (disch := omega) only [go_sem , hg0, hg1, hg2, hg3, hs1, hs2, hs3, hs4, hs5, hs6, hs7, hs8, hs9, hsa, hsb, Int.toNat_zero, Int.toNat_one, Int.reduceToNat, Nat.reduceMul, Nat.reduceAdd, Nat.zero_add, Nat.one_mul, Int.toNat_natCast, Nat.reduceEqDiff, List.length_map, List.length_cons, List.length_nil, flatR_len]; rfl)) ?_); (simp only [putL, List.set_cons_succ, List.set_cons_zero])) | ((with_reducible refine ADL_chg tyOK ?_ ?_ ?_); (focus (simp only [List.length_cons]; omega)); (focus (first | (with_reducible rfl) | ((simp (disch := omega) only [go_sem]); done))); simp (disch := omega) only [go_sem , hg0, hg1, hg2, hg3, hs1, hs2, hs3, hs4, hs5, hs6, hs7, hs8, hs9, hsa, hsb, Int.toNat_zero, Int.toNat_one, Int.reduceToNat, Nat.reduceMul, Nat.reduceAdd, Nat.zero_add, Nat.one_mul, Int.toNat_natCast, Nat.reduceEqDiff, List.length_map, List.length_cons, List.length_nil, flatR_len]; (first | (refine ⟨(by decide), (fun hh => by first | trivial | rfl | cases hh), ?_⟩) | (refine ⟨(by decide), ?_⟩) | (refine ⟨(fun hh => by first | trivial | rfl | cases hh), ?_⟩) | skip); (with_reducible refine ADL_id ?_))) | ((refine ADL_nil ?_); (refine hK _ _ _ (by simp only [List.length_cons]; omega) ?_); clear hK K))
    (refine Wk.o ?_; (repeat revert hK K); refine W30cba ?_; (repeat intro K hK); refine ⟨?_⟩)
    refine AX_cellNew 1 98 4 3 _ rfl rfl ?_
    simp only [List.length_cons, List.length_nil, List.cons_append, List.nil_append, Nat.zero_add, Nat.reduceAdd, List.set_cons_succ, List.set_cons_zero]
    have hinit : ([] : List Int).map lint = [] := rfl
    (refine AX_wh (σ := Nat × List (List Tok3) × List Rw × List Int) [39, 40, 41, 42, 43, 47, 48, 49, 50, 46, 51, 52, 53, 13, 14, 15, 54, 55, 56, 57, 58, 5, 6, 7, 59, 60, 61, 62, 63, 64, 65, 66, 67, 68, 69, 70, 71, 72, 73, 74, 75, 76, 44, 45] (fun (i, L2, R, P) => [(12, lint i)]) (fun (i, L2, R, P) => [some ⟨25, [lt (.int .i64 0), lt (.int .i64 0), lt (.int .i64 0), lt (.slice none 0 0)]⟩, some ⟨25, [lt (.int .i64 S), lt (.int .i64 Kn), lt (.int .i64 I), .osl 2 0 R.length 4]⟩, some ⟨98, (flatR R).map lint⟩]) (fun (i, L2, R, P) => []) (fun (i, L2, R, P) => 1 ≤ i ∧ i ≤ n3.toNat + 1 ∧ G = rowsGo z (n3.toNat + 1 - i) L2 R P ∧ R.length + 1 = i ∧ P.length + 1 = i ∧ LsOK L2 ∧ said L2 = l.drop i ∧ L2.length + i ≤ L.length + 1 ∧ ∀ k, k < P.length → P.getD k 0 = ((l.getD (k + 1) []).getD 0 tok0).2.1 ∧ (l.getD (k + 1) []).length ≠ 0) (fun (i, L2, R, P) => n3.toNat + 1 - i) (1, (nxt L).2, [], []) (fun d => by first | ((simp only [deadS, updS, List.set_cons_succ, List.set_cons_zero, lint, List.length_nil, List.length_cons]); done) | ((simp only [deadS, updS, List.set_cons_succ, List.set_cons_zero, lint, List.length_nil, List.length_cons]); rfl) | rfl) (by first | (with_reducible rfl) | (simp only [hinit]; done) | rfl) (by first | (with_reducible rfl) | rfl) (by first | exact ⟨Nat.le_refl _, by omega, hg, rfl, rfl, hL1, hsd, by omega, fun k h => absurd h (by simp)⟩) ?_; rintro ⟨i, L2, R, P⟩ d fr hfr ⟨hi0, hi, hgo, hRi, hPi, hL2, hsl, hLi, hPk⟩; simp only [updS, deadS, List.set_cons_succ, List.set_cons_zero, lint] at hfr; subst hfr; (try dsimp only))
    have hlenL := hL.len
    clear hg
    by_cases hlt : (i : Int) ≤ n3
    · have hs6 : decide ((i : Int) ≤ n3) = true := decide_eq_true hlt
      obtain ⟨hsa0, hsa1⟩ := nxt_said L2
      rw [hsl, dropG, Nat.add_zero] at hsa0
      rw [hsl, List.drop_drop] at hsa1
      obtain ⟨hT2, hL3⟩ := nxt_ok hL2
      have hN2 := pf_rline l i wRow z hl
      rw [hsa0] at hN2
      have hll2 := nxt_len L2
      obtain ⟨m, hm⟩ : ∃ m, n3.toNat + 1 - i = m + 1 := ⟨n3.toNat - i, by omega⟩
      rw [hm] at hgo
      by_cases he2 : (nums (nxt L2).1 wRow lo4 hi4 z).2.2 = 0
      · obtain ⟨hne2, hm4, hz2, hnb2⟩ := nums_ok he2
        have hnx := nxt_lt L2 hne2
        rw [rowsGo_ok he2] at hgo
        have hPk2 : ∀ k, k < (P ++ [((nxt L2).1.getD 0 tok0).2.1]).length → (P ++ [((nxt L2).1.getD 0 tok0).2.1]).getD k 0 = ((l.getD (k + 1) []).getD 0 tok0).2.1 ∧ (l.getD (k + 1) []).length ≠ 0 := fun k hk => by
          rw [List.length_append, List.length_singleton] at hk
          rcases Nat.lt_or_ge k P.length with h | h
          · rw [List.getD_eq_getElem?_getD, List.getElem?_append_left h, ← List.getD_eq_getElem?_getD]; exact hPk k h
          · obtain rfl : k = P.length := by omega
            rw [List.getD_eq_getElem?_getD, List.getElem?_append_right (Nat.le_refl _), Nat.sub_self, hPi, hsa0]
            exact ⟨rfl, hne2⟩
        generalize ((nxt L2).1.getD 0 tok0).2.1 = p2 at *
        generalize nums (nxt L2).1 wRow lo4 hi4 z = q2 at *
        obtain ⟨n2, at2, e2⟩ := q2
        dsimp only at *
        have hz2 := hz2.symm
        subst he2 hz2
        rw [show iInts n2 = .sl (fun j => .lit (.int .i64 (n2.getD j 0))) n2.length 1 from rfl] at hN2
        have hs4 := hm4
        have hs9 := flatR_snoc R n2
        have hsa : ((flatR R).map lint).take (R.length * 4) = (flatR R).map lint := List.take_of_length_le (by rw [List.length_map, flatR_len]; exact Nat.le_refl _)
        have hlR : (R ++ [rwOf n2]).length = R.length + 1 := by simp
        have hlP : (P ++ [p2]).length = P.length + 1 := by simp
        (refine Wk.o ?_; (repeat revert hK K); refine W30cba ?_; (repeat intro K hK); refine ⟨?_⟩)
        refine AX_drawLk (fun H => H[1]? = some (some ⟨25, [lt (.int .i64 S), lt (.int .i64 Kn), lt (.int .i64 I), .osl 2 0 R.length 4]⟩)) 18 [.free, .free, .free, .free, .free, .free, .free, .free, .free, .free, .free, .free, .free, .free, .free, .chg, .chg, .free, .chg] [false, true, false, false, true, false, false, true, false, false, true, false, false, true, false, true, true, false, false] (by kernel_rfl) (by decide +kernel) (by decide +kernel) rfl fun K hK => ?_
        simp only [go_sem]
        repeat (first | (first | ((with_reducible refine ADL_free tyOK ?_ ?_ ?_); (focus rfl); (focus (first | (with_reducible rfl) | ((simp (disch := omega) only [go_sem]); done))); simp (disch := omega) only [go_sem , hg0, hg1, hg2, hg3, hs1, hs2, hs3, hs4, hs5, hs6, hs7, hs8, hs9, hsa, hsb, Int.toNat_zero, Int.toNat_one, Int.reduceToNat, Nat.reduceMul, Nat.reduceAdd, Nat.zero_add, Nat.one_mul, Int.toNat_natCast, Nat.reduceEqDiff, List.length_map, List.length_cons, List.length_nil, flatR_len]; (with_reducible refine ADL_id ?_)) | ((refine ADL_look tyOK (by rfl) (by rfl) (fun H hS => by first | (simp only [go_sem, hS , hg0, hg1, hg2, hg3, hs1, hs2, hs3, hs4, hs5, hs6, hs7, hs8, hs9, hsa, hsb, Int.toNat_zero, Int.toNat_one, Int.reduceToNat, Nat.reduceMul, Nat.reduceAdd, Nat.zero_add, Nat.one_mul, Int.toNat_natCast, Nat.reduceEqDiff, List.length_map, List.length_cons, List.length_nil, flatR_len]; rfl) | (simp (disch := omega) only [go_sem , hg0, hg1, hg2, hg3, hs1, hs2, hs3, hs4, hs5, hs6, hs7, hs8, hs9, hsa, hsb, Int.toNat_zero, Int.toNat_one, Int.reduceToNat, Nat.reduceMul, Nat.reduceAdd, Nat.zero_add, Nat.one_mul, Int.toNat_natCast, Nat.reduceEqDiff, List.length_map, List.length_cons, List.length_nil, flatR_len]; rfl)) ?_); (simp only [putL, List.set_cons_succ, List.set_cons_zero])) | ((with_reducible refine ADL_chg tyOK ?_ ?_ ?_); (focus (simp only [List.length_cons]; omega)); (focus (first | (with_reducible rfl) | ((simp (disch := omega) only [go_sem]); done))); simp (disch := omega) only [go_sem , hg0, hg1, hg2, hg3, hs1, hs2, hs3, hs4, hs5, hs6, hs7, hs8, hs9, hsa, hsb, Int.toNat_zero, Int.toNat_one, Int.reduceToNat, Nat.reduceMul, Nat.reduceAdd, Nat.zero_add, Nat.one_mul, Int.toNat_natCast, Nat.reduceEqDiff, List.length_map, List.length_cons, List.length_nil, flatR_len]; (first | (refine ⟨(by decide), (fun hh => by first | trivial | rfl | cases hh), ?_⟩) | (refine ⟨(by decide), ?_⟩) | (refine ⟨(fun hh => by first | trivial | rfl | cases hh), ?_⟩) | skip); (with_reducible refine ADL_id ?_))) | ((refine ADL_nil ?_); (refine hK _ _ _ (by simp only [List.length_cons]; omega) ?_); clear hK K))
        (refine Wk.o ?_; (repeat revert hK K); refine W30cba ?_; (repeat intro K hK); refine ⟨?_⟩)
        exact whx_ren [0, 1, 4] (i + 1, (nxt L2).2, R ++ [rwOf n2], P ++ [p2]) ⟨by omega, by omega, by rw [hgo]; congr 1; omega, by dsimp only; omega, by dsimp only; omega, hL3, hsa1, by dsimp only; omega, hPk2⟩ (by dsimp only; omega) rfl (by decide) (by decide) (by (simp (disch := omega) only [go_sem, lint, Nat.reduceEqDiff, List.length_map, flatR_len])) (by (simp (disch := omega) only [go_sem, lint, Nat.reduceEqDiff, List.length_map, flatR_len])) (by (simp (disch := omega) only [go_sem, lint, Nat.reduceEqDiff, List.length_map, flatR_len])) (fun d => by first | ((simp (disch := omega) only [go_sem, lint, Nat.reduceEqDiff, List.length_map, flatR_len]); done) | ((simp (disch := omega) only [go_sem, lint, Nat.reduceEqDiff, List.length_map, flatR_len]); rfl))
      · rw [rowsGo_bad he2] at hgo
        have hp := hpg (by rw [hgo]; exact he2)
        rw [hgo] at hp
        have hs7 : ((nums (nxt L2).1 wRow lo4 hi4 z).2.2 != 0) = true := by simpa using he2
        generalize nums (nxt L2).1 wRow lo4 hi4 z = q2 at *
        obtain ⟨n2, at2, e2⟩ := q2
        dsimp only at *
        (refine Wk.o ?_; (repeat revert hK K); refine W30cba ?_; (repeat intro K hK); refine ⟨?_⟩)
        (simp only [bodyX]; refine ⟨_, by simp only [aresults, aresult, XS.as, Tryd.results21, aload, go_sem, Option.bind_some]; rfl, ?_⟩)
        exact ⟨_, Snap.quad snap_ob0 (.same _ (.iv _)) (.same _ (.iv _)) (.same _ (.iv _)), by rw [hp, taken_bad he2], trivial⟩
    · have hs6 : decide ((i : Int) ≤ n3) = false := decide_eq_false hlt
      have hi3 : n3 = (R.length : Int) := by omega
      rw [show n3.toNat + 1 - i = 0 by omega, rowsGo] at hgo
      subst hgo
      have hpo := hpo rfl
      dsimp only at hpo
      have hC := pf_rObCheck ⟨S, Kn, I, R⟩ (by show R.length ≤ 100000; omega) ⟨by show _ ∧ _; dsimp only; omega, by show _ ∧ _; dsimp only; omega, by show _ ∧ _; dsimp only; omega⟩
      have hat := ob_at (o := ⟨S, Kn, I, R⟩)
      have hat2 := ob_at2 (o := ⟨S, Kn, I, R⟩)
      generalize obE ⟨S, Kn, I, R⟩ = oe at *
      generalize obAt ⟨S, Kn, I, R⟩ = oa at *
      have hfault : oe ≠ 0 → ∃ kk, (oa + 1).toNat = kk ∧ kk < l.length ∧ (-1 ≤ oa ∧ oa ≤ 1000000) ∧ (l.getD kk []).length ≠ 0 ∧ Q = (ob0, [], ((l.getD kk []).getD 0 tok0).2.1, oe) := fun h0 => by
        have hlt2 : ∀ kk, (l.getD kk []).length ≠ 0 → kk < l.length := fun kk h => by
          rcases Nat.lt_or_ge kk l.length with h1 | h1
          · exact h1
          · rw [List.getD_eq_getElem?_getD, List.getElem?_eq_none h1] at h; exact absurd rfl h
        by_cases h2 : oe = 2
        · have ha := hat2 h2
          refine ⟨0, by rw [ha]; rfl, hlt2 0 hne, by omega, hne, ?_⟩
          rw [hpo, if_pos h2, h2]
        · obtain ⟨ha1, ha2⟩ := hat h0 h2
          dsimp only at ha2
          obtain ⟨c1, c2⟩ := hPk oa.toNat (by omega)
          refine ⟨oa.toNat + 1, by omega, hlt2 _ c2, by omega, c2, ?_⟩
          rw [hpo, if_neg h2, if_pos h0, c1]
      (refine Wk.o ?_; (repeat revert hK K); refine W30cba ?_; (repeat intro K hK); refine ⟨?_⟩)
      refine XRes_sayN rfl hC (SnapL.cons (snap_ob rfl rfl) (SnapL.nil _)) (noImm2 _ _) (fun _ => rfl) ?_
      (simp only [putL, List.set_cons_succ, List.set_cons_zero])
      by_cases h0 : oe = 0
      · subst h0
        rw [if_neg (by decide), if_neg (by simp)] at hpo
        have hs7 : n3 + 1 = (R.length : Int) + 1 := by omega
        (refine Wk.o ?_; (repeat revert hK K); refine W30cba ?_; (repeat intro K hK); refine ⟨?_⟩)
        refine AX_drawLk (fun H => H[1]? = some (some ⟨25, [lt (.int .i64 S), lt (.int .i64 Kn), lt (.int .i64 I), .osl 2 0 R.length 4]⟩)) 10 [.free, .free, .free, .free, .free, .free, .chg, .free, .free, .free] [true, false, false, true, false, false, true, false, false, false] (by kernel_rfl) (by decide +kernel) (by decide +kernel) rfl fun K hK => ?_
        simp only [go_sem]
        repeat (first | (first | ((with_reducible refine ADL_free tyOK ?_ ?_ ?_); (focus rfl); (focus (first | (with_reducible rfl) | ((simp (disch := omega) only [go_sem]); done))); simp (disch := omega) only [go_sem , hg0, hg1, hg2, hg3, hs1, hs2, hs3, hs4, hs5, hs6, hs7, hs8, hs9, hsa, hsb, Int.toNat_zero, Int.toNat_one, Int.reduceToNat, Nat.reduceMul, Nat.reduceAdd, Nat.zero_add, Nat.one_mul, Int.toNat_natCast, Nat.reduceEqDiff, List.length_map, List.length_cons, List.length_nil, flatR_len]; (with_reducible refine ADL_id ?_)) | ((refine ADL_look tyOK (by rfl) (by rfl) (fun H hS => by first | (simp only [go_sem, hS , hg0, hg1, hg2, hg3, hs1, hs2, hs3, hs4, hs5, hs6, hs7, hs8, hs9, hsa, hsb, Int.toNat_zero, Int.toNat_one, Int.reduceToNat, Nat.reduceMul, Nat.reduceAdd, Nat.zero_add, Nat.one_mul, Int.toNat_natCast, Nat.reduceEqDiff, List.length_map, List.length_cons, List.length_nil, flatR_len]; rfl) | (simp (disch := omega) only [go_sem , hg0, hg1, hg2, hg3, hs1, hs2, hs3, hs4, hs5, hs6, hs7, hs8, hs9, hsa, hsb, Int.toNat_zero, Int.toNat_one, Int.reduceToNat, Nat.reduceMul, Nat.reduceAdd, Nat.zero_add, Nat.one_mul, Int.toNat_natCast, Nat.reduceEqDiff, List.length_map, List.length_cons, List.length_nil, flatR_len]; rfl)) ?_); (simp only [putL, List.set_cons_succ, List.set_cons_zero])) | ((with_reducible refine ADL_chg tyOK ?_ ?_ ?_); (focus (simp only [List.length_cons]; omega)); (focus (first | (with_reducible rfl) | ((simp (disch := omega) only [go_sem]); done))); simp (disch := omega) only [go_sem , hg0, hg1, hg2, hg3, hs1, hs2, hs3, hs4, hs5, hs6, hs7, hs8, hs9, hsa, hsb, Int.toNat_zero, Int.toNat_one, Int.reduceToNat, Nat.reduceMul, Nat.reduceAdd, Nat.zero_add, Nat.one_mul, Int.toNat_natCast, Nat.reduceEqDiff, List.length_map, List.length_cons, List.length_nil, flatR_len]; (first | (refine ⟨(by decide), (fun hh => by first | trivial | rfl | cases hh), ?_⟩) | (refine ⟨(by decide), ?_⟩) | (refine ⟨(fun hh => by first | trivial | rfl | cases hh), ?_⟩) | skip); (with_reducible refine ADL_id ?_))) | ((refine ADL_nil ?_); (refine hK _ _ _ (by simp only [List.length_cons]; omega) ?_); clear hK K))
        (refine Wk.o ?_; (repeat revert hK K); refine W30cba ?_; (repeat intro K hK); refine ⟨?_⟩)
        (simp only [bodyX]; refine ⟨_, by simp only [aresults, aresult, XS.as, Tryd.results21, aload, go_sem, Option.bind_some]; rfl, ?_⟩)
        exact ⟨_, Snap.quad (snap_ob rfl rfl) (.same _ (.iv _)) (.same _ (.iv _)) (.same _ (.iv _)), by rw [hpo, taken_ok]; rfl, trivial⟩
      · obtain ⟨kk, k1, k2, k3, k4, k5⟩ := hfault h0
        have hs8 : (oe != 0) = true := by simpa using h0
        have hTk := hl.get kk
        have hlk := hTk.len
        obtain ⟨f1, f2, f3⟩ := tokL_atL (T := l.getD kk []) (k := 0) (by omega)
        have hs7 : (tokL (l.getD kk [])).getD 1 undef = _ := f2
        have hs9 : iTokL (l.getD kk []) = .sl (fun j => .lit ((tokL (l.getD kk [])).getD j undef)) (l.getD kk []).length 3 := rfl
        have hsa := k1
        have hsb : iLs l = .sl (fun j => iTokL (l.getD j [])) l.length 1 := rfl
        clear f1 f2 f3
        generalize ((l.getD kk []).getD 0 tok0).2.1 = pk at *
        (refine Wk.o ?_; (repeat revert hK K); refine W30cba ?_; (repeat intro K hK); refine ⟨?_⟩)
        refine AX_drawLk (fun _ => True) 14 [.free, .free, .free, .free, .free, .free, .free, .free, .free, .free, .chg, .free, .free, .free] [false, false, false, false, false, true, false, false, true, false, true, false, false, false] (by kernel_rfl) (by decide +kernel) (by decide +kernel) trivial fun K hK => ?_
        simp only [go_sem]
        repeat (first | (first | ((with_reducible refine ADL_free tyOK ?_ ?_ ?_); (focus rfl); (focus (first | (with_reducible rfl) | ((simp (disch := omega) only [go_sem]); done))); simp (disch := omega) only [go_sem , hg0, hg1, hg2, hg3, hs1, hs2, hs3, hs4, hs5, hs6, hs7, hs8, hs9, hsa, hsb, Int.toNat_zero, Int.toNat_one, Int.reduceToNat, Nat.reduceMul, Nat.reduceAdd, Nat.zero_add, Nat.one_mul, Int.toNat_natCast, Nat.reduceEqDiff, List.length_map, List.length_cons, List.length_nil, flatR_len]; (with_reducible refine ADL_id ?_)) | ((refine ADL_look tyOK (by rfl) (by rfl) (fun H hS => by first | (simp only [go_sem, hS , hg0, hg1, hg2, hg3, hs1, hs2, hs3, hs4, hs5, hs6, hs7, hs8, hs9, hsa, hsb, Int.toNat_zero, Int.toNat_one, Int.reduceToNat, Nat.reduceMul, Nat.reduceAdd, Nat.zero_add, Nat.one_mul, Int.toNat_natCast, Nat.reduceEqDiff, List.length_map, List.length_cons, List.length_nil, flatR_len]; rfl) | (simp (disch := omega) only [go_sem , hg0, hg1, hg2, hg3, hs1, hs2, hs3, hs4, hs5, hs6, hs7, hs8, hs9, hsa, hsb, Int.toNat_zero, Int.toNat_one, Int.reduceToNat, Nat.reduceMul, Nat.reduceAdd, Nat.zero_add, Nat.one_mul, Int.toNat_natCast, Nat.reduceEqDiff, List.length_map, List.length_cons, List.length_nil, flatR_len]; rfl)) ?_); (simp only [putL, List.set_cons_succ, List.set_cons_zero])) | ((with_reducible refine ADL_chg tyOK ?_ ?_ ?_); (focus (simp only [List.length_cons]; omega)); (focus (first | (with_reducible rfl) | ((simp (disch := omega) only [go_sem]); done))); simp (disch := omega) only [go_sem , hg0, hg1, hg2, hg3, hs1, hs2, hs3, hs4, hs5, hs6, hs7, hs8, hs9, hsa, hsb, Int.toNat_zero, Int.toNat_one, Int.reduceToNat, Nat.reduceMul, Nat.reduceAdd, Nat.zero_add, Nat.one_mul, Int.toNat_natCast, Nat.reduceEqDiff, List.length_map, List.length_cons, List.length_nil, flatR_len]; (first | (refine ⟨(by decide), (fun hh => by first | trivial | rfl | cases hh), ?_⟩) | (refine ⟨(by decide), ?_⟩) | (refine ⟨(fun hh => by first | trivial | rfl | cases hh), ?_⟩) | skip); (with_reducible refine ADL_id ?_))) | ((refine ADL_nil ?_); (refine hK _ _ _ (by simp only [List.length_cons]; omega) ?_); clear hK K))
        (refine Wk.o ?_; (repeat revert hK K); refine W30cba ?_; (repeat intro K hK); refine ⟨?_⟩)
        (simp only [bodyX]; refine ⟨_, by simp only [aresults, aresult, XS.as, Tryd.results21, aload, go_sem, Option.bind_some]; rfl, ?_⟩)
        exact ⟨_, Snap.quad snap_ob0 (.same _ (.iv _)) (.same _ (.iv _)) (.same _ (.iv _)), by rw [k5, taken_bad h0], trivial⟩
  · have hp := takeP_q he
    have hs1 : ((tq L z).2.2 != 0) = true := by simpa using he
    generalize takeP L z = Q at *
    generalize tq L z = q at *
    obtain ⟨n, at1, e1⟩ := q
    dsimp only at *
    (refine SF_of_bodyX (aload tt) (aload_ok tyOK) Tryd.func21 rfl (by kernel_rfl) ?_; simp only [Tryd.ntmps21, List.length_cons, List.length_nil, Nat.reduceAdd, Nat.reduceSub, List.replicate_succ, List.replicate_zero, List.cons_append, List.nil_append])
    (refine Wk.o ?_; (repeat revert hK K); refine W30cba ?_; (repeat intro K hK); refine ⟨?_⟩)
    (simp only [bodyX]; refine ⟨_, by simp only [aresults, aresult, XS.as, Tryd.results21, aload, go_sem, Option.bind_some]; rfl, ?_⟩)
    exact ⟨_, Snap.quad snap_ob0 (.same _ (.iv _)) (.same _ (.iv _)) (.same _ (.iv _)), by rw [hp, taken_bad he], trivial⟩
end Go.Proofs.YtdaenbgjafalcaaDoor
namespace Go.Proofs.YtdaenbgjafalcaaDoor
open Go.RowKit Go.Lib
set_option linter.unusedVariables false
set_option linter.unusedSimpArgs false
theorem rowsGo_said {z : Int} : ∀ (m : Nat) (L : List (List Tok3)) (R : List Rw) (P : List Int), (rowsGo z m L R P).2.2.2.2 = 0 → said (rowsGo z m L R P).2.2.1 = (said L).drop m ∧ (rowsGo z m L R P).1.length = R.length + m
  | 0, L, R, P, _ => ⟨by simp [rowsGo], by simp [rowsGo]⟩
  | m + 1, L, R, P, h => by
    by_cases he : (nums (nxt L).1 wRow lo4 hi4 z).2.2 = 0
    · rw [rowsGo_ok he] at h ⊢
      obtain ⟨h1, h2⟩ := rowsGo_said m _ _ _ h
      rw [h1, h2, (nxt_said L).2, List.drop_drop]
      exact ⟨by congr 1; omega, by simp; omega⟩
    · rw [rowsGo_bad he] at h; exact absurd h he
theorem takeP_said {L : List (List Tok3)} {z : Int} (h : (takeP L z).2.2.2 = 0) : said (takeP L z).2.1 = (said L).drop ((takeP L z).1.R.length + 1) ∧ (takeP L z).2.2.1 = z := by
  by_cases he : (tq L z).2.2 = 0
  · by_cases hg : (tg L z).2.2.2.2 = 0
    · have ho := takeP_o he hg
      obtain ⟨h1, h2⟩ := rowsGo_said _ _ _ _ (show (rowsGo z ((tq L z).1.getD 3 0).toNat (nxt L).2 [] []).2.2.2.2 = 0 from hg)
      by_cases c1 : obE (tob L z) = 2
      · rw [ho, if_pos c1] at h; cases h
      · by_cases c2 : obE (tob L z) ≠ 0
        · rw [ho, if_neg c1, if_pos c2] at h; exact absurd h c2
        · rw [ho, if_neg c1, if_neg c2]
          refine ⟨?_, rfl⟩
          show said (tg L z).2.2.1 = (said L).drop ((tg L z).1.length + 1)
          have e1 : (tg L z).2.2.1 = (rowsGo z ((tq L z).1.getD 3 0).toNat (nxt L).2 [] []).2.2.1 := rfl
          have e2 : (tg L z).1.length = (rowsGo z ((tq L z).1.getD 3 0).toNat (nxt L).2 [] []).1.length := rfl
          rw [e1, e2, h1, h2, (nxt_said L).2, List.drop_drop]
          congr 1; simp; omega
    · rw [takeP_g he hg] at h; exact absurd h hg
  · rw [takeP_q he] at h; exact absurd h he
theorem takeP_bad {L : List (List Tok3)} {z : Int} (h : (takeP L z).2.2.2 ≠ 0) : (takeP L z).1 = ob0 := by
  by_cases he : (tq L z).2.2 = 0
  · by_cases hg : (tg L z).2.2.2.2 = 0
    · rw [takeP_o he hg] at h ⊢
      split
      · rfl
      · rename_i c1
        rw [if_neg c1] at h
        split
        · rfl
        · rename_i c2; rw [if_neg c2] at h; exact absurd rfl h
    · rw [takeP_g he hg]
  · rw [takeP_q he]
theorem chain_mem {n : Nat} : ∀ {T : List Tok3} {e : Nat}, ChainT n e T → ∀ t ∈ T, 0 ≤ t.2.1 ∧ t.2.1 ≤ n ∧ t.2.2.length ≤ n
  | [], e, _, t, h => by cases h
  | x :: T, e, ⟨p, h1, h2, h3, h4, h5⟩, t, ht => by
    rcases List.mem_cons.1 ht with rfl | ht
    · rw [h1]; omega
    · exact chain_mem h5 t ht
theorem lnsT_okG {l : List UInt8} (hl : l.length ≤ 1000000) (hn : (lns 1 0 l).length ≤ 100000) : LsOK (lnsT l) := by
  have hs := lns_sum l.length 1 0 l (Nat.le_refl _)
  have hc := chain_rows _ _ _ (lns_rows l)
  refine ⟨by unfold lnsT; rw [List.length_map]; omega, fun T hT => ?_⟩
  unfold lnsT at hT
  obtain ⟨r, hr, rfl⟩ := List.mem_map.1 hT
  have hrl := hs.2.2 r hr
  have hm : ∀ t ∈ rowT r, t ∈ allT (lns 1 0 l) := fun t ht => by unfold allT; exact List.mem_flatMap.2 ⟨r, hr, ht⟩
  have hg : ∀ j, (rowT r).getD j tok0 = tok0 ∨ (rowT r).getD j tok0 ∈ rowT r := fun j => by
    by_cases hj : j < (rowT r).length
    · exact .inr (by rw [List.getD_eq_getElem?_getD, List.getElem?_eq_getElem hj]; exact List.getElem_mem hj)
    · exact .inl (by rw [List.getD_eq_getElem?_getD, List.getElem?_eq_none (by omega)]; rfl)
  refine ⟨by have : (rowT r).length = r.2.2.length := rowT_length r.1 r.2.1 r.2.2; omega, fun j => ?_, fun j => ?_⟩
  · rcases hg j with h | h
    · rw [h]; simp [tok0]
    · have := chain_mem hc _ (hm _ h); omega
  · rcases hg j with h | h
    · rw [h]; simp [tok0]
    · have := chain_mem hc _ (hm _ h); omega
theorem lnsT_ok {l : List UInt8} (hl : l.length ≤ 100000) : LsOK (lnsT l) :=
  lnsT_okG (by omega) (by have hs := lns_sum l.length 1 0 l (Nat.le_refl _); omega)
def opr (l : List UInt8) : Ob × Int × Int := oprs (lnsT l) l.length
theorem takeP_ls {L : List (List Tok3)} {z : Int} (hL : LsOK L) : LsOK (takeP L z).2.1 := by
  have hrows : ∀ (m : Nat) (L : List (List Tok3)) (R : List Rw) (P : List Int), LsOK L → LsOK (rowsGo z m L R P).2.2.1 := by
    intro m
    induction m with
    | zero => intro L R P h; exact h
    | succ m ih =>
      intro L R P h
      by_cases he : (nums (nxt L).1 wRow lo4 hi4 z).2.2 = 0
      · rw [rowsGo_ok he]; exact ih _ _ _ (nxt_ok h).2
      · rw [rowsGo_bad he]; exact LsOK.nil
  by_cases he : (tq L z).2.2 = 0
  · by_cases hg : (tg L z).2.2.2.2 = 0
    · rw [takeP_o he hg]
      split
      · exact LsOK.nil
      · split
        · exact LsOK.nil
        · exact hrows _ _ _ _ (nxt_ok hL).2
    · rw [takeP_g he hg]; exact LsOK.nil
  · rw [takeP_q he]; exact LsOK.nil
end Go.Proofs.YtdaenbgjafalcaaDoor
namespace Go.Proofs.YtdaenbgjafalcaaDoor
open Go.RowKit Go.Lib
set_option linter.unusedVariables false
set_option linter.unusedSimpArgs false
theorem XRes_cellNewO {P : Program} {m : Nat} {Q : Exit → XS → Prop} {l : List Oper} {fr : List AV} {H : AHeap} {M : MS} (o t sz j : Nat) (x : AObj) (ho : H[o]? = some (some x)) (hj : x.cells[j]? = some (lt (.slice none 0 0))) (h : XRes P m Q (l, ⟨fr, H.set o (some ⟨x.t, x.cells.set j (.osl H.length 0 0 sz)⟩) ++ [some ⟨t, []⟩], M⟩)) : XRes P m Q (l, ⟨fr, H, M⟩) := by
  have hol := (List.getElem?_eq_some_iff.1 ho).1
  refine XRes_lead (S := fun s1 => s1 = ⟨fr, H ++ [some ⟨t, []⟩], M⟩) (.of (.more t rfl)) fun s' e _ => ?_
  subst e
  refine XRes_lead (S := fun s1 => s1 = ⟨fr, H.set o (some ⟨x.t, x.cells.set j (.osl H.length 0 0 sz)⟩) ++ [some ⟨t, []⟩], M⟩) (.of (.cellNilAt o H.length sz j x ⟨t, []⟩ (by rw [List.getElem?_append_left hol]; exact ho) hj (by simp) ?_)) fun s' e _ => by rw [e]; exact h
  show (⟨_, _, _⟩ : XS) = _
  rw [List.set_append_left _ _ hol]
def numB (n : Int) : List UInt8 := 32 :: itoa n
def lineB (w : List UInt8) (ns : List Int) : List UInt8 := w ++ ns.flatMap numB ++ [10]
def rowB4 (r : Rw) : List UInt8 := lineB wRow [r.s, r.k, r.n, r.r]
def headB4 (o : Ob) : List UInt8 := lineB wObj [o.S, o.K, o.I, o.R.length]
def obB (o : Ob) : List UInt8 := headB4 o ++ o.R.flatMap rowB4
theorem numB_len {n : Int} (h : Fit n) : (numB n).length ≤ 22 := by
  have := itoa_length_le n h.1 h.2
  unfold numB; rw [List.length_cons]; omega
theorem lineB_len {w : List UInt8} {ns : List Int} (hw : w.length ≤ 100) (h : ∀ x ∈ ns, Fit x) (hn : ns.length ≤ 4) : (lineB w ns).length ≤ 200 := by
  have := flat_mul numB 22 fun x hx => numB_len (h x hx)
  unfold lineB; rw [List.length_append, List.length_append]
  have : ([10] : List UInt8).length = 1 := rfl
  have : ns.length * 22 ≤ 4 * 22 := Nat.mul_le_mul_right _ hn
  omega
attribute [go_sem] rnL_u8C idL_u8C
theorem Wd8c7a {A B : Prop} (h9 : B) (w : B → A := by (intro h9; (repeat intro K hK); refine ⟨?_⟩; (repeat (first | (first | (with_reducible first | refine AX_block ?_ | refine AX_skip ?_ | refine AX_exit ?_ | refine AX_ret ?_ | refine AX_ift ?_ | refine AX_iff ?_ | refine AX_seq_k (fun K hK => ?_) | refine ContX.use (by assumption) ?_) | simp only [thenX, inBlockX, if_true, if_false, reduceCtorEq]) | (first | ((first | (with_reducible refine XRes_op tyOK ?_ ?_) | ((with_reducible first | refine ADF_op tyOK ?_ ?_ ?_ | refine ADX_op tyOK ?_ ?_ ?_); (focus rfl)) | (with_reducible refine ADR_alloc1 tyOK ?_ ?_) | ((with_reducible refine ADR_free1 tyOK ?_ ?_ ?_); (focus rfl)) | ((with_reducible refine ADR_free0 tyOK ?_ ?_ ?_); (focus rfl)) | ((with_reducible refine ADR_read1 tyOK ?_ ?_ ?_); (focus rfl)) | (with_reducible refine ADR_chg1 tyOK ?_ ?_)); (focus (first | (with_reducible rfl) | ((simp (disch := omega) only [go_sem]); done))); simp (disch := omega) only [go_sem , hs1, hs2, hs3, hs4, hs5, hs6, hs7, hs8, hs9, Int.toNat_zero, Int.toNat_one, Int.toNat_natCast, ba_size, ba_app, List.length_append, List.length_nil, List.length_cons, Nat.reduceAdd, u8C_len, List.length_set]; (first | (with_reducible refine XRes_id ?_) | (with_reducible refine ADF_id ?_) | (with_reducible refine ADR_id1 ?_) | (with_reducible refine ADX_id ?_))) | ((first | (with_reducible refine XRes_skip ?_ ?_) | (with_reducible refine ADF_skip (b := true) ?_ ?_) | (with_reducible refine ADX_skip ?_ ?_) | ((with_reducible refine ADR_skip1 ?_ ?_ ?_); (focus rfl))); (focus (first | rfl | ((simp (disch := omega) only [go_sem]); done))); (simp only [putL, List.set_cons_succ, List.set_cons_zero]))) | ((first | (with_reducible refine XRes_nil ?_) | (with_reducible refine ADF_nil ?_) | (with_reducible refine ADR_nil ?_) | (with_reducible refine ADX_nil ?_)); (first | refine hK _ ?_ | refine hK _ _ ?_); clear hK K) | ((first | (with_reducible refine AX_reg0 fun K hK => ?_) | (refine AX_drawG1 tyOK (by kernel_rfl) (by rfl) (by kernel_rfl) fun K hK => ?_) | (refine AX_drawT tyOK (by kernel_rfl) (by decide +kernel) fun K hK => ?_) | (refine AX_drawM1 (by kernel_rfl) (by rfl) (by decide +kernel) fun K hK => ?_) | (refine AX_drawA tyOK (by kernel_rfl) (by decide +kernel) fun K hK => ?_)); (first | simp only [go_sem, preN, effOp, runF, alM, mapOp, alD2, kdOf2, Bool.not_false, Bool.not_true, reduceCtorEq] | simp only [go_sem, preN, effOp, runF, alM, mapOp, Bool.not_false, Bool.not_true, reduceCtorEq] | simp only [go_sem, preN, effOp, runF, alD2, kdOf2, Bool.not_false, Bool.not_true, reduceCtorEq] | simp only [go_sem, alD2, kdOf2, Bool.not_false, Bool.not_true, reduceCtorEq] | simp only [go_sem, preN, effOp, runF, Bool.not_false, Bool.not_true, reduceCtorEq] | simp only [go_sem])) | (first | (first | refine XTL (by rfl) hD ?_ | refine ATL tyOK (by rfl) hD ?_ | refine XTL (by rfl) hL ?_ | refine ATL tyOK (by rfl) hL ?_ | refine XTL (by rfl) hk ?_ | refine ATL tyOK (by rfl) hk ?_ | refine XTL (by rfl) hW ?_ | refine ATL tyOK (by rfl) hW ?_)))); refine Wk.o ?_; (repeat revert hK K); exact h9)) : A := w h9
theorem Wd8c7b {A B : Prop} (h9 : B) (w : B → A := by (intro h9; (repeat intro K hK); refine ⟨?_⟩; (repeat (first | (first | (with_reducible first | refine AX_block ?_ | refine AX_skip ?_ | refine AX_exit ?_ | refine AX_ret ?_ | refine AX_ift ?_ | refine AX_iff ?_ | refine AX_seq_k (fun K hK => ?_) | refine ContX.use (by assumption) ?_) | simp only [thenX, inBlockX, if_true, if_false, reduceCtorEq]) | (first | ((first | (with_reducible refine XRes_op tyOK ?_ ?_) | ((with_reducible first | refine ADF_op tyOK ?_ ?_ ?_ | refine ADX_op tyOK ?_ ?_ ?_); (focus rfl)) | (with_reducible refine ADR_alloc1 tyOK ?_ ?_) | ((with_reducible refine ADR_free1 tyOK ?_ ?_ ?_); (focus rfl)) | ((with_reducible refine ADR_free0 tyOK ?_ ?_ ?_); (focus rfl)) | ((with_reducible refine ADR_read1 tyOK ?_ ?_ ?_); (focus rfl)) | (with_reducible refine ADR_chg1 tyOK ?_ ?_)); (focus (first | (with_reducible rfl) | ((simp (disch := omega) only [go_sem]); done))); simp (disch := omega) only [go_sem , hs1, hs2, hs3, hs4, hs5, hs6, hs7, hs8, hs9, Int.toNat_zero, Int.toNat_one, Int.toNat_natCast, ba_size, ba_app, List.length_append, List.length_nil, List.length_cons, Nat.reduceAdd, u8C_len, List.length_set]; (first | (with_reducible refine XRes_id ?_) | (with_reducible refine ADF_id ?_) | (with_reducible refine ADR_id1 ?_) | (with_reducible refine ADX_id ?_))) | ((first | (with_reducible refine XRes_skip ?_ ?_) | (with_reducible refine ADF_skip (b := true) ?_ ?_) | (with_reducible refine ADX_skip ?_ ?_) | ((with_reducible refine ADR_skip1 ?_ ?_ ?_); (focus rfl))); (focus (first | rfl | ((simp (disch := omega) only [go_sem]); done))); (simp only [putL, List.set_cons_succ, List.set_cons_zero]))) | ((first | (with_reducible refine XRes_nil ?_) | (with_reducible refine ADF_nil ?_) | (with_reducible refine ADR_nil ?_) | (with_reducible refine ADX_nil ?_)); (first | refine hK _ ?_ | refine hK _ _ ?_); clear hK K) | (first | (first | refine XTL (by rfl) hD ?_ | refine ATL tyOK (by rfl) hD ?_ | refine XTL (by rfl) hL ?_ | refine ATL tyOK (by rfl) hL ?_ | refine XTL (by rfl) hk ?_ | refine ATL tyOK (by rfl) hk ?_ | refine XTL (by rfl) hW ?_ | refine ATL tyOK (by rfl) hW ?_)) | ((with_reducible refine AX_reg0 fun K hK => ?_); simp only [go_sem]) | ((refine AX_drawG1 tyOK (by kernel_rfl) (by rfl) (by kernel_rfl) fun K hK => ?_); (first | simp only [go_sem, preN, effOp, runF, alM, mapOp, alD2, kdOf2, Bool.not_false, Bool.not_true, reduceCtorEq] | simp only [go_sem, preN, effOp, runF, alM, mapOp, Bool.not_false, Bool.not_true, reduceCtorEq] | simp only [go_sem, preN, effOp, runF, alD2, kdOf2, Bool.not_false, Bool.not_true, reduceCtorEq] | simp only [go_sem, alD2, kdOf2, Bool.not_false, Bool.not_true, reduceCtorEq] | simp only [go_sem, preN, effOp, runF, Bool.not_false, Bool.not_true, reduceCtorEq] | simp only [go_sem])))); refine Wk.o ?_; (repeat revert hK K); exact h9)) : A := w h9
set_option maxRecDepth 100000 in
set_option maxHeartbeats 4000000 in
theorem pf_oline (w : List UInt8) (ns : List Int) (hw : w.length ≤ 100) (hns : ns.length ≤ 4) (hF : ∀ x ∈ ns, Fit x) : PF Tryd.prog 67 [lt (.string (ba w)), .iv (iInts ns)] fun r H' => r = lt (.string (ba (lineB w ns))) ∧ H' = [] := by
  refine SF.forgetAll ?_
  have hs1 := trivial; have hs2 := trivial; have hs3 := trivial; have hs4 := trivial; have hs5 := trivial; have hs6 := trivial; have hs7 := trivial; have hs8 := trivial; have hs9 := trivial; have hD := trivial; have hL := trivial; have hk := trivial; have hW := trivial
  have hs5 : (⟨#[32]⟩ : ByteArray) = ba [32] := rfl
  have hs6 : (⟨#[10]⟩ : ByteArray) = ba [10] := rfl
  have htot := lineB_len hw hF hns
  unfold lineB at htot
  rw [List.length_append, List.length_append] at htot
  have h1 : ([10] : List UInt8).length = 1 := rfl
  (refine SF_of_bodyX (aload tt) (aload_ok tyOK) Tryd.func67 rfl (by kernel_rfl) ?_; simp only [Tryd.ntmps67, List.length_cons, List.length_nil, Nat.reduceAdd, Nat.reduceSub, List.replicate_succ, List.replicate_zero, List.cons_append, List.nil_append])
  unfold iInts
  (refine Wk.o ?_; (repeat revert hK K); refine Wd8c7a ?_; (repeat intro K hK); refine ⟨?_⟩)
  (refine AWH (σ := Nat × List UInt8) [10, 11, 12, 6, 13, 14, 15, 16, 17, 18] (fun (k, x) => [(9, lint k), (0, lt (.string (ba x)))]) (fun (k, x) => []) (fun (k, x) => []) (fun (k, x) => k ≤ ns.length ∧ x = w ++ (ns.take k).flatMap numB) (fun (k, x) => ns.length - k) (0, w) (by first | exact ⟨Nat.zero_le _, by simp⟩) ?_; rintro ⟨k, x⟩ d fr hfr ⟨hk2, hx0⟩; simp only [updS, deadS, List.set_cons_succ, List.set_cons_zero, lint] at hfr; subst hfr; (try dsimp only))
  by_cases hlt : k < ns.length
  · have hst := flat_step numB 0 hlt
    have hle := flat_lt numB 0 hlt
    have hx : Fit (ns.getD k 0) := hF _ (by rw [List.getD_eq_getElem?_getD, List.getElem?_eq_getElem hlt]; exact List.getElem_mem hlt)
    have hxl : x.length ≤ w.length + (ns.flatMap numB).length := by rw [hx0, List.length_append]; have := flat_le numB ns k; omega
    have hnew : x ++ ([32] ++ itoa (ns.getD k 0)) = w ++ (ns.take (k + 1)).flatMap numB := by rw [hst, hx0, List.append_assoc]; rfl
    have hD := pf_Digits (ns.getD k 0) hx.1 hx.2
    have hil := itoa_length_le (ns.getD k 0) hx.1 hx.2
    (refine Wk.o ?_; (repeat revert hK K); refine Wd8c7b ?_; (repeat intro K hK); refine ⟨?_⟩)
    exact whx_end (k + 1, x ++ ([32] ++ itoa (ns.getD k 0))) ⟨by dsimp only; omega, hnew⟩ (by dsimp only; omega) rfl rfl (fun d => by first | ((simp (disch := omega) only [go_sem, lint , hs1, hs2, hs3, hs4, hs5, hs6, hs7, hs8, hs9, Int.toNat_zero, Int.toNat_one, Int.toNat_natCast, ba_size, ba_app, List.length_append, List.length_nil, List.length_cons, Nat.reduceAdd, u8C_len, List.length_set]); done) | ((simp (disch := omega) only [go_sem, lint , hs1, hs2, hs3, hs4, hs5, hs6, hs7, hs8, hs9, Int.toNat_zero, Int.toNat_one, Int.toNat_natCast, ba_size, ba_app, List.length_append, List.length_nil, List.length_cons, Nat.reduceAdd, u8C_len, List.length_set]); rfl))
  · obtain rfl : k = ns.length := by omega
    rw [List.take_length] at hx0
    have hxl : x.length ≤ 200 := by rw [hx0, List.length_append]; omega
    (refine Wk.o ?_; (repeat revert hK K); refine Wd8c7b ?_; (repeat intro K hK); refine ⟨?_⟩)
    (simp only [bodyX]; refine ⟨_, by simp only [aresults, aresult, XS.as, Tryd.results67, aload, go_sem, Option.bind_some]; rfl, ?_⟩)
    exact ⟨ids_idB rfl, by unfold lineB; rw [hx0], trivial⟩
set_option maxRecDepth 100000 in
set_option maxHeartbeats 4000000 in
theorem pf_rWords (w : List UInt8) (ns : List Int) (hw : w.length ≤ 100) (hns : ns.length ≤ 4) (hF : ∀ x ∈ ns, Fit x) : PF Tryd.prog 31 [lt (.string (ba w)), .iv (iInts ns)] fun r H' => r = lt (.string (ba (lineB w ns))) ∧ H' = [] := by
  refine SF.forgetAll ?_
  have hs1 := trivial; have hs2 := trivial; have hs3 := trivial; have hs4 := trivial; have hs5 := trivial; have hs6 := trivial; have hs7 := trivial; have hs8 := trivial; have hs9 := trivial; have hD := trivial; have hL := trivial; have hk := trivial; have hW := trivial
  have hs5 : (⟨#[32]⟩ : ByteArray) = ba [32] := rfl
  have hs6 : (⟨#[10]⟩ : ByteArray) = ba [10] := rfl
  have htot := lineB_len hw hF hns
  unfold lineB at htot
  rw [List.length_append, List.length_append] at htot
  have h1 : ([10] : List UInt8).length = 1 := rfl
  (refine SF_of_bodyX (aload tt) (aload_ok tyOK) Tryd.func31 rfl (by kernel_rfl) ?_; simp only [Tryd.ntmps31, List.length_cons, List.length_nil, Nat.reduceAdd, Nat.reduceSub, List.replicate_succ, List.replicate_zero, List.cons_append, List.nil_append])
  unfold iInts
  (refine Wk.o ?_; (repeat revert hK K); refine Wd8c7a ?_; (repeat intro K hK); refine ⟨?_⟩)
  (refine AWH (σ := Nat × List UInt8) [6, 7, 8, 9, 12, 13, 14, 15, 16, 17, 18, 19, 10, 11] (fun (k, x) => [(5, lint k), (0, lt (.string (ba x)))]) (fun (k, x) => []) (fun (k, x) => []) (fun (k, x) => k ≤ ns.length ∧ x = w ++ (ns.take k).flatMap numB) (fun (k, x) => ns.length - k) (0, w) (by first | exact ⟨Nat.zero_le _, by simp⟩) ?_; rintro ⟨k, x⟩ d fr hfr ⟨hk2, hx0⟩; simp only [updS, deadS, List.set_cons_succ, List.set_cons_zero, lint] at hfr; subst hfr; (try dsimp only))
  by_cases hlt : k < ns.length
  · have hst := flat_step numB 0 hlt
    have hle := flat_lt numB 0 hlt
    have hx : Fit (ns.getD k 0) := hF _ (by rw [List.getD_eq_getElem?_getD, List.getElem?_eq_getElem hlt]; exact List.getElem_mem hlt)
    have hxl : x.length ≤ w.length + (ns.flatMap numB).length := by rw [hx0, List.length_append]; have := flat_le numB ns k; omega
    have hnew : x ++ [32] ++ itoa (ns.getD k 0) = w ++ (ns.take (k + 1)).flatMap numB := by rw [hst, hx0, List.append_assoc, List.append_assoc]; rfl
    have hD := pf_rDigits (ns.getD k 0) hx.1 hx.2
    have hil := itoa_length_le (ns.getD k 0) hx.1 hx.2
    (refine Wk.o ?_; (repeat revert hK K); refine Wd8c7b ?_; (repeat intro K hK); refine ⟨?_⟩)
    exact whx_end (k + 1, x ++ [32] ++ itoa (ns.getD k 0)) ⟨by dsimp only; omega, hnew⟩ (by dsimp only; omega) rfl rfl (fun d => by first | ((simp (disch := omega) only [go_sem, lint , hs1, hs2, hs3, hs4, hs5, hs6, hs7, hs8, hs9, Int.toNat_zero, Int.toNat_one, Int.toNat_natCast, ba_size, ba_app, List.length_append, List.length_nil, List.length_cons, Nat.reduceAdd, u8C_len, List.length_set]); done) | ((simp (disch := omega) only [go_sem, lint , hs1, hs2, hs3, hs4, hs5, hs6, hs7, hs8, hs9, Int.toNat_zero, Int.toNat_one, Int.toNat_natCast, ba_size, ba_app, List.length_append, List.length_nil, List.length_cons, Nat.reduceAdd, u8C_len, List.length_set]); rfl))
  · obtain rfl : k = ns.length := by omega
    rw [List.take_length] at hx0
    have hxl : x.length ≤ 200 := by rw [hx0, List.length_append]; omega
    (refine Wk.o ?_; (repeat revert hK K); refine Wd8c7b ?_; (repeat intro K hK); refine ⟨?_⟩)
    (simp only [bodyX]; refine ⟨_, by simp only [aresults, aresult, XS.as, Tryd.results31, aload, go_sem, Option.bind_some]; rfl, ?_⟩)
    exact ⟨ids_idB rfl, by unfold lineB; rw [hx0], trivial⟩
theorem fit4 {a b c d : Int} (h1 : Fit a) (h2 : Fit b) (h3 : Fit c) (h4 : Fit d) : ∀ x ∈ [a, b, c, d], Fit x := fun x hx => by
  simp only [List.mem_cons, List.not_mem_nil, or_false] at hx
  rcases hx with rfl | rfl | rfl | rfl <;> assumption
set_option maxRecDepth 100000 in
set_option maxHeartbeats 4000000 in
theorem pf_ohead (S Kn I : Int) (R : List Rw) (hS : Fit S) (hK : Fit Kn) (hI : Fit I) (hR : R.length ≤ 1000000) : PF Tryd.prog 50 [obA ⟨S, Kn, I, R⟩] fun r H' => r = lt (.string (ba (lineB wObj [S, Kn, I, R.length]))) ∧ H' = [] := by
  refine SF.forgetAll ?_
  have hs1 := trivial; have hs2 := trivial; have hs3 := trivial; have hs4 := trivial; have hs5 := trivial; have hs6 := trivial; have hs7 := trivial; have hs8 := trivial; have hs9 := trivial; have hD := trivial; have hL := trivial; have hk := trivial; have hW := trivial
  have hL := pf_oline wObj [S, Kn, I, R.length] (by decide) (Nat.le_refl 4) (fit4 hS hK hI ⟨by omega, by omega⟩)
  (refine SF_of_bodyX (aload tt) (aload_ok tyOK) Tryd.func50 rfl (by kernel_rfl) ?_; simp only [Tryd.ntmps50, List.length_cons, List.length_nil, Nat.reduceAdd, Nat.reduceSub, List.replicate_succ, List.replicate_zero, List.cons_append, List.nil_append])
  repeat (first | (first | (with_reducible first | refine AX_block ?_ | refine AX_skip ?_ | refine AX_exit ?_ | refine AX_ret ?_ | refine AX_ift ?_ | refine AX_iff ?_ | refine AX_seq_k (fun K hK => ?_) | refine ContX.use (by assumption) ?_) | simp only [thenX, inBlockX, if_true, if_false, reduceCtorEq]) | ((first | (refine XRes_litF tyOK (by rfl) rfl (by decide) rfl rfl ?_) | (refine ADF_litF tyOK (by rfl) rfl (by decide) rfl rfl ?_)); (simp only [List.map_cons, List.map_nil, intOf, putL, List.set_cons_succ, List.set_cons_zero])) | (first | ((first | (with_reducible refine XRes_op tyOK ?_ ?_) | ((with_reducible first | refine ADF_op tyOK ?_ ?_ ?_ | refine ADX_op tyOK ?_ ?_ ?_); (focus rfl)) | (with_reducible refine ADR_alloc1 tyOK ?_ ?_) | ((with_reducible refine ADR_free1 tyOK ?_ ?_ ?_); (focus rfl)) | ((with_reducible refine ADR_free0 tyOK ?_ ?_ ?_); (focus rfl)) | ((with_reducible refine ADR_read1 tyOK ?_ ?_ ?_); (focus rfl)) | (with_reducible refine ADR_chg1 tyOK ?_ ?_)); (focus (first | (with_reducible rfl) | ((simp (disch := omega) only [go_sem]); done))); simp (disch := omega) only [go_sem , hs1, hs2, hs3, hs4, hs5, hs6, hs7, hs8, hs9, Int.toNat_zero, Int.toNat_one, Int.toNat_natCast, ba_size, ba_app, List.length_append, List.length_nil, List.length_cons, Nat.reduceAdd, u8C_len, List.length_set]; (first | (with_reducible refine XRes_id ?_) | (with_reducible refine ADF_id ?_) | (with_reducible refine ADR_id1 ?_) | (with_reducible refine ADX_id ?_))) | ((first | (with_reducible refine XRes_skip ?_ ?_) | (with_reducible refine ADF_skip (b := true) ?_ ?_) | (with_reducible refine ADX_skip ?_ ?_) | ((with_reducible refine ADR_skip1 ?_ ?_ ?_); (focus rfl))); (focus (first | rfl | ((simp (disch := omega) only [go_sem]); done))); (simp only [putL, List.set_cons_succ, List.set_cons_zero]))) | ((first | (with_reducible refine XRes_nil ?_) | (with_reducible refine ADF_nil ?_) | (with_reducible refine ADR_nil ?_) | (with_reducible refine ADX_nil ?_)); (first | refine hK _ ?_ | refine hK _ _ ?_); clear hK K) | ((first | (with_reducible refine AX_reg0 fun K hK => ?_) | (refine AX_drawG1 tyOK (by kernel_rfl) (by rfl) (by kernel_rfl) fun K hK => ?_) | (refine AX_drawT tyOK (by kernel_rfl) (by decide +kernel) fun K hK => ?_) | (refine AX_drawM1 (by kernel_rfl) (by rfl) (by decide +kernel) fun K hK => ?_) | (refine AX_drawA tyOK (by kernel_rfl) (by decide +kernel) fun K hK => ?_)); (first | simp only [go_sem, preN, effOp, runF, alM, mapOp, alD2, kdOf2, Bool.not_false, Bool.not_true, reduceCtorEq] | simp only [go_sem, preN, effOp, runF, alM, mapOp, Bool.not_false, Bool.not_true, reduceCtorEq] | simp only [go_sem, preN, effOp, runF, alD2, kdOf2, Bool.not_false, Bool.not_true, reduceCtorEq] | simp only [go_sem, alD2, kdOf2, Bool.not_false, Bool.not_true, reduceCtorEq] | simp only [go_sem, preN, effOp, runF, Bool.not_false, Bool.not_true, reduceCtorEq] | simp only [go_sem])) | (first | (first | refine XTL (by rfl) hD ?_ | refine ATL tyOK (by rfl) hD ?_ | refine XTL (by rfl) hL ?_ | refine ATL tyOK (by rfl) hL ?_ | refine XTL (by rfl) hk ?_ | refine ATL tyOK (by rfl) hk ?_ | refine XTL (by rfl) hW ?_ | refine ATL tyOK (by rfl) hW ?_)))
  (simp only [bodyX]; refine ⟨_, by simp only [aresults, aresult, XS.as, Tryd.results50, aload, go_sem, Option.bind_some]; rfl, ?_⟩)
  exact ⟨ids_idB rfl, rfl, trivial⟩
set_option maxRecDepth 100000 in
set_option maxHeartbeats 4000000 in
theorem pf_orow (a b c d : Int) (h1 : Fit a) (h2 : Fit b) (h3 : Fit c) (h4 : Fit d) : PF Tryd.prog 51 [.agg [lt (.int .i64 a), lt (.int .i64 b), lt (.int .i64 c), lt (.int .i64 d)]] fun r H' => r = lt (.string (ba (lineB wRow [a, b, c, d]))) ∧ H' = [] := by
  refine SF.forgetAll ?_
  have hs1 := trivial; have hs2 := trivial; have hs3 := trivial; have hs4 := trivial; have hs5 := trivial; have hs6 := trivial; have hs7 := trivial; have hs8 := trivial; have hs9 := trivial; have hD := trivial; have hL := trivial; have hk := trivial; have hW := trivial
  have hL := pf_oline wRow [a, b, c, d] (by decide) (Nat.le_refl 4) (fit4 h1 h2 h3 h4)
  (refine SF_of_bodyX (aload tt) (aload_ok tyOK) Tryd.func51 rfl (by kernel_rfl) ?_; simp only [Tryd.ntmps51, List.length_cons, List.length_nil, Nat.reduceAdd, Nat.reduceSub, List.replicate_succ, List.replicate_zero, List.cons_append, List.nil_append])
  repeat (first | (first | (with_reducible first | refine AX_block ?_ | refine AX_skip ?_ | refine AX_exit ?_ | refine AX_ret ?_ | refine AX_ift ?_ | refine AX_iff ?_ | refine AX_seq_k (fun K hK => ?_) | refine ContX.use (by assumption) ?_) | simp only [thenX, inBlockX, if_true, if_false, reduceCtorEq]) | ((first | (refine XRes_litF tyOK (by rfl) rfl (by decide) rfl rfl ?_) | (refine ADF_litF tyOK (by rfl) rfl (by decide) rfl rfl ?_)); (simp only [List.map_cons, List.map_nil, intOf, putL, List.set_cons_succ, List.set_cons_zero])) | (first | ((first | (with_reducible refine XRes_op tyOK ?_ ?_) | ((with_reducible first | refine ADF_op tyOK ?_ ?_ ?_ | refine ADX_op tyOK ?_ ?_ ?_); (focus rfl)) | (with_reducible refine ADR_alloc1 tyOK ?_ ?_) | ((with_reducible refine ADR_free1 tyOK ?_ ?_ ?_); (focus rfl)) | ((with_reducible refine ADR_free0 tyOK ?_ ?_ ?_); (focus rfl)) | ((with_reducible refine ADR_read1 tyOK ?_ ?_ ?_); (focus rfl)) | (with_reducible refine ADR_chg1 tyOK ?_ ?_)); (focus (first | (with_reducible rfl) | ((simp (disch := omega) only [go_sem]); done))); simp (disch := omega) only [go_sem , hs1, hs2, hs3, hs4, hs5, hs6, hs7, hs8, hs9, Int.toNat_zero, Int.toNat_one, Int.toNat_natCast, ba_size, ba_app, List.length_append, List.length_nil, List.length_cons, Nat.reduceAdd, u8C_len, List.length_set]; (first | (with_reducible refine XRes_id ?_) | (with_reducible refine ADF_id ?_) | (with_reducible refine ADR_id1 ?_) | (with_reducible refine ADX_id ?_))) | ((first | (with_reducible refine XRes_skip ?_ ?_) | (with_reducible refine ADF_skip (b := true) ?_ ?_) | (with_reducible refine ADX_skip ?_ ?_) | ((with_reducible refine ADR_skip1 ?_ ?_ ?_); (focus rfl))); (focus (first | rfl | ((simp (disch := omega) only [go_sem]); done))); (simp only [putL, List.set_cons_succ, List.set_cons_zero]))) | ((first | (with_reducible refine XRes_nil ?_) | (with_reducible refine ADF_nil ?_) | (with_reducible refine ADR_nil ?_) | (with_reducible refine ADX_nil ?_)); (first | refine hK _ ?_ | refine hK _ _ ?_); clear hK K) | ((first | (with_reducible refine AX_reg0 fun K hK => ?_) | (refine AX_drawG1 tyOK (by kernel_rfl) (by rfl) (by kernel_rfl) fun K hK => ?_) | (refine AX_drawT tyOK (by kernel_rfl) (by decide +kernel) fun K hK => ?_) | (refine AX_drawM1 (by kernel_rfl) (by rfl) (by decide +kernel) fun K hK => ?_) | (refine AX_drawA tyOK (by kernel_rfl) (by decide +kernel) fun K hK => ?_)); (first | simp only [go_sem, preN, effOp, runF, alM, mapOp, alD2, kdOf2, Bool.not_false, Bool.not_true, reduceCtorEq] | simp only [go_sem, preN, effOp, runF, alM, mapOp, Bool.not_false, Bool.not_true, reduceCtorEq] | simp only [go_sem, preN, effOp, runF, alD2, kdOf2, Bool.not_false, Bool.not_true, reduceCtorEq] | simp only [go_sem, alD2, kdOf2, Bool.not_false, Bool.not_true, reduceCtorEq] | simp only [go_sem, preN, effOp, runF, Bool.not_false, Bool.not_true, reduceCtorEq] | simp only [go_sem])) | (first | (first | refine XTL (by rfl) hD ?_ | refine ATL tyOK (by rfl) hD ?_ | refine XTL (by rfl) hL ?_ | refine ATL tyOK (by rfl) hL ?_ | refine XTL (by rfl) hk ?_ | refine ATL tyOK (by rfl) hk ?_ | refine XTL (by rfl) hW ?_ | refine ATL tyOK (by rfl) hW ?_)))
  (simp only [bodyX]; refine ⟨_, by simp only [aresults, aresult, XS.as, Tryd.results51, aload, go_sem, Option.bind_some]; rfl, ?_⟩)
  exact ⟨ids_idB rfl, rfl, trivial⟩
end Go.Proofs.YtdaenbgjafalcaaDoor
