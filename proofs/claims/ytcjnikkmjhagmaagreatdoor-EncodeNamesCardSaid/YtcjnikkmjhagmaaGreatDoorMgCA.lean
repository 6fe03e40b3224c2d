import Derived.Test.YtcjnikkmjhagmaaGreatDoorMgBR
import Derived.Test.YtcjnikkmjhagmaaGreatDoorMgBT
import Derived.Test.YtcjnikkmjhagmaaGreatDoorMgBV
import Derived.Test.YtcjnikkmjhagmaaGreatDoorMgBJ
import Derived.Test.YtcjnikkmjhagmaaGreatDoorMgBZ
import Derived.Test.YtcjnikkmjhagmaaGreatDoorMgAX
import Derived.Test.YtcjnikkmjhagmaaGreatDoorMgAT
import Derived.Test.YtcjnikkmjhagmaaGreatDoorMgAU
namespace Go.Proofs.YtcjnikkmjhagmaaGreatDoor
open Go.RowKit
set_option linter.unusedVariables false
set_option linter.unusedSimpArgs false
theorem nmX_len (o : Ob) (l : List Op5) : (nmX o l).length ≤ 900 := by
  unfold nmX
  by_cases he : eE o l = 0
  · rw [if_pos he, nmU_len]
    have := (eE_ok he).2.2.2.2.2
    omega
  · rw [if_neg he]; simp
theorem frz_rwsN {HD : AHeap} {o : Nat} {t : TypeId} {R : List (List Int)} {n : Nat} (h : HD[o]? = some (some ⟨t, R.map rowA⟩)) (hn : n = R.length) : FrzV HD (.osl o 0 n 1) (.iv (iRows R)) := by
  subst hn
  exact .iv _ _ (snapC_rw h)
theorem fw04_bd {A : List (List Int)} (h : fw04 A = true) : A.length ≤ 200 ∧ ∀ k, (A.getD k []).length ≤ 50 := by
  obtain ⟨h1, h2⟩ := (fw04_iff A).1 h
  refine ⟨h1, fun k => ?_⟩
  rcases Nat.lt_or_ge k A.length with hk | hk
  · rw [show A.getD k [] = A[k] by simp [List.getD, hk]]
    exact h2 _ (List.getElem_mem hk)
  · rw [show A.getD k [] = [] by simp [List.getD, hk]]; simp
theorem getD_app {A B : List (List Int)} (hA : ∀ k, (A.getD k []).length ≤ 50) (hB : ∀ k, (B.getD k []).length ≤ 50) (k : Nat) : ((A ++ B).getD k []).length ≤ 50 := by
  rcases Nat.lt_or_ge k A.length with hk | hk
  · rw [show (A ++ B).getD k [] = A.getD k [] by simp [List.getD, List.getElem?_append_left hk]]
    exact hA k
  · rw [show (A ++ B).getD k [] = B.getD (k - A.length) [] by simp [List.getD, List.getElem?_append_right hk]]
    exact hB _
theorem Wa609a {A B : Prop} (h9 : B) (w : B → A := by (intro h9; (repeat intro K hK); refine ⟨?_⟩; (repeat (first | (first | (with_reducible first | refine AX_block ?_ | refine AX_skip ?_ | refine AX_exit ?_ | refine AX_ret ?_ | refine AX_ift ?_ | refine AX_iff ?_ | refine AX_seq_k (fun K hK => ?_) | refine ContX.use (by assumption) ?_) | simp only [thenX, inBlockX, if_true, if_false, reduceCtorEq]) | (first | ((with_reducible first | refine XOP tyOK ?_ | refine AOP tyOK ?_); simp (disch := omega) only [go_sem , Int.toNat_zero, Int.toNat_one, Nat.zero_mul, Nat.one_mul, Nat.zero_add, Nat.reduceMul, range_rowsU, rows_one, rows_take, rows_app, iInts, iRows, iOps, iFlat, iStrs, lint, beq_self_eq_true, hs1, hs2, hs3, List.length_nil]; (with_reducible first | refine XRes_id ?_ | refine ADF_id ?_)) | (with_reducible first | refine XSK ?_ | refine ASK ?_)) | ((first | (with_reducible refine XRes_nil ?_) | (with_reducible refine ADF_nil ?_)); (first | refine hK _ ?_ | refine hK _ _ ?_); clear hK K) | ((first | (with_reducible refine AX_reg0 fun K hK => ?_) | (refine AX_drawG1 tyOK (by kernel_rfl) (by rfl) (by kernel_rfl) fun K hK => ?_)); simp only [go_sem]) | (first | (first | refine XTL (by rfl) hFew ?_ | refine ATL tyOK (by rfl) hFew ?_ | refine XTL (by rfl) hF0 ?_ | refine ATL tyOK (by rfl) hF0 ?_ | refine XTL (by rfl) hF1 ?_ | refine ATL tyOK (by rfl) hF1 ?_ | refine XTL (by rfl) hAw ?_ | refine ATL tyOK (by rfl) hAw ?_ | refine XTL (by rfl) hN ?_ | refine ATL tyOK (by rfl) hN ?_ | refine XTL (by rfl) hD ?_ | refine ATL tyOK (by rfl) hD ?_ | refine XTL (by rfl) hC ?_ | refine ATL tyOK (by rfl) hC ?_ | refine XTL (by rfl) hS ?_ | refine ATL tyOK (by rfl) hS ?_)))); refine Wk.o ?_; (repeat revert hK K); exact h9)) : A := w h9
set_option maxRecDepth 100000 in
set_option maxHeartbeats 8000000 in
theorem pf_EncodeNames (o : Ob) (l : List Op5) (V0 V1 : Int) (A B : List (List Int)) (ho : o.Ok) (hrl : o.R.length ≤ 9223372036854775807) (hll : l.length ≤ 9223372036854775807) (hs : okS l) (hA : A.length ≤ 9223372036854775807) (hB : B.length ≤ 9223372036854775807) : PF Tryz.prog 4 [obA o, .iv (iOps l), .agg [lt (.int .i64 V0), .iv (iRows A), lt (.int .i64 V1), .iv (iRows B)]] fun r H' => r = lt (.bool true) ∧ H' = [] := by
  refine SF.forgetAll ?_
  have hs1 := trivial; have hs2 := trivial; have hs3 := trivial; have hF0 := trivial; have hF1 := trivial; have hN := trivial; have hD := trivial; have hC := trivial; have hS := trivial
  have hFew := pf_few o
  have hAw := pf_awake
  by_cases hr : o.R.length ≤ 300
  · rw [decide_eq_true (by omega)] at hFew
    by_cases hl : l.length ≤ 20
    · have hF0 := pf_few04 V0 A hA
      by_cases hA1 : fw04 A = true
      · rw [hA1] at hF0
        have hF1 := pf_few04 V1 B hB
        by_cases hB1 : fw04 B = true
        · rw [hB1] at hF1
          obtain ⟨a1, a2⟩ := fw04_bd hA1
          obtain ⟨b1, b2⟩ := fw04_bd hB1
          have hN := pf_Names o l (by omega) ho (by omega) hs
          have hD := pf_rNames37 o l (by omega) ho (by omega) hs
          have hX := nmX_len o l
          generalize nmX o l = X at *
          have hC := pf_Concat [A, B] (by simp) (fun k => by
            rcases k with _ | _ | k
            · show A.length ≤ _; omega
            · show B.length ≤ _; omega
            · simp) (fun k j => by
            rcases k with _ | _ | k
            · exact Nat.le_trans (a2 j) (by decide)
            · exact Nat.le_trans (b2 j) (by decide)
            · simp)
          rw [show [A, B].flatten = A ++ B by simp] at hC
          have hS := pf_rowsSelf (A ++ B) (by rw [List.length_append]; omega) (fun k => Nat.le_trans (getD_app a2 b2 k) (by decide))
          unfold iStrs at hN hD
          simp only [iRows, iInts, List.length_append] at hS
          (refine SF_of_bodyX (aload tt) (aload_ok tyOK) Tryz.func4 rfl (by kernel_rfl) ?_; simp only [Tryz.ntmps4, List.length_cons, List.length_nil, Nat.reduceAdd, Nat.reduceSub, List.replicate_succ, List.replicate_zero, List.cons_append, List.nil_append])
          unfold iRows
          (refine Wk.o ?_; (repeat revert hK K); refine Wa609a ?_; (repeat intro K hK); refine ⟨?_⟩)
          (refine AWH (σ := Nat) [43, 44, 45, 46, 49, 50, 51, 52, 53, 54, 55, 56, 57, 6, 47, 48] (fun k => [(9, lint k)]) (fun k => [some ⟨24, [lt (.int .i64 o.S), lt (.int .i64 o.K), lt (.int .i64 o.I), .iv (iRws o.R)]⟩, some ⟨39, [lt (.int .i64 V0), .iv (.sl (fun j => .sl (fun i => .lit (.int .i64 ((A.getD j []).getD i 0))) (A.getD j []).length 1) A.length 1), lt (.int .i64 V1), .iv (.sl (fun j => .sl (fun i => .lit (.int .i64 ((B.getD j []).getD i 0))) (B.getD j []).length 1) B.length 1)]⟩]) (fun k => []) (fun k => k ≤ X.length) (fun k => X.length - k) 0 (by first | exact Nat.zero_le _) ?_; rintro k d fr hfr hk; simp only [updS, deadS, List.set_cons_succ, List.set_cons_zero, lint] at hfr; subst hfr; (try dsimp only))
          by_cases hlt : k < X.length
          · (refine Wk.o ?_; (repeat revert hK K); refine Wa609a ?_; (repeat intro K hK); refine ⟨?_⟩)
            exact WEND (k + 1) (by omega) (by (first | omega | (dsimp only; omega) | (simp only; omega)))
          · obtain rfl : k = X.length := by omega
            (refine Wk.o ?_; (repeat revert hK K); refine Wa609a ?_; (repeat intro K hK); refine ⟨?_⟩)
            refine AX_drawW tyOK (by kernel_rfl) (by decide +kernel) fun K hK => ?_
            simp only [go_sem, alW, kdW, isApp, List.any_cons, List.any_nil, List.map_cons, List.map_nil, Bool.or_false, Bool.false_or, Bool.or_true, Bool.true_or, reduceCtorEq]
            refine ADR_empty tyOK rfl 1 57 (by rfl) ?_
            (simp only [putL, List.set_cons_succ, List.set_cons_zero])
            repeat ((first | ((with_reducible refine ADR_free1 tyOK ?_ ?_ ?_); (focus rfl); (focus (first | (with_reducible rfl) | ((simp (disch := omega) only [go_sem]); done)))) | ((with_reducible refine ADR_read1 tyOK ?_ ?_ ?_); (focus rfl); (focus (first | (with_reducible rfl) | ((simp (disch := omega) only [go_sem]); done))))); simp (disch := omega) only [go_sem , Int.toNat_zero, Int.toNat_one, Nat.zero_mul, Nat.one_mul, Nat.zero_add, Nat.reduceMul, range_rowsU, rows_one, rows_take, rows_app, iInts, iRows, iOps, iFlat, iStrs, lint, beq_self_eq_true, hs1, hs2, hs3, List.length_nil]; (with_reducible refine ADR_id1 ?_))
            refine ADR_new1 tyOK (by rfl) (x := .osl 3 0 A.length 1) (H' := [some ⟨24, [lt (.int .i64 o.S), lt (.int .i64 o.K), lt (.int .i64 o.I), .iv (iRws o.R)]⟩, some ⟨39, [lt (.int .i64 V0), .iv (.sl (fun j => .sl (fun i => .lit (.int .i64 ((A.getD j []).getD i 0))) (A.getD j []).length 1) A.length 1), lt (.int .i64 V1), .iv (.sl (fun j => .sl (fun i => .lit (.int .i64 ((B.getD j []).getD i 0))) (B.getD j []).length 1) B.length 1)]⟩, none, some ⟨57, A.map rowA⟩]) ?_ ?_ ?_ ?_
            · simp (disch := omega) only [Bool.true_beq, Bool.false_beq, beq_true, beq_false, cond_true, cond_false, dsts, lapp_cons, lapp_nil, strip_mk, strip_gd, gix_some, wantedS, alF, AS.ev, AS.put, putL, arun, drun, alD, kdOf, isApp, freeOp, roOp, extH, List.any_cons, List.any_nil, Bool.or_false, Bool.false_or, Bool.or_true, Bool.true_or, aop, abuiltin, abox, acells, aload, astore, afieldAddr, aindexAddr, shiftA, alen, abin, aint, aun, aconv, apick_b, apick_l, apick_r, amake, aslice, abound, aappend, aappendS, aappendZ, anews, abuildSlice, abuild, afill, asets, splice, azero, aplaces, apart, afield, aindex, aggCells, anilS, anilP, aeq, notNil, aminmax, ashift, astr, TyKind.agg, BinOp.isShift, AV.one, List.set_cons_succ, List.set_cons_zero, List.getD_cons_succ, List.getD_cons_zero, List.getElem?_cons_succ, List.getElem?_cons_zero, List.getElem?_toArray, Option.map_some, Option.map_none, Option.bind_some, List.map_cons, List.map_nil, List.headD_cons, List.tail_cons, List.take_succ_cons, List.drop_succ_cons, List.drop_zero, List.take_zero, List.take_nil, if_true, if_false, Bool.false_eq_true, Bool.not_true, Bool.not_false, beq_self_eq_true, reduceCtorEq, bne_self_eq_false, tt_2, tt_3, tt_4, tt_5, tt_7, tt_9, tt_12, tt_13, tt_18, tt_20, tt_21, tt_22, tt_23, tt_24, tt_25, tt_26, tt_29, tt_30, tt_31, tt_32, tt_39, tt_41, tt_50, tt_51, tt_55, tt_56, tt_57, tt_62, tt_76, tt_77, tt_83, tt_86, tt_88, tt_89, tt_93, tt_98, tt_101, tt_102, tt_108, tt_117, tt_127, tt_133, tt_135, tt_136, tt_140, tt_141, tt_143, tt_158, tt_162, tt_164, tt_172, tt_175, tt_190, tt_197, tt_200, tt_205, tt_208, wrap_in, ite_t, ite_f, dec_t, dec_f, beq_t, beq_f, bne_t, bne_f, nat_succ, Int.toNat_natCast, updS, deadS, and_true, true_and, ge_iff_le, Nat.mul_one, Nat.zero_add, Nat.add_zero, AV.one, lt_one_i, lt_one_b, lt_one_n, List.all_cons, List.all_nil, Bool.and_true, Bool.and_self, Bool.true_and, List.length_cons, List.length_nil, Nat.reduceAdd, Nat.reduceSub, List.replicate_succ, List.replicate_zero, List.cons_append, List.nil_append]
              rw [range_rowsU, if_pos (rows_one A)]
              simp
              omega
            · simp
            · exact fun _ => ⟨by simp, fun o y e => by
                match o with
                | 0 => exact e
                | 1 => exact e
                | o + 2 => simp at e⟩
            simp only [putL, List.set_cons_succ, List.set_cons_zero]
            repeat ((first | ((with_reducible refine ADR_free1 tyOK ?_ ?_ ?_); (focus rfl); (focus (first | (with_reducible rfl) | ((simp (disch := omega) only [go_sem]); done)))) | ((with_reducible refine ADR_read1 tyOK ?_ ?_ ?_); (focus rfl); (focus (first | (with_reducible rfl) | ((simp (disch := omega) only [go_sem]); done))))); simp (disch := omega) only [go_sem , Int.toNat_zero, Int.toNat_one, Nat.zero_mul, Nat.one_mul, Nat.zero_add, Nat.reduceMul, range_rowsU, rows_one, rows_take, rows_app, iInts, iRows, iOps, iFlat, iStrs, lint, beq_self_eq_true, hs1, hs2, hs3, List.length_nil]; (with_reducible refine ADR_id1 ?_))
            refine ADR_new1 tyOK (by rfl) (x := .osl 4 0 (A.length + B.length) 1) (H' := [some ⟨24, [lt (.int .i64 o.S), lt (.int .i64 o.K), lt (.int .i64 o.I), .iv (iRws o.R)]⟩, some ⟨39, [lt (.int .i64 V0), .iv (.sl (fun j => .sl (fun i => .lit (.int .i64 ((A.getD j []).getD i 0))) (A.getD j []).length 1) A.length 1), lt (.int .i64 V1), .iv (.sl (fun j => .sl (fun i => .lit (.int .i64 ((B.getD j []).getD i 0))) (B.getD j []).length 1) B.length 1)]⟩, none, none, some ⟨57, (A ++ B).map rowA⟩]) ?_ ?_ ?_ ?_
            · simp (disch := omega) only [Bool.true_beq, Bool.false_beq, beq_true, beq_false, cond_true, cond_false, dsts, lapp_cons, lapp_nil, strip_mk, strip_gd, gix_some, wantedS, alF, AS.ev, AS.put, putL, arun, drun, alD, kdOf, isApp, freeOp, roOp, extH, List.any_cons, List.any_nil, Bool.or_false, Bool.false_or, Bool.or_true, Bool.true_or, aop, abuiltin, abox, acells, aload, astore, afieldAddr, aindexAddr, shiftA, alen, abin, aint, aun, aconv, apick_b, apick_l, apick_r, amake, aslice, abound, aappend, aappendS, aappendZ, anews, abuildSlice, abuild, afill, asets, splice, azero, aplaces, apart, afield, aindex, aggCells, anilS, anilP, aeq, notNil, aminmax, ashift, astr, TyKind.agg, BinOp.isShift, AV.one, List.set_cons_succ, List.set_cons_zero, List.getD_cons_succ, List.getD_cons_zero, List.getElem?_cons_succ, List.getElem?_cons_zero, List.getElem?_toArray, Option.map_some, Option.map_none, Option.bind_some, List.map_cons, List.map_nil, List.headD_cons, List.tail_cons, List.take_succ_cons, List.drop_succ_cons, List.drop_zero, List.take_zero, List.take_nil, if_true, if_false, Bool.false_eq_true, Bool.not_true, Bool.not_false, beq_self_eq_true, reduceCtorEq, bne_self_eq_false, tt_2, tt_3, tt_4, tt_5, tt_7, tt_9, tt_12, tt_13, tt_18, tt_20, tt_21, tt_22, tt_23, tt_24, tt_25, tt_26, tt_29, tt_30, tt_31, tt_32, tt_39, tt_41, tt_50, tt_51, tt_55, tt_56, tt_57, tt_62, tt_76, tt_77, tt_83, tt_86, tt_88, tt_89, tt_93, tt_98, tt_101, tt_102, tt_108, tt_117, tt_127, tt_133, tt_135, tt_136, tt_140, tt_141, tt_143, tt_158, tt_162, tt_164, tt_172, tt_175, tt_190, tt_197, tt_200, tt_205, tt_208, wrap_in, ite_t, ite_f, dec_t, dec_f, beq_t, beq_f, bne_t, bne_f, nat_succ, Int.toNat_natCast, updS, deadS, and_true, true_and, ge_iff_le, Nat.mul_one, Nat.zero_add, Nat.add_zero, AV.one, lt_one_i, lt_one_b, lt_one_n, List.all_cons, List.all_nil, Bool.and_true, Bool.and_self, Bool.true_and, List.length_cons, List.length_nil, Nat.reduceAdd, Nat.reduceSub, List.replicate_succ, List.replicate_zero, List.cons_append, List.nil_append]
              rw [range_rowsU, if_pos (rows_one B)]
              have e1 : (A.map rowA).length = A.length := List.length_map _
              have e2 : (A.map rowA).take A.length = A.map rowA := List.take_of_length_le (by omega)
              simp [e1, e2, List.map_append]
              omega
            · simp
            · exact fun _ => ⟨by simp, fun o y e => by
                match o with
                | 0 => exact e
                | 1 => exact e
                | o + 2 => simp at e⟩
            simp only [putL, List.set_cons_succ, List.set_cons_zero]
            repeat ((first | ((with_reducible refine ADR_free1 tyOK ?_ ?_ ?_); (focus rfl); (focus (first | (with_reducible rfl) | ((simp (disch := omega) only [go_sem]); done)))) | ((with_reducible refine ADR_read1 tyOK ?_ ?_ ?_); (focus rfl); (focus (first | (with_reducible rfl) | ((simp (disch := omega) only [go_sem]); done))))); simp (disch := omega) only [go_sem , Int.toNat_zero, Int.toNat_one, Nat.zero_mul, Nat.one_mul, Nat.zero_add, Nat.reduceMul, range_rowsU, rows_one, rows_take, rows_app, iInts, iRows, iOps, iFlat, iStrs, lint, beq_self_eq_true, hs1, hs2, hs3, List.length_nil]; (with_reducible refine ADR_id1 ?_))
            refine ADR_nil ?_
            refine hK _ _ ?_
            clear hK K
            (repeat (first | (with_reducible first | refine AX_block ?_ | refine AX_skip ?_ | refine AX_exit ?_ | refine AX_ret ?_ | refine AX_ift ?_ | refine AX_iff ?_ | refine AX_seq_k (fun K hK => ?_) | refine ContX.use (by assumption) ?_) | simp only [thenX, inBlockX, if_true, if_false, reduceCtorEq]))
            refine AX_freeze [4] [(10, .iv (iRows (A ++ B)))] (fun p hp => ?_) ?_
            · rw [List.mem_singleton.1 hp]; refine frz_rwsN (t := 57) (only_mk (ds := [4]) (by decide) ?_) (by rw [List.length_append]); rfl
            simp only [setN, updS, List.set_cons_succ, List.set_cons_zero]
            repeat (first | (first | (with_reducible first | refine AX_block ?_ | refine AX_skip ?_ | refine AX_exit ?_ | refine AX_ret ?_ | refine AX_ift ?_ | refine AX_iff ?_ | refine AX_seq_k (fun K hK => ?_) | refine ContX.use (by assumption) ?_) | simp only [thenX, inBlockX, if_true, if_false, reduceCtorEq]) | ((refine XRes_lit tyOK (iRows3 [A, B]) rfl (x := .osl 5 0 2 1) (obj := ⟨29, [rowsA A, rowsA B]⟩) (by rfl) (snapC_g3 (t := 29) (R := [A, B]) (only_mk (by simp) (by simp))) ?_); (simp only [putL, List.set_cons_succ, List.set_cons_zero])) | (first | ((with_reducible first | refine XOP tyOK ?_ | refine AOP tyOK ?_); simp (disch := omega) only [go_sem , Int.toNat_zero, Int.toNat_one, Nat.zero_mul, Nat.one_mul, Nat.zero_add, Nat.reduceMul, range_rowsU, rows_one, rows_take, rows_app, iInts, iRows, iOps, iFlat, iStrs, lint, beq_self_eq_true, hs1, hs2, hs3, List.length_nil]; (with_reducible first | refine XRes_id ?_ | refine ADF_id ?_)) | (with_reducible first | refine XSK ?_ | refine ASK ?_)) | ((first | (with_reducible refine XRes_nil ?_) | (with_reducible refine ADF_nil ?_)); (first | refine hK _ ?_ | refine hK _ _ ?_); clear hK K) | ((first | (with_reducible refine AX_reg0 fun K hK => ?_) | (refine AX_drawG1 tyOK (by kernel_rfl) (by rfl) (by kernel_rfl) fun K hK => ?_)); simp only [go_sem]) | (first | (first | refine XTL (by rfl) hFew ?_ | refine ATL tyOK (by rfl) hFew ?_ | refine XTL (by rfl) hF0 ?_ | refine ATL tyOK (by rfl) hF0 ?_ | refine XTL (by rfl) hF1 ?_ | refine ATL tyOK (by rfl) hF1 ?_ | refine XTL (by rfl) hAw ?_ | refine ATL tyOK (by rfl) hAw ?_ | refine XTL (by rfl) hN ?_ | refine ATL tyOK (by rfl) hN ?_ | refine XTL (by rfl) hD ?_ | refine ATL tyOK (by rfl) hD ?_ | refine XTL (by rfl) hC ?_ | refine ATL tyOK (by rfl) hC ?_ | refine XTL (by rfl) hS ?_ | refine ATL tyOK (by rfl) hS ?_)))
            (simp only [bodyX]; refine ⟨_, by simp only [aresults, aresult, XS.as, Tryz.results4, aload, go_sem, Option.bind_some]; rfl, ?_⟩)
            exact ⟨ids_idB rfl, rfl, trivial⟩
        · rw [Bool.not_eq_true] at hB1
          rw [hB1] at hF1
          (refine SF_of_bodyX (aload tt) (aload_ok tyOK) Tryz.func4 rfl (by kernel_rfl) ?_; simp only [Tryz.ntmps4, List.length_cons, List.length_nil, Nat.reduceAdd, Nat.reduceSub, List.replicate_succ, List.replicate_zero, List.cons_append, List.nil_append])
          unfold iRows
          (refine Wk.o ?_; (repeat revert hK K); refine Wa609a ?_; (repeat intro K hK); refine ⟨?_⟩)
          (simp only [bodyX]; refine ⟨_, by simp only [aresults, aresult, XS.as, Tryz.results4, aload, go_sem, Option.bind_some]; rfl, ?_⟩)
          exact ⟨ids_idB rfl, rfl, trivial⟩
      · rw [Bool.not_eq_true] at hA1
        rw [hA1] at hF0
        (refine SF_of_bodyX (aload tt) (aload_ok tyOK) Tryz.func4 rfl (by kernel_rfl) ?_; simp only [Tryz.ntmps4, List.length_cons, List.length_nil, Nat.reduceAdd, Nat.reduceSub, List.replicate_succ, List.replicate_zero, List.cons_append, List.nil_append])
        unfold iRows
        (refine Wk.o ?_; (repeat revert hK K); refine Wa609a ?_; (repeat intro K hK); refine ⟨?_⟩)
        (simp only [bodyX]; refine ⟨_, by simp only [aresults, aresult, XS.as, Tryz.results4, aload, go_sem, Option.bind_some]; rfl, ?_⟩)
        exact ⟨ids_idB rfl, rfl, trivial⟩
    · have h0 := hl
      (refine SF_of_bodyX (aload tt) (aload_ok tyOK) Tryz.func4 rfl (by kernel_rfl) ?_; simp only [Tryz.ntmps4, List.length_cons, List.length_nil, Nat.reduceAdd, Nat.reduceSub, List.replicate_succ, List.replicate_zero, List.cons_append, List.nil_append])
      unfold iRows
      (refine Wk.o ?_; (repeat revert hK K); refine Wa609a ?_; (repeat intro K hK); refine ⟨?_⟩)
      (simp only [bodyX]; refine ⟨_, by simp only [aresults, aresult, XS.as, Tryz.results4, aload, go_sem, Option.bind_some]; rfl, ?_⟩)
      exact ⟨ids_idB rfl, rfl, trivial⟩
  · rw [decide_eq_false (by omega)] at hFew
    (refine SF_of_bodyX (aload tt) (aload_ok tyOK) Tryz.func4 rfl (by kernel_rfl) ?_; simp only [Tryz.ntmps4, List.length_cons, List.length_nil, Nat.reduceAdd, Nat.reduceSub, List.replicate_succ, List.replicate_zero, List.cons_append, List.nil_append])
    unfold iRows
    (refine Wk.o ?_; (repeat revert hK K); refine Wa609a ?_; (repeat intro K hK); refine ⟨?_⟩)
    (simp only [bodyX]; refine ⟨_, by simp only [aresults, aresult, XS.as, Tryz.results4, aload, go_sem, Option.bind_some]; rfl, ?_⟩)
    exact ⟨ids_idB rfl, rfl, trivial⟩
end Go.Proofs.YtcjnikkmjhagmaaGreatDoor
namespace Go.Proofs.YtcjnikkmjhagmaaGreatDoor
open Go.RowKit
set_option linter.unusedVariables false
theorem wf_i {x : Int} (h : (Lit.int .i64 x).wf = true) : -9223372036854775808 ≤ x ∧ x ≤ 9223372036854775807 := bounds_i64 h
theorem ra_forms2 {W : World} {v0 v1 : Int} {a b : Option Addr} {len cap len2 cap2 : Nat} {A B : List (List Int)} (h : Rows2 W a len A) (h1 : len ≤ cap) (h2 : cap ≤ maxLen) (g : Rows2 W b len2 B) (g1 : len2 ≤ cap2) (g2 : cap2 ≤ maxLen) : RA 0 (Gh.of W) (.agg [lt (.int .i64 v0), .iv (iRows A), lt (.int .i64 v1), .iv (iRows B)]) (.agg #[.int .i64 v0, .slice a len cap, .int .i64 v1, .slice b len2 cap2]) :=
  RA.agg [lint v0, .iv (iRows A), lint v1, .iv (iRows B)] [.int .i64 v0, .slice a len cap, .int .i64 v1, .slice b len2 cap2] rfl (fun i x v e e' => by
    rcases i with _ | _ | _ | _ | i
    · simp at e e'; subst e e'; exact .iv _ _ (.lit _)
    · simp at e e'; subst e e'; exact .iv _ _ (ri_rows h h1 h2)
    · simp at e e'; subst e e'; exact .iv _ _ (.lit _)
    · simp at e e'; subst e e'; exact .iv _ _ (ri_rows g g1 g2)
    · simp at e) rfl
theorem encodeNames_walk (w : World) (x y z : Int) (wx : (Lit.int .i64 x).wf = true) (wy : (Lit.int .i64 y).wf = true) (wz : (Lit.int .i64 z).wf = true) (a : Option Addr) (len cap : Nat) (hs : StructRow w 4 a len cap) (a2 : Option Addr) (len2 cap2 : Nat) (hs2 : StructRow w 5 a2 len2 cap2)
    (v0 : Int) (wv0 : (Lit.int .i64 v0).wf = true) (a3 : Option Addr) (len3 cap3 : Nat) (A : List (List Int)) (hr3 : Rows2 w a3 len3 A) (hf3 : FitsR A) (hc3 : len3 ≤ cap3 ∧ cap3 ≤ maxLen ∧ (a3 = none → cap3 = 0))
    (v1 : Int) (wv1 : (Lit.int .i64 v1).wf = true) (a4 : Option Addr) (len4 cap4 : Nat) (B : List (List Int)) (hr4 : Rows2 w a4 len4 B) (hf4 : FitsR B) (hc4 : len4 ≤ cap4 ∧ cap4 ≤ maxLen ∧ (a4 = none → cap4 = 0)) :
    Calls Tryz.prog 4 #[.agg #[.int .i64 x, .int .i64 y, .int .i64 z, .slice a len cap], .slice a2 len2 cap2, .agg #[.int .i64 v0, .slice a3 len3 cap3, .int .i64 v1, .slice a4 len4 cap4]] w fun e w' => e = .returned (.bool true) ∧ Below w.heap.size w w' := by
  obtain ⟨xs, e1, _, r1⟩ := hs.rwsA
  obtain ⟨ys, e2, o2, r2⟩ := hs2.opsA
  have b1 := hs.2.1; have b2 := hs2.2.1
  have c1 := hs.1; have c2 := hs2.1
  have b3 := hc3.2.1; have b4 := hc4.2.1
  have d3 := hc3.1; have d4 := hc4.1
  have l3 := hr3.1; have l4 := hr4.1
  unfold maxLen at b1 b2 b3 b4
  exact law_of (SF.mono (pf_EncodeNames ⟨x, y, z, xs⟩ ys v0 v1 A B ⟨wf_i wx, wf_i wy, wf_i wz⟩ (by show xs.length ≤ _; omega) (by omega) (fun i => okI_s o2 i) (by omega) (by omega)) fun r H' h => h.1) w _ (RL.three (RL.obj r1) (.iv _ _ r2) (ra_forms2 hr3 hc3.1 hc3.2.1 hr4 hc4.1 hc4.2.1))
end Go.Proofs.YtcjnikkmjhagmaaGreatDoor
