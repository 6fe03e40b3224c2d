import Derived.Test.YtdaenbgjafalcaaDoorMgBE
import Derived.Test.YtdaenbgjafalcaaDoorMgBA
import Derived.Test.YtdaenbgjafalcaaDoorMgAS
import Derived.Test.YtdaenbgjafalcaaDoorMgBB
import Derived.Test.YtdaenbgjafalcaaDoorMgBD
namespace Go.Proofs.YtdaenbgjafalcaaDoor
open Go.RowKit Go.Lib
set_option linter.unusedVariables false
set_option linter.unusedSimpArgs false
def nk (f : Nat) (m : List UInt8) (k : Nat) : Int := if f = 1 then -(dv 0 (m.take k) : Int) else dv 0 (m.take k)
end Go.Proofs.YtdaenbgjafalcaaDoor
namespace Go.Proofs.YtdaenbgjafalcaaDoor
open Go.RowKit Go.Lib
set_option linter.unusedVariables false
set_option linter.unusedSimpArgs false
theorem tokL_atL {T : List Tok3} : ∀ {k : Nat}, k < T.length → (tokL T).getD (k * 3) undef = .int .i64 (T.getD k tok0).1 ∧ (tokL T).getD (k * 3 + 1) undef = .int .i64 (T.getD k tok0).2.1 ∧ (tokL T).getD (k * 3 + 2) undef = .string (ba (T.getD k tok0).2.2) := by
  intro k h
  have hh : ∀ j, (tokC T)[j]? = some (lt ((tokL T).getD j undef)) ∨ (tokC T)[j]? = none := fun j => by
    unfold tokC
    rw [List.getElem?_map, List.getD_eq_getElem?_getD]
    cases (tokL T)[j]? <;> simp
  obtain ⟨h1, h2, h3⟩ := tokC_at h
  refine ⟨?_, ?_, ?_⟩
  · rcases hh (k * 3) with h4 | h4
    · rw [h1] at h4; simpa [lt] using h4.symm
    · rw [h1] at h4; cases h4
  · rcases hh (k * 3 + 1) with h4 | h4
    · rw [h2] at h4; simpa [lt] using h4.symm
    · rw [h2] at h4; cases h4
  · rcases hh (k * 3 + 2) with h4 | h4
    · rw [h3] at h4; simpa [lt] using h4.symm
    · rw [h3] at h4; cases h4
theorem snap_i {H : AHeap} {o n : Nat} {t : TypeId} {xs : List Int} (h : H[o]? = some (some ⟨t, xs.map lint⟩)) (hn : n = xs.length) : Snap H (.osl o 0 n 1) (.iv (iInts xs)) := by
  subst hn
  exact .iv _ _ (SnapC.lits (fun j => .int .i64 (xs.getD j 0)) h fun j hj => by rw [Nat.zero_add]; exact lint_at hj)
theorem snap_i0 {H : AHeap} : Snap H (lt (.slice none 0 0)) (.iv (iInts [])) := .iv _ _ (.nil _ _)
theorem zip_drop {lo hi : List Int} {i : Nat} (h1 : i < lo.length) (h2 : i < hi.length) : (lo.zip hi).drop i = (lo.getD i 0, hi.getD i 0) :: (lo.zip hi).drop (i + 1) := by
  rw [List.drop_eq_getElem_cons (by rw [List.length_zip]; omega), List.getElem_zip]
  simp [List.getD, h1, h2]
structure TokOK (T : List Tok3) : Prop where
  len : T.length ≤ 1000000
  txt : ∀ j, (T.getD j tok0).2.2.length ≤ 1000000
  pos : ∀ j, 0 ≤ (T.getD j tok0).2.1 ∧ (T.getD j tok0).2.1 ≤ 1000000000
theorem TokOK.drop {T : List Tok3} (h : TokOK T) (k : Nat) : TokOK (T.drop k) :=
  ⟨by rw [List.length_drop]; have := h.len; omega, fun j => by rw [dropG]; exact h.txt _, fun j => by rw [dropG]; exact h.pos _⟩
theorem W3549a {A B : Prop} (h9 : B) (w : B → A := by (intro h9; (repeat intro K hK); refine ⟨?_⟩; (repeat (first | (first | (with_reducible first | refine AX_block ?_ | refine AX_skip ?_ | refine AX_exit ?_ | refine AX_ret ?_ | refine AX_ift ?_ | refine AX_iff ?_ | refine AX_seq_k (fun K hK => ?_) | refine ContX.use (by assumption) ?_) | simp only [thenX, inBlockX, if_true, if_false, reduceCtorEq]) | (first | ((first | (with_reducible refine XRes_op tyOK ?_ ?_) | ((with_reducible first | refine ADF_op tyOK ?_ ?_ ?_ | refine ADX_op tyOK ?_ ?_ ?_); (focus rfl)) | (with_reducible refine ADR_alloc1 tyOK ?_ ?_) | ((with_reducible refine ADR_free1 tyOK ?_ ?_ ?_); (focus rfl)) | ((with_reducible refine ADR_free0 tyOK ?_ ?_ ?_); (focus rfl)) | ((with_reducible refine ADR_read1 tyOK ?_ ?_ ?_); (focus rfl)) | (with_reducible refine ADR_chg1 tyOK ?_ ?_)); (focus (first | (with_reducible rfl) | ((simp (disch := omega) only [go_sem]); done))); simp (disch := omega) only [go_sem , hs1, hs2, hs3, hs4, hs5, hs6, hs7, hs8, hs9, hsa, hsb, hsc, Int.toNat_zero, Int.toNat_one, Int.reduceToNat, Nat.reduceMul, Nat.reduceAdd, Nat.zero_add, Nat.one_mul, Int.toNat_natCast, Nat.reduceEqDiff, List.length_map, List.length_cons, List.length_nil, List.length_drop, ba_size, ba_toList]; (first | (with_reducible refine XRes_id ?_) | (with_reducible refine ADF_id ?_) | (with_reducible refine ADR_id1 ?_) | (with_reducible refine ADX_id ?_))) | ((first | (with_reducible refine XRes_skip ?_ ?_) | (with_reducible refine ADF_skip (b := true) ?_ ?_) | (with_reducible refine ADX_skip ?_ ?_) | ((with_reducible refine ADR_skip1 ?_ ?_ ?_); (focus rfl))); (focus (first | rfl | ((simp (disch := omega) only [go_sem]); done))); (simp only [putL, List.set_cons_succ, List.set_cons_zero]))) | ((first | (with_reducible refine XRes_nil ?_) | (with_reducible refine ADF_nil ?_) | (with_reducible refine ADR_nil ?_) | (with_reducible refine ADX_nil ?_)); (first | refine hK _ ?_ | refine hK _ _ ?_); clear hK K) | ((first | (with_reducible refine AX_reg0 fun K hK => ?_) | (refine AX_drawG1 tyOK (by kernel_rfl) (by rfl) (by kernel_rfl) fun K hK => ?_) | (refine AX_drawT tyOK (by kernel_rfl) (by decide +kernel) fun K hK => ?_) | (refine AX_drawM1 (by kernel_rfl) (by rfl) (by decide +kernel) fun K hK => ?_) | (refine AX_drawA tyOK (by kernel_rfl) (by decide +kernel) fun K hK => ?_)); (first | simp only [go_sem, preN, effOp, runF, alM, mapOp, alD2, kdOf2, Bool.not_false, Bool.not_true, reduceCtorEq] | simp only [go_sem, preN, effOp, runF, alM, mapOp, Bool.not_false, Bool.not_true, reduceCtorEq] | simp only [go_sem, preN, effOp, runF, alD2, kdOf2, Bool.not_false, Bool.not_true, reduceCtorEq] | simp only [go_sem, alD2, kdOf2, Bool.not_false, Bool.not_true, reduceCtorEq] | simp only [go_sem, preN, effOp, runF, Bool.not_false, Bool.not_true, reduceCtorEq] | simp only [go_sem])) | (first | (first | refine XTL (by rfl) hN ?_ | refine ATL tyOK (by rfl) hN ?_)))); refine Wk.o ?_; (repeat revert hK K); exact h9)) : A := w h9
theorem W3549b {A B : Prop} (h9 : B) (w : B → A := by (intro h9; (repeat intro K hK); refine ⟨?_⟩; (repeat (first | (first | (with_reducible first | refine AX_block ?_ | refine AX_skip ?_ | refine AX_exit ?_ | refine AX_ret ?_ | refine AX_ift ?_ | refine AX_iff ?_ | refine AX_seq_k (fun K hK => ?_) | refine ContX.use (by assumption) ?_) | simp only [thenX, inBlockX, if_true, if_false, reduceCtorEq]) | (first | ((first | (with_reducible refine XRes_op tyOK ?_ ?_) | ((with_reducible first | refine ADF_op tyOK ?_ ?_ ?_ | refine ADX_op tyOK ?_ ?_ ?_); (focus rfl)) | (with_reducible refine ADR_alloc1 tyOK ?_ ?_) | ((with_reducible refine ADR_free1 tyOK ?_ ?_ ?_); (focus rfl)) | ((with_reducible refine ADR_free0 tyOK ?_ ?_ ?_); (focus rfl)) | ((with_reducible refine ADR_read1 tyOK ?_ ?_ ?_); (focus rfl)) | (with_reducible refine ADR_chg1 tyOK ?_ ?_)); (focus (first | (with_reducible rfl) | ((simp (disch := omega) only [go_sem]); done))); simp (disch := omega) only [go_sem , hs1, hs2, hs3, hs4, hs5, hs6, hs7, hs8, hs9, hsa, hsb, hsc, Int.toNat_zero, Int.toNat_one, Int.reduceToNat, Nat.reduceMul, Nat.reduceAdd, Nat.zero_add, Nat.one_mul, Int.toNat_natCast, Nat.reduceEqDiff, List.length_map, List.length_cons, List.length_nil, List.length_drop, ba_size, ba_toList]; (first | (with_reducible refine XRes_id ?_) | (with_reducible refine ADF_id ?_) | (with_reducible refine ADR_id1 ?_) | (with_reducible refine ADX_id ?_))) | ((first | (with_reducible refine XRes_skip ?_ ?_) | (with_reducible refine ADF_skip (b := true) ?_ ?_) | (with_reducible refine ADX_skip ?_ ?_) | ((with_reducible refine ADR_skip1 ?_ ?_ ?_); (focus rfl))); (focus (first | rfl | ((simp (disch := omega) only [go_sem]); done))); (simp only [putL, List.set_cons_succ, List.set_cons_zero]))) | ((first | (with_reducible refine XRes_nil ?_) | (with_reducible refine ADF_nil ?_) | (with_reducible refine ADR_nil ?_) | (with_reducible refine ADX_nil ?_)); (first | refine hK _ ?_ | refine hK _ _ ?_); clear hK K) | (first | (first | refine XTL (by rfl) hN ?_ | refine ATL tyOK (by rfl) hN ?_)) | ((with_reducible refine AX_reg0 fun K hK => ?_); simp only [go_sem]) | ((refine AX_drawG1 tyOK (by kernel_rfl) (by rfl) (by kernel_rfl) fun K hK => ?_); (first | simp only [go_sem, preN, effOp, runF, alM, mapOp, alD2, kdOf2, Bool.not_false, Bool.not_true, reduceCtorEq] | simp only [go_sem, preN, effOp, runF, alM, mapOp, Bool.not_false, Bool.not_true, reduceCtorEq] | simp only [go_sem, preN, effOp, runF, alD2, kdOf2, Bool.not_false, Bool.not_true, reduceCtorEq] | simp only [go_sem, alD2, kdOf2, Bool.not_false, Bool.not_true, reduceCtorEq] | simp only [go_sem, preN, effOp, runF, Bool.not_false, Bool.not_true, reduceCtorEq] | simp only [go_sem])))); refine Wk.o ?_; (repeat revert hK K); exact h9)) : A := w h9
set_option maxRecDepth 100000 in
set_option maxHeartbeats 8000000 in
theorem pf_nums (T : List Tok3) (w : List UInt8) (lo hi : List Int) (z : Int) (hT : TokOK T) (hlo : lo.length ≤ 1000000) (hhi : hi.length ≤ 1000000) :
    PF Tryd.prog 42 [.iv (iTokL T), lt (.string (ba w)), .iv (iInts lo), .iv (iInts hi), lt (.int .i64 z)] fun r H' => r = .tup [.iv (iInts (nums T w lo hi z).1), lt (.int .i64 (nums T w lo hi z).2.1), lt (.int .i64 (nums T w lo hi z).2.2)] ∧ H' = [] := by
  refine SF.frozen ?_
  have hs1 := trivial; have hs2 := trivial; have hs3 := trivial; have hs4 := trivial; have hs5 := trivial; have hs6 := trivial; have hs7 := trivial; have hs8 := trivial; have hs9 := trivial; have hsa := trivial; have hsb := trivial; have hsc := trivial; have hN := trivial
  by_cases h0 : T.length = 0
  · have hp : nums T w lo hi z = ([], z, 4) := if_pos h0
    rw [hp]
    have hs1 : T.length = 0 := h0
    unfold iTokL
    (refine SF_of_bodyX (aload tt) (aload_ok tyOK) Tryd.func42 rfl (by kernel_rfl) ?_; simp only [Tryd.ntmps42, List.length_cons, List.length_nil, Nat.reduceAdd, Nat.reduceSub, List.replicate_succ, List.replicate_zero, List.cons_append, List.nil_append])
    (refine Wk.o ?_; (repeat revert hK K); refine W3549a ?_; (repeat intro K hK); refine ⟨?_⟩)
    (simp only [bodyX]; refine ⟨_, by simp only [aresults, aresult, XS.as, Tryd.results42, aload, go_sem, Option.bind_some]; rfl, ?_⟩)
    exact ⟨_, Snap.tri snap_i0 (.same _ (.iv _)) (.same _ (.iv _)), rfl, trivial⟩
  · have hlen := hT.len
    obtain ⟨e1, e2, e3⟩ := tokL_atL (T := T) (k := 0) (by omega)
    obtain ⟨g1, g2, g3⟩ := tokL_atL (T := T) (k := T.length - 1) (by omega)
    have hs1 : ((T.length : Int) == 0) = false := beq_eq_false_iff_ne.2 (by omega)
    have hs2 : (tokL T).getD 1 undef = _ := e2
    have hs3 : (tokL T).getD 2 undef = _ := e3
    have htail := tok_tail T 1
    rw [Nat.one_mul] at htail
    by_cases hw : (T.getD 0 tok0).2.2 = w
    · have hp : nums T w lo hi z = nGo (lastEnd T) z (T.drop 1) (lo.zip hi) [] := by unfold nums; rw [if_neg h0, if_neg (by rw [hw]; simp)]
      have hle : lastEnd T = (T.getD (T.length - 1) tok0).2.1 + (((T.getD (T.length - 1) tok0).2.2.length : Nat) : Int) := rfl
      have hpl := hT.pos (T.length - 1)
      have htl := hT.txt (T.length - 1)
      have hs4 : ((T.getD 0 tok0).2.2 == w) = true := by simpa using hw
      have hs5 : ((T.length : Int) - 1).toNat = T.length - 1 := by omega
      generalize (T.getD (T.length - 1) tok0).1 = la at *
      generalize (T.getD (T.length - 1) tok0).2.1 = lb at *
      generalize (T.getD (T.length - 1) tok0).2.2 = lx at *
      generalize (T.getD 0 tok0).2.1 = f1 at *
      generalize (T.getD 0 tok0).2.2 = f2 at *
      have hs6 := g1; have hs7 := g2; have hs8 := g3; have hs9 := htail
      rw [hle] at hp
      generalize nums T w lo hi z = Q at *
      unfold iTokL
      (refine SF_of_bodyX (aload tt) (aload_ok tyOK) Tryd.func42 rfl (by kernel_rfl) ?_; simp only [Tryd.ntmps42, List.length_cons, List.length_nil, Nat.reduceAdd, Nat.reduceSub, List.replicate_succ, List.replicate_zero, List.cons_append, List.nil_append])
      unfold iInts
      (refine Wk.o ?_; (repeat revert hK K); refine W3549a ?_; (repeat intro K hK); refine ⟨?_⟩)
      refine AX_nil 10 3 1 rfl ?_
      have hinit : ([] : List Int).map lint = [] := rfl
      (refine AX_wh (σ := Nat × List Int) [45, 46, 14, 47, 48, 49, 50, 51, 52, 53, 54, 55, 11, 12, 57, 58, 59, 60, 61, 62, 63, 64, 65, 66, 67, 68, 69, 56, 70, 71, 15, 16, 72, 73, 74, 75, 76, 77, 78, 79, 80, 81, 82, 83, 84, 85] (fun (i, acc) => [(0, .iv (.sl (fun j => .lit ((tokL (T.drop (i + 1))).getD j undef)) (T.length - (i + 1)) 3)), (44, lint i), (10, .osl 1 0 acc.length 1)]) (fun (i, acc) => [some ⟨49, [lt (.int .i64 la), lt (.int .i64 lb), lt (.string (ba lx))]⟩, some ⟨3, acc.map lint⟩]) (fun (i, acc) => []) (fun (i, acc) => i ≤ lo.length ∧ i ≤ hi.length ∧ acc.length ≤ i ∧ Q = nGo (lb + ((lx.length : Nat) : Int)) z (T.drop (i + 1)) ((lo.zip hi).drop i) acc) (fun (i, acc) => lo.length - i) (0, []) (fun d => by first | ((simp only [deadS, updS, List.set_cons_succ, List.set_cons_zero, lint, List.length_nil, List.length_cons]); done) | ((simp only [deadS, updS, List.set_cons_succ, List.set_cons_zero, lint, List.length_nil, List.length_cons]); rfl) | rfl) (by first | (with_reducible rfl) | (simp only [hinit]; done) | rfl) (by first | (with_reducible rfl) | rfl) (by first | exact ⟨Nat.zero_le _, Nat.zero_le _, Nat.le_refl _, hp⟩) ?_; rintro ⟨i, acc⟩ d fr hfr ⟨hi1, hi2, hacc, hq⟩; simp only [updS, deadS, List.set_cons_succ, List.set_cons_zero, lint] at hfr; subst hfr; (try dsimp only))
      clear hs2 hs3 hs6 hs7 hs8 hs9 g1 g2 g3 e1 e2 e3 htail
      have hU : (T.length - (i + 1) : Nat) = (T.drop (i + 1)).length := by rw [List.length_drop]
      by_cases hlt : i < lo.length ∧ i < hi.length
      · obtain ⟨hl1, hl2⟩ := hlt
        have hs2 : decide ((i : Int) < min (lo.length : Int) (hi.length : Int)) = true := decide_eq_true (by omega)
        rw [zip_drop hl1 hl2] at hq
        by_cases hT2 : (T.drop (i + 1)).length = 0
        · have hnil : T.drop (i + 1) = [] := List.length_eq_zero_iff.1 hT2
          rw [hnil, nGo] at hq
          have hs3 : T.length - (i + 1) = 0 := by rw [hU, hT2]
          (refine Wk.o ?_; (repeat revert hK K); refine W3549b ?_; (repeat intro K hK); refine ⟨?_⟩)
          (simp only [bodyX]; refine ⟨_, by simp only [aresults, aresult, XS.as, Tryd.results42, aload, go_sem, Option.bind_some]; rfl, ?_⟩)
          exact ⟨_, Snap.tri snap_i0 (.same _ (.iv _)) (.same _ (.iv _)), by first | rfl | (rw [hq]; done) | (rw [hq]; rfl), trivial⟩
        · have hTd := hT.drop (i + 1)
          have htx := hTd.txt 0
          have hcons : T.drop (i + 1) = (T.drop (i + 1)).getD 0 tok0 :: T.drop (i + 1 + 1) := by
            rw [dropG, List.drop_eq_getElem_cons (by rw [List.length_drop] at hT2; omega), List.getD_eq_getElem?_getD, List.getElem?_eq_getElem (by rw [List.length_drop] at hT2; omega)]; rfl
          obtain ⟨e1, e2, e3⟩ := tokL_atL (T := T.drop (i + 1)) (k := 0) (by omega)
          have hs6 : (tokL (T.drop (i + 1))).getD 1 undef = _ := e2
          have hs7 : (tokL (T.drop (i + 1))).getD 2 undef = _ := e3
          have hs8 : (fun j => IV.lit ((tokL (T.drop (i + 1))).getD (3 + j) undef)) = fun j => IV.lit ((tokL (T.drop (i + 1 + 1))).getD j undef) := by
            have := tok_tail (T.drop (i + 1)) 1
            rw [Nat.one_mul, List.drop_drop] at this
            exact this
          have hs3 : (((T.length - (i + 1) : Nat) : Int) == 0) = false := beq_eq_false_iff_ne.2 (by omega)
          rw [hcons, nGo] at hq
          dsimp only at hq
          generalize ((T.drop (i + 1)).getD 0 tok0).2.1 = p1 at *
          generalize ((T.drop (i + 1)).getD 0 tok0).2.2 = tx at *
          have hN := pf_Number tx (lo.getD i 0) (hi.getD i 0) htx
          generalize numR tx (lo.getD i 0) (hi.getD i 0) = nr at *
          obtain ⟨x, e⟩ := nr
          dsimp only at hq hN
          by_cases he : e = 0
          · subst he
            rw [if_neg (by simp)] at hq
            have hlen2 : (acc ++ [x]).length = acc.length + 1 := by simp
            (refine Wk.o ?_; (repeat revert hK K); refine W3549b ?_; (repeat intro K hK); refine ⟨?_⟩)
            exact whx_ren [0, 3] (i + 1, acc ++ [x]) ⟨by dsimp only; omega, by dsimp only; omega, by dsimp only; omega, hq⟩ (by dsimp only; omega) rfl (by decide) (by decide) (by (simp (disch := omega) only [go_sem, lint, Nat.reduceEqDiff, List.length_map, Nat.sub_sub])) (by (simp (disch := omega) only [go_sem, lint, Nat.reduceEqDiff, List.length_map, Nat.sub_sub])) (by (simp (disch := omega) only [go_sem, lint, Nat.reduceEqDiff, List.length_map, Nat.sub_sub])) (fun d => by first | ((simp (disch := omega) only [go_sem, lint, Nat.reduceEqDiff, List.length_map, Nat.sub_sub]); done) | ((simp (disch := omega) only [go_sem, lint, Nat.reduceEqDiff, List.length_map, Nat.sub_sub]); rfl))
          · rw [if_pos he] at hq
            have hs4 : (e != 0) = true := by simpa using he
            (refine Wk.o ?_; (repeat revert hK K); refine W3549b ?_; (repeat intro K hK); refine ⟨?_⟩)
            (simp only [bodyX]; refine ⟨_, by simp only [aresults, aresult, XS.as, Tryd.results42, aload, go_sem, Option.bind_some]; rfl, ?_⟩)
            exact ⟨_, Snap.tri snap_i0 (.same _ (.iv _)) (.same _ (.iv _)), by first | rfl | (rw [hq]; done) | (rw [hq]; rfl), trivial⟩
      · have hs2 : decide ((i : Int) < min (lo.length : Int) (hi.length : Int)) = false := decide_eq_false (by omega)
        have hz : (lo.zip hi).drop i = [] := List.drop_of_length_le (by rw [List.length_zip]; omega)
        rw [hz] at hq
        by_cases hT2 : (T.drop (i + 1)).length = 0
        · have hnil : T.drop (i + 1) = [] := List.length_eq_zero_iff.1 hT2
          rw [hnil, nGo] at hq
          have hs3 : T.length - (i + 1) = 0 := by rw [hU, hT2]
          (refine Wk.o ?_; (repeat revert hK K); refine W3549b ?_; (repeat intro K hK); refine ⟨?_⟩)
          (simp only [bodyX]; refine ⟨_, by simp only [aresults, aresult, XS.as, Tryd.results42, aload, go_sem, Option.bind_some]; rfl, ?_⟩)
          exact ⟨_, Snap.tri (snap_i rfl rfl) (.same _ (.iv _)) (.same _ (.iv _)), by first | rfl | (rw [hq]; done) | (rw [hq]; rfl), trivial⟩
        · obtain ⟨e1, e2, e3⟩ := tokL_atL (T := T.drop (i + 1)) (k := 0) (by omega)
          have hs6 : (tokL (T.drop (i + 1))).getD 1 undef = _ := e2
          have hs3 : decide ((0 : Int) < ((T.length - (i + 1) : Nat) : Int)) = true := decide_eq_true (by omega)
          obtain ⟨t0, T0, hcons⟩ : ∃ t0 T0, T.drop (i + 1) = t0 :: T0 := by
            cases h : T.drop (i + 1) with
            | nil => rw [h] at hT2; exact absurd rfl hT2
            | cons a b => exact ⟨a, b, rfl⟩
          rw [hcons, nGo] at hq
          have hp1 : ((T.drop (i + 1)).getD 0 tok0).2.1 = t0.2.1 := by rw [hcons]; rfl
          rw [hp1] at hs6
          (refine Wk.o ?_; (repeat revert hK K); refine W3549b ?_; (repeat intro K hK); refine ⟨?_⟩)
          (simp only [bodyX]; refine ⟨_, by simp only [aresults, aresult, XS.as, Tryd.results42, aload, go_sem, Option.bind_some]; rfl, ?_⟩)
          exact ⟨_, Snap.tri snap_i0 (.same _ (.iv _)) (.same _ (.iv _)), by first | rfl | (rw [hq]; done) | (rw [hq]; rfl), trivial⟩
    · have hp : nums T w lo hi z = ([], (T.getD 0 tok0).2.1, 8) := by unfold nums; rw [if_neg h0, if_pos hw]
      have hs4 : ((T.getD 0 tok0).2.2 == w) = false := by simpa using hw
      generalize (T.getD 0 tok0).2.1 = f1 at *
      generalize (T.getD 0 tok0).2.2 = f2 at *
      generalize nums T w lo hi z = Q at *
      unfold iTokL
      (refine SF_of_bodyX (aload tt) (aload_ok tyOK) Tryd.func42 rfl (by kernel_rfl) ?_; simp only [Tryd.ntmps42, List.length_cons, List.length_nil, Nat.reduceAdd, Nat.reduceSub, List.replicate_succ, List.replicate_zero, List.cons_append, List.nil_append])
      (refine Wk.o ?_; (repeat revert hK K); refine W3549b ?_; (repeat intro K hK); refine ⟨?_⟩)
      (simp only [bodyX]; refine ⟨_, by simp only [aresults, aresult, XS.as, Tryd.results42, aload, go_sem, Option.bind_some]; rfl, ?_⟩)
      exact ⟨_, Snap.tri snap_i0 (.same _ (.iv _)) (.same _ (.iv _)), by first | rfl | (rw [hp]; done) | (rw [hp]; rfl), trivial⟩
end Go.Proofs.YtdaenbgjafalcaaDoor
namespace Go.Proofs.YtdaenbgjafalcaaDoor
open Go.RowKit Go.Lib
set_option linter.unusedVariables false
set_option linter.unusedSimpArgs false
end Go.Proofs.YtdaenbgjafalcaaDoor
