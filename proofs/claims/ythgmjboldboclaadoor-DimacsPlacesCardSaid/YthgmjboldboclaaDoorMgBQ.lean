import Derived.Test.YthgmjboldboclaaDoorMgBF
import Derived.Test.YthgmjboldboclaaDoorMgBP
import Derived.Test.YthgmjboldboclaaDoorMgBN
import Derived.Test.YthgmjboldboclaaDoorMgAP
import Derived.Test.YthgmjboldboclaaDoorMgAT
import Derived.Test.YthgmjboldboclaaDoorMgAR
import Derived.Test.YthgmjboldboclaaDoorMgBL
import Derived.Test.YthgmjboldboclaaDoorMgAM
namespace Go.Proofs.YthgmjboldboclaaDoor
open Go.RowKit
set_option linter.unusedVariables false
theorem frz_ints {HD : AHeap} {o : Nat} {t : TypeId} {xs : List Int} {n : Nat} (h : HD[o]? = some (some ⟨t, xs.map lint⟩)) (hn : n = xs.length) : FrzV HD (.osl o 0 n 1) (.iv (iInts xs)) := by
  subst hn
  exact .iv _ _ (SnapC.lits (fun j => .int .i64 (xs.getD j 0)) h fun j hj => by rw [Nat.zero_add]; exact lint_at hj)
end Go.Proofs.YthgmjboldboclaaDoor
namespace Go.Proofs.YthgmjboldboclaaDoor
open Go.RowKit Go.Lib
set_option linter.unusedVariables false
set_option linter.unusedSimpArgs false
theorem lead_frz {m : Nat} {S : XS → Prop} {fr : List AV} {H : AHeap} {M : MS} (ds : List Nat) (ups : List (Nat × AV)) (hu : ∀ p ∈ ups, FrzV (onlyH ds H) (fr.getD p.1 uD) p.2) (h : LeadX m ⟨updS fr ups, setN ds H, M⟩ S) : LeadX m ⟨fr, H, M⟩ S :=
  LeadX.trans (S := fun s1 => s1 = ⟨updS fr ups, setN ds H, M⟩) (.of (.freeze ds ups hu rfl)) fun s' e => by rw [e]; exact h
attribute [go_sem] rnL_tokC idL_tokC tokC_len
def clM (T : List Tok3) (k : Nat) (f n : Int) : Nat := if f = 0 ∧ n ≠ 0 then T.length - k + 1 else 0
theorem clM_go {T : List Tok3} {k k2 : Nat} {n : Int} (hn : n ≠ 0) (hk : k ≤ T.length) : ∀ f2 n2, (f2 = 0 ∧ n2 ≠ 0 → k < k2 ∧ k2 ≤ T.length) → clM T k2 f2 n2 < clM T k 0 n := fun f2 n2 h2 => by
  unfold clM
  rw [if_pos (show (0 : Int) = 0 ∧ n ≠ 0 from ⟨rfl, hn⟩)]
  split
  · rename_i h3; have := h2 h3; omega
  · omega
theorem Wf546a {A B : Prop} (h9 : B) (w : B → A := by (intro h9; (repeat intro K hK); refine ⟨?_⟩; (repeat (first | (first | (with_reducible first | refine AX_block ?_ | refine AX_skip ?_ | refine AX_exit ?_ | refine AX_ret ?_ | refine AX_ift ?_ | refine AX_iff ?_ | refine AX_seq_k (fun K hK => ?_) | refine ContX.use (by assumption) ?_) | simp only [thenX, inBlockX, if_true, if_false, reduceCtorEq]) | (first | ((first | (with_reducible refine XRes_op tyOK ?_ ?_) | ((with_reducible first | refine ADF_op tyOK ?_ ?_ ?_ | refine ADX_op tyOK ?_ ?_ ?_); (focus rfl)) | (with_reducible refine ADR_alloc1 tyOK ?_ ?_) | ((with_reducible refine ADR_free1 tyOK ?_ ?_ ?_); (focus rfl)) | ((with_reducible refine ADR_free0 tyOK ?_ ?_ ?_); (focus rfl)) | ((with_reducible refine ADR_read1 tyOK ?_ ?_ ?_); (focus rfl)) | (with_reducible refine ADR_chg1 tyOK ?_ ?_)); (focus (first | (with_reducible rfl) | ((simp (disch := omega) only [go_sem]); done))); simp (disch := omega) only [go_sem , hs1, hs2, hs3, hs4, Int.toNat_natCast, Nat.reduceEqDiff, List.length_map, List.length_cons, List.length_nil]; (first | (with_reducible refine XRes_id ?_) | (with_reducible refine ADF_id ?_) | (with_reducible refine ADR_id1 ?_) | (with_reducible refine ADX_id ?_))) | ((first | (with_reducible refine XRes_skip ?_ ?_) | (with_reducible refine ADF_skip (b := true) ?_ ?_) | (with_reducible refine ADX_skip ?_ ?_) | ((with_reducible refine ADR_skip1 ?_ ?_ ?_); (focus rfl))); (focus (first | rfl | ((simp (disch := omega) only [go_sem]); done))); (simp only [putL, List.set_cons_succ, List.set_cons_zero]))) | ((first | (with_reducible refine XRes_nil ?_) | (with_reducible refine ADF_nil ?_) | (with_reducible refine ADR_nil ?_) | (with_reducible refine ADX_nil ?_)); (first | refine hK _ ?_ | refine hK _ _ ?_); clear hK K) | ((first | (with_reducible refine AX_reg0 fun K hK => ?_) | (refine AX_drawG1 tyOK (by kernel_rfl) (by rfl) (by kernel_rfl) fun K hK => ?_) | (refine AX_drawT tyOK (by kernel_rfl) (by decide +kernel) fun K hK => ?_) | (refine AX_drawM1 (by kernel_rfl) (by rfl) (by decide +kernel) fun K hK => ?_) | (refine AX_drawA tyOK (by kernel_rfl) (by decide +kernel) fun K hK => ?_)); (first | simp only [go_sem, preN, effOp, runF, alM, mapOp, alD2, kdOf2, Bool.not_false, Bool.not_true, reduceCtorEq] | simp only [go_sem, preN, effOp, runF, alM, mapOp, Bool.not_false, Bool.not_true, reduceCtorEq] | simp only [go_sem, preN, effOp, runF, alD2, kdOf2, Bool.not_false, Bool.not_true, reduceCtorEq] | simp only [go_sem, alD2, kdOf2, Bool.not_false, Bool.not_true, reduceCtorEq] | simp only [go_sem, preN, effOp, runF, Bool.not_false, Bool.not_true, reduceCtorEq] | simp only [go_sem])) | (first | ((refine XRes_fnX (by rfl) hA ?_); (rintro r H' M' ⟨rfl, rfl, rfl⟩); (simp only [putL, List.set_cons_succ, List.set_cons_zero]))))); refine Wk.o ?_; (repeat revert hK K); exact h9)) : A := w h9
set_option maxRecDepth 100000 in
set_option maxHeartbeats 8000000 in
theorem sx_clause (T : List Tok3) (k0 : Nat) (z w0 V : Int) (R : List (List Int)) (hT : T.length ≤ 1000000) (hL : ∀ j, (T.getD j tok0).2.2.length ≤ 1000000) (hV : 0 ≤ V ∧ V ≤ 100000) (hk0 : k0 ≤ T.length) :
    SX Tryd.prog 21 [.optr 0 0, lt (.int .i64 V)] [some ⟨53, [.osl 1 0 T.length 3, lt (.int .i64 k0), lt (.int .i64 z), lt (.int .i64 0), lt (.int .i64 w0)]⟩, some ⟨47, tokC T⟩, some ⟨25, [lt (.int .i64 V), .osl 3 0 R.length 1]⟩, some ⟨49, R.map rwI⟩] [] fun r H' M' => ∃ k f w n c, ClI V z T k0 k f w n c ∧ ¬ (f = 0 ∧ n ≠ 0) ∧ r = .iv (iInts c) ∧ H' = [some ⟨53, [.osl 1 0 T.length 3, lt (.int .i64 k), lt (.int .i64 z), lt (.int .i64 f), lt (.int .i64 w)]⟩, some ⟨47, tokC T⟩, some ⟨25, [lt (.int .i64 V), .osl 3 0 R.length 1]⟩, some ⟨49, R.map rwI⟩] := by
  have hs1 := trivial; have hs2 := trivial; have hs3 := trivial; have hs4 := trivial; have hA := trivial
  (refine SX_of_bodyL (aload tt) (aload_ok tyOK) Tryd.func21 rfl (by kernel_rfl) ?_; simp only [Tryd.ntmps21, List.length_cons, List.length_nil, Nat.reduceAdd, Nat.reduceSub, List.replicate_succ, List.replicate_zero, List.cons_append, List.nil_append])
  repeat (first | (first | (with_reducible first | refine AX_block ?_ | refine AX_skip ?_ | refine AX_exit ?_ | refine AX_ret ?_ | refine AX_ift ?_ | refine AX_iff ?_ | refine AX_seq_k (fun K hK => ?_) | refine ContX.use (by assumption) ?_) | simp only [thenX, inBlockX, if_true, if_false, reduceCtorEq]) | (first | ((first | (with_reducible refine XRes_op tyOK ?_ ?_) | ((with_reducible first | refine ADF_op tyOK ?_ ?_ ?_ | refine ADX_op tyOK ?_ ?_ ?_); (focus rfl)) | (with_reducible refine ADR_alloc1 tyOK ?_ ?_) | ((with_reducible refine ADR_free1 tyOK ?_ ?_ ?_); (focus rfl)) | ((with_reducible refine ADR_free0 tyOK ?_ ?_ ?_); (focus rfl)) | ((with_reducible refine ADR_read1 tyOK ?_ ?_ ?_); (focus rfl)) | (with_reducible refine ADR_chg1 tyOK ?_ ?_)); (focus (first | (with_reducible rfl) | ((simp (disch := omega) only [go_sem]); done))); simp (disch := omega) only [go_sem , hs1, hs2, hs3, hs4, Int.toNat_natCast, Nat.reduceEqDiff, List.length_map, List.length_cons, List.length_nil]; (first | (with_reducible refine XRes_id ?_) | (with_reducible refine ADF_id ?_) | (with_reducible refine ADR_id1 ?_) | (with_reducible refine ADX_id ?_))) | ((first | (with_reducible refine XRes_skip ?_ ?_) | (with_reducible refine ADF_skip (b := true) ?_ ?_) | (with_reducible refine ADX_skip ?_ ?_) | ((with_reducible refine ADR_skip1 ?_ ?_ ?_); (focus rfl))); (focus (first | rfl | ((simp (disch := omega) only [go_sem]); done))); (simp only [putL, List.set_cons_succ, List.set_cons_zero]))) | ((first | (with_reducible refine XRes_nil ?_) | (with_reducible refine ADF_nil ?_) | (with_reducible refine ADR_nil ?_) | (with_reducible refine ADX_nil ?_)); (first | refine hK _ ?_ | refine hK _ _ ?_); clear hK K) | ((with_reducible refine AX_reg0 fun K hK => ?_); simp only [go_sem]) | ((refine XRes_makeMap rfl (fun b => ?_)); simp only [putL, List.set_cons_succ, List.set_cons_zero, mSet_upd, mSet_get, mSet_is, List.nil_append, List.cons_append]))
  refine AX_cellNew 5 3 1 0 ⟨49, [lt (.slice none 0 0)]⟩ rfl rfl ?_
  simp only [List.length_cons, List.length_nil, List.cons_append, List.nil_append, Nat.zero_add, Nat.reduceAdd, List.set_cons_succ, List.set_cons_zero]
  rw [mSet_nil, ← memF_nil]
  (refine AWH (σ := Nat × Int × Int × Int × List Int) [11, 12, 13, 14, 15, 16, 17, 18, 19, 20, 21, 22, 23] (fun (k, f, w, n, c) => [(8, .optr 8 0)]) (fun (k, f, w, n, c) => [some ⟨53, [.osl 1 0 T.length 3, lt (.int .i64 k), lt (.int .i64 z), lt (.int .i64 f), lt (.int .i64 w)]⟩, some ⟨47, tokC T⟩, some ⟨25, [lt (.int .i64 V), .osl 3 0 R.length 1]⟩, some ⟨49, R.map rwI⟩, some ⟨3, [lt (.int .i64 V)]⟩, some ⟨49, [.osl 9 0 c.length 1]⟩, some ⟨88, [lt (.map (some b))]⟩, some ⟨91, [.fn 45 [] [.optr 6 0]]⟩, some ⟨3, [lt (.int .i64 n)]⟩, some ⟨3, c.map lint⟩]) (fun (k, f, w, n, c) => [(b, c.length, mSet (memF c))]) (fun (k, f, w, n, c) => ClI V z T k0 k f w n c) (fun (k, f, w, n, c) => clM T k f n) (k0, 0, w0, 1, []) (by first | exact ⟨by rw [if_pos ⟨rfl, by decide⟩], hk0, by simp, by simp, by decide⟩) ?_; rintro ⟨k, f, w, n, c⟩ d fr hfr hI; simp only [updS, deadS, List.set_cons_succ, List.set_cons_zero, lint] at hfr; subst hfr; (try dsimp only))
  by_cases hc : f = 0 ∧ n ≠ 0
  · obtain ⟨rfl, hn⟩ := hc
    have hs1 : (n == 0) = false := by simpa using hn
    have hnb := hI.nb
    have hle := hI.le
    by_cases hk : k < T.length
    · have hl := hL k
      have hmm := memF_add c
      generalize hlx : (T.getD k tok0).2.2 = l at *
      have hV2 : 0 ≤ V ∧ V ≤ 1000000 := by omega
      have hb := numR_bd (l := l) hV.1
      by_cases h1 : (numR l (-V) V).2 ≠ 0 ∨ (numR l (-V) V).1 = 0
      · have hW := sx_cl2a V n l c b c.length (memF c) (some ⟨53, [.osl 1 0 T.length 3, lt (.int .i64 k), lt (.int .i64 z), lt (.int .i64 4), lt (.int .i64 (rdAt T z k))]⟩) (some ⟨47, tokC T⟩) (some ⟨25, [lt (.int .i64 V), .osl 3 0 R.length 1]⟩) (some ⟨49, R.map rwI⟩) hV2 hl hI.len h1
        have hA := sx_takeGo T k z w (litE V c l) hT hk 46 [] [.optr 4 0, .optr 8 0, .optr 5 0, .optr 7 0, .optr 6 0] [some ⟨25, [lt (.int .i64 V), .osl 3 0 R.length 1]⟩, some ⟨49, R.map rwI⟩, some ⟨3, [lt (.int .i64 V)]⟩, some ⟨49, [.osl 9 0 c.length 1]⟩, some ⟨88, [lt (.map (some b))]⟩, some ⟨91, [.fn 45 [] [.optr 6 0]]⟩, some ⟨3, [lt (.int .i64 n)]⟩, some ⟨3, c.map lint⟩] [some ⟨25, [lt (.int .i64 V), .osl 3 0 R.length 1]⟩, some ⟨49, R.map rwI⟩, some ⟨3, [lt (.int .i64 V)]⟩, some ⟨49, [.osl 9 0 c.length 1]⟩, some ⟨88, [lt (.map (some b))]⟩, some ⟨91, [.fn 45 [] [.optr 6 0]]⟩, some ⟨3, [lt (.int .i64 (numR l (-V) V).1)]⟩, some ⟨3, c.map lint⟩] [(b, c.length, mSet (memF c))] [(b, c.length, mSet (memF c))] (by simp) (by rw [hlx]; exact hW)
        have hI2 := ClI.stop hV hI hn hk (by rw [hlx]; rcases h1 with h1 | h1; exact .inl (by unfold litE; rw [if_pos h1]; exact h1); exact .inr h1)
        rw [hlx] at hI2
        (refine Wk.o ?_; (repeat revert hK K); refine Wf546a ?_; (repeat intro K hK); refine ⟨?_⟩)
        exact whx_ren [4, 5, 6, 7, 10, 9] (k + 1, litE V c l, rdAt T z k, (numR l (-V) V).1, c) hI2 (clM_go hn hle _ _ fun _ => ⟨by omega, by omega⟩) rfl (by decide) (by decide) (by (simp (disch := omega) only [go_sem, lint, Nat.reduceEqDiff, List.length_map])) (by (simp (disch := omega) only [go_sem, lint, Nat.reduceEqDiff, List.length_map])) (by (simp (disch := omega) only [go_sem, lint, Nat.reduceEqDiff, List.length_map])) (fun d => by first | ((simp (disch := omega) only [go_sem, lint, Nat.reduceEqDiff, List.length_map]); done) | ((simp (disch := omega) only [go_sem, lint, Nat.reduceEqDiff, List.length_map]); rfl))
      · obtain ⟨he, hne⟩ := not_or.1 h1
        have he : (numR l (-V) V).2 = 0 := Classical.not_not.1 he
        have hb2 : -100000 ≤ (numR l (-V) V).1 ∧ (numR l (-V) V).1 ≤ 100000 := by omega
        have hEl := litE_go (c := c) he hne
        by_cases h3 : c.length = 1000
        · rw [if_pos h3] at hEl
          have hW := sx_cl2b V n l c b c.length (memF c) (some ⟨53, [.osl 1 0 T.length 3, lt (.int .i64 k), lt (.int .i64 z), lt (.int .i64 4), lt (.int .i64 (rdAt T z k))]⟩) (some ⟨47, tokC T⟩) (some ⟨25, [lt (.int .i64 V), .osl 3 0 R.length 1]⟩) (some ⟨49, R.map rwI⟩) hl he hne hV2 h3
          have hA := sx_takeGo T k z w (litE V c l) hT hk 46 [] [.optr 4 0, .optr 8 0, .optr 5 0, .optr 7 0, .optr 6 0] [some ⟨25, [lt (.int .i64 V), .osl 3 0 R.length 1]⟩, some ⟨49, R.map rwI⟩, some ⟨3, [lt (.int .i64 V)]⟩, some ⟨49, [.osl 9 0 c.length 1]⟩, some ⟨88, [lt (.map (some b))]⟩, some ⟨91, [.fn 45 [] [.optr 6 0]]⟩, some ⟨3, [lt (.int .i64 n)]⟩, some ⟨3, c.map lint⟩] [some ⟨25, [lt (.int .i64 V), .osl 3 0 R.length 1]⟩, some ⟨49, R.map rwI⟩, some ⟨3, [lt (.int .i64 V)]⟩, some ⟨49, [.osl 9 0 c.length 1]⟩, some ⟨88, [lt (.map (some b))]⟩, some ⟨91, [.fn 45 [] [.optr 6 0]]⟩, some ⟨3, [lt (.int .i64 (numR l (-V) V).1)]⟩, some ⟨3, c.map lint⟩] [(b, c.length, mSet (memF c))] [(b, c.length, mSet (memF c))] (by simp) (by rw [hlx]; exact hW)
          have hI2 := ClI.stop hV hI hn hk (by rw [hlx, hEl]; exact .inl (by decide))
          rw [hlx] at hI2
          (refine Wk.o ?_; (repeat revert hK K); refine Wf546a ?_; (repeat intro K hK); refine ⟨?_⟩)
          exact whx_ren [4, 5, 6, 7, 10, 9] (k + 1, litE V c l, rdAt T z k, (numR l (-V) V).1, c) hI2 (clM_go hn hle _ _ fun _ => ⟨by omega, by omega⟩) rfl (by decide) (by decide) (by (simp (disch := omega) only [go_sem, lint, Nat.reduceEqDiff, List.length_map])) (by (simp (disch := omega) only [go_sem, lint, Nat.reduceEqDiff, List.length_map])) (by (simp (disch := omega) only [go_sem, lint, Nat.reduceEqDiff, List.length_map])) (fun d => by first | ((simp (disch := omega) only [go_sem, lint, Nat.reduceEqDiff, List.length_map]); done) | ((simp (disch := omega) only [go_sem, lint, Nat.reduceEqDiff, List.length_map]); rfl))
        · rw [if_neg h3] at hEl
          have h3 : c.length < 1000 := by have := hI.len; omega
          by_cases hf : (numR l (-V) V).1 ∈ c
          · rw [if_pos hf] at hEl
            have hW := sx_cl2c V n l c b c.length (memF c) (some ⟨53, [.osl 1 0 T.length 3, lt (.int .i64 k), lt (.int .i64 z), lt (.int .i64 4), lt (.int .i64 (rdAt T z k))]⟩) (some ⟨47, tokC T⟩) (some ⟨25, [lt (.int .i64 V), .osl 3 0 R.length 1]⟩) (some ⟨49, R.map rwI⟩) hl he hne (by omega) hV2 h3 (decide_eq_true hf) hf
            have hA := sx_takeGo T k z w (litE V c l) hT hk 46 [] [.optr 4 0, .optr 8 0, .optr 5 0, .optr 7 0, .optr 6 0] [some ⟨25, [lt (.int .i64 V), .osl 3 0 R.length 1]⟩, some ⟨49, R.map rwI⟩, some ⟨3, [lt (.int .i64 V)]⟩, some ⟨49, [.osl 9 0 c.length 1]⟩, some ⟨88, [lt (.map (some b))]⟩, some ⟨91, [.fn 45 [] [.optr 6 0]]⟩, some ⟨3, [lt (.int .i64 n)]⟩, some ⟨3, c.map lint⟩] [some ⟨25, [lt (.int .i64 V), .osl 3 0 R.length 1]⟩, some ⟨49, R.map rwI⟩, some ⟨3, [lt (.int .i64 V)]⟩, some ⟨49, [.osl 9 0 c.length 1]⟩, some ⟨88, [lt (.map (some b))]⟩, some ⟨91, [.fn 45 [] [.optr 6 0]]⟩, some ⟨3, [lt (.int .i64 (numR l (-V) V).1)]⟩, some ⟨3, c.map lint⟩, some ⟨89, []⟩] [(b, c.length, mSet (memF c))] [(b, c.length, mSet (memF c))] (by simp) (by rw [hlx]; exact hW)
            have hI2 := ClI.stop hV hI hn hk (by rw [hlx, hEl]; exact .inl (by decide))
            rw [hlx] at hI2
            (refine Wk.o ?_; (repeat revert hK K); refine Wf546a ?_; (repeat intro K hK); refine ⟨?_⟩)
            exact whx_ren [4, 5, 6, 7, 11, 9] (k + 1, litE V c l, rdAt T z k, (numR l (-V) V).1, c) hI2 (clM_go hn hle _ _ fun _ => ⟨by omega, by omega⟩) rfl (by decide) (by decide) (by (simp (disch := omega) only [go_sem, lint, Nat.reduceEqDiff, List.length_map])) (by (simp (disch := omega) only [go_sem, lint, Nat.reduceEqDiff, List.length_map])) (by (simp (disch := omega) only [go_sem, lint, Nat.reduceEqDiff, List.length_map])) (fun d => by first | ((simp (disch := omega) only [go_sem, lint, Nat.reduceEqDiff, List.length_map]); done) | ((simp (disch := omega) only [go_sem, lint, Nat.reduceEqDiff, List.length_map]); rfl))
          · rw [if_neg hf] at hEl
            by_cases hg : -(numR l (-V) V).1 ∈ c
            · rw [if_pos hg] at hEl
              have hW := sx_cl2d V n l c b c.length (memF c) (some ⟨53, [.osl 1 0 T.length 3, lt (.int .i64 k), lt (.int .i64 z), lt (.int .i64 4), lt (.int .i64 (rdAt T z k))]⟩) (some ⟨47, tokC T⟩) (some ⟨25, [lt (.int .i64 V), .osl 3 0 R.length 1]⟩) (some ⟨49, R.map rwI⟩) hl he hne hb2 hV2 h3 (decide_eq_false hf) hf (decide_eq_true hg) hg
              have hA := sx_takeGo T k z w (litE V c l) hT hk 46 [] [.optr 4 0, .optr 8 0, .optr 5 0, .optr 7 0, .optr 6 0] [some ⟨25, [lt (.int .i64 V), .osl 3 0 R.length 1]⟩, some ⟨49, R.map rwI⟩, some ⟨3, [lt (.int .i64 V)]⟩, some ⟨49, [.osl 9 0 c.length 1]⟩, some ⟨88, [lt (.map (some b))]⟩, some ⟨91, [.fn 45 [] [.optr 6 0]]⟩, some ⟨3, [lt (.int .i64 n)]⟩, some ⟨3, c.map lint⟩] [some ⟨25, [lt (.int .i64 V), .osl 3 0 R.length 1]⟩, some ⟨49, R.map rwI⟩, some ⟨3, [lt (.int .i64 V)]⟩, some ⟨49, [.osl 9 0 c.length 1]⟩, some ⟨88, [lt (.map (some b))]⟩, some ⟨91, [.fn 45 [] [.optr 6 0]]⟩, some ⟨3, [lt (.int .i64 (numR l (-V) V).1)]⟩, some ⟨3, c.map lint⟩, some ⟨89, []⟩, some ⟨89, []⟩] [(b, c.length, mSet (memF c))] [(b, c.length, mSet (memF c))] (by simp) (by rw [hlx]; exact hW)
              have hI2 := ClI.stop hV hI hn hk (by rw [hlx, hEl]; exact .inl (by decide))
              rw [hlx] at hI2
              (refine Wk.o ?_; (repeat revert hK K); refine Wf546a ?_; (repeat intro K hK); refine ⟨?_⟩)
              exact whx_ren [4, 5, 6, 7, 12, 9] (k + 1, litE V c l, rdAt T z k, (numR l (-V) V).1, c) hI2 (clM_go hn hle _ _ fun _ => ⟨by omega, by omega⟩) rfl (by decide) (by decide) (by (simp (disch := omega) only [go_sem, lint, Nat.reduceEqDiff, List.length_map])) (by (simp (disch := omega) only [go_sem, lint, Nat.reduceEqDiff, List.length_map])) (by (simp (disch := omega) only [go_sem, lint, Nat.reduceEqDiff, List.length_map])) (fun d => by first | ((simp (disch := omega) only [go_sem, lint, Nat.reduceEqDiff, List.length_map]); done) | ((simp (disch := omega) only [go_sem, lint, Nat.reduceEqDiff, List.length_map]); rfl))
            · rw [if_neg hg] at hEl
              have hW := sx_cl2e V n l c b c.length (memF c) (some ⟨53, [.osl 1 0 T.length 3, lt (.int .i64 k), lt (.int .i64 z), lt (.int .i64 4), lt (.int .i64 (rdAt T z k))]⟩) (some ⟨47, tokC T⟩) (some ⟨25, [lt (.int .i64 V), .osl 3 0 R.length 1]⟩) (some ⟨49, R.map rwI⟩) hl he hne hb2 hV2 h3 (decide_eq_false hf) hf (decide_eq_false hg) hg (by omega)
              rw [hmm] at hW
              have hA := sx_takeGo T k z w 0 hT hk 46 [] [.optr 4 0, .optr 8 0, .optr 5 0, .optr 7 0, .optr 6 0] [some ⟨25, [lt (.int .i64 V), .osl 3 0 R.length 1]⟩, some ⟨49, R.map rwI⟩, some ⟨3, [lt (.int .i64 V)]⟩, some ⟨49, [.osl 9 0 c.length 1]⟩, some ⟨88, [lt (.map (some b))]⟩, some ⟨91, [.fn 45 [] [.optr 6 0]]⟩, some ⟨3, [lt (.int .i64 n)]⟩, some ⟨3, c.map lint⟩] [some ⟨25, [lt (.int .i64 V), .osl 3 0 R.length 1]⟩, some ⟨49, R.map rwI⟩, some ⟨3, [lt (.int .i64 V)]⟩, some ⟨49, [.osl 13 0 (c.length + 1) 1]⟩, some ⟨88, [lt (.map (some b))]⟩, some ⟨91, [.fn 45 [] [.optr 6 0]]⟩, some ⟨3, [lt (.int .i64 (numR l (-V) V).1)]⟩, none, some ⟨89, []⟩, some ⟨89, []⟩, some ⟨3, [lt (.int .i64 (numR l (-V) V).1)]⟩, some ⟨3, (c ++ [(numR l (-V) V).1]).map lint⟩] [(b, c.length, mSet (memF c))] [(b, c.length + 1, mSet (memF (c ++ [(numR l (-V) V).1])))] (by simp) (by rw [hlx]; exact hW)
              have hI2 := ClI.goes hV hI hn hk h3 (by rw [hlx, hEl]) (by rw [hlx]; exact hne)
              rw [hlx] at hI2
              have hlen : (c ++ [(numR l (-V) V).1]).length = c.length + 1 := by simp
              (refine Wk.o ?_; (repeat revert hK K); refine Wf546a ?_; (repeat intro K hK); refine ⟨?_⟩)
              exact whx_ren [4, 5, 6, 7, 14, 13] (k + 1, 0, rdAt T z k, (numR l (-V) V).1, c ++ [(numR l (-V) V).1]) hI2 (clM_go hn hle _ _ fun _ => ⟨by omega, by omega⟩) (by rw [hlen]) (by decide) (by decide) (by (simp (disch := omega) only [go_sem, lint, Nat.reduceEqDiff, List.length_map])) (by (simp (disch := omega) only [go_sem, lint, Nat.reduceEqDiff, List.length_map])) (by dsimp only; rw [hlen]; (simp (disch := omega) only [go_sem, lint, Nat.reduceEqDiff, List.length_map])) (fun d => by first | ((simp (disch := omega) only [go_sem, lint, Nat.reduceEqDiff, List.length_map]); done) | ((simp (disch := omega) only [go_sem, lint, Nat.reduceEqDiff, List.length_map]); rfl))
    · have hA := SX.of (M := [(b, c.length, mSet (memF c))]) (sf_takeEnd T k z w hT hk 46 [] [.optr 4 0, .optr 8 0, .optr 5 0, .optr 7 0, .optr 6 0] [some ⟨25, [lt (.int .i64 V), .osl 3 0 R.length 1]⟩, some ⟨49, R.map rwI⟩, some ⟨3, [lt (.int .i64 V)]⟩, some ⟨49, [.osl 9 0 c.length 1]⟩, some ⟨88, [lt (.map (some b))]⟩, some ⟨91, [.fn 45 [] [.optr 6 0]]⟩, some ⟨3, [lt (.int .i64 n)]⟩, some ⟨3, c.map lint⟩])
      replace hA := hA.mono (Q' := fun r H' M' => r = .tup [] ∧ H' = (some ⟨53, [.osl 1 0 T.length 3, lt (.int .i64 k), lt (.int .i64 z), lt (.int .i64 4), lt (.int .i64 (rdAt T z k))]⟩) :: (some ⟨47, tokC T⟩) :: [some ⟨25, [lt (.int .i64 V), .osl 3 0 R.length 1]⟩, some ⟨49, R.map rwI⟩, some ⟨3, [lt (.int .i64 V)]⟩, some ⟨49, [.osl 9 0 c.length 1]⟩, some ⟨88, [lt (.map (some b))]⟩, some ⟨91, [.fn 45 [] [.optr 6 0]]⟩, some ⟨3, [lt (.int .i64 n)]⟩, some ⟨3, c.map lint⟩] ∧ M' = [(b, c.length, mSet (memF c))]) fun r H' M' h => ⟨h.1.1, h.1.2, h.2⟩
      have hI2 := ClI.ended hI hn hk
      (refine Wk.o ?_; (repeat revert hK K); refine Wf546a ?_; (repeat intro K hK); refine ⟨?_⟩)
      exact whx_ren [4, 5, 6, 7, 10, 9] (k, 4, rdAt T z k, n, c) hI2 (clM_go hn hle _ _ fun h => absurd (show (4 : Int) = 0 from h.1) (by decide)) rfl (by decide) (by decide) (by (simp (disch := omega) only [go_sem, lint, Nat.reduceEqDiff, List.length_map])) (by (simp (disch := omega) only [go_sem, lint, Nat.reduceEqDiff, List.length_map])) (by (simp (disch := omega) only [go_sem, lint, Nat.reduceEqDiff, List.length_map])) (fun d => by first | ((simp (disch := omega) only [go_sem, lint, Nat.reduceEqDiff, List.length_map]); done) | ((simp (disch := omega) only [go_sem, lint, Nat.reduceEqDiff, List.length_map]); rfl))
  · have hI0 : ClI V z T k0 k f w n c := hI
    by_cases hn : n = 0
    · subst hn
      (refine Wk.o ?_; (repeat revert hK K); refine Wf546a ?_; (repeat intro K hK); refine ⟨?_⟩)
      refine lead_frz [9] [(24, .iv (iInts c)), (4, .iv (iInts c))] (fun p hp => ?_) ?_
      · simp only [List.mem_cons, List.not_mem_nil, or_false] at hp
        rcases hp with rfl | rfl <;> exact frz_ints (only_mk (by decide) rfl) rfl
      simp only [setN, updS, List.set_cons_succ, List.set_cons_zero]
      (refine lead_drop [] [0, 1, 2, 3, 5, 6, 7, 8, 9, 10, 11, 12, 13, 14, 15, 16, 17, 18, 19, 20, 21, 22, 23, 24] [some ⟨53, [.osl 1 0 T.length 3, lt (.int .i64 k), lt (.int .i64 z), lt (.int .i64 f), lt (.int .i64 w)]⟩, some ⟨47, tokC T⟩, some ⟨25, [lt (.int .i64 V), .osl 3 0 R.length 1]⟩, some ⟨49, R.map rwI⟩] (by decide) (by decide) (by (simp (disch := omega) only [go_sem, lint, Nat.reduceEqDiff, List.length_map])) (by (simp (disch := omega) only [go_sem, lint, Nat.reduceEqDiff, List.length_map])) (by (simp (disch := omega) only [go_sem, lint, Nat.reduceEqDiff, List.length_map])) (fun d => ?_); (simp (disch := omega) only [go_sem, lint, Nat.reduceEqDiff, List.length_map]))
      (simp only [bodyXM]; refine ⟨_, by simp only [aresults, aresult, XS.as, Tryd.results21, aload, go_sem, Option.bind_some]; rfl, ?_⟩)
      exact ⟨k, f, w, _, c, hI0, hc, rfl, rfl⟩
    · have hf : f ≠ 0 := fun e => hc ⟨e, hn⟩
      have hs1 : (n == 0) = false := by simpa using hn
      have hs2 : (f == 0) = false := by simpa using hf
      (refine Wk.o ?_; (repeat revert hK K); refine Wf546a ?_; (repeat intro K hK); refine ⟨?_⟩)
      refine lead_frz [9] [(24, .iv (iInts c)), (4, .iv (iInts c))] (fun p hp => ?_) ?_
      · simp only [List.mem_cons, List.not_mem_nil, or_false] at hp
        rcases hp with rfl | rfl <;> exact frz_ints (only_mk (by decide) rfl) rfl
      simp only [setN, updS, List.set_cons_succ, List.set_cons_zero]
      (refine lead_drop [] [0, 1, 2, 3, 5, 6, 7, 8, 9, 10, 11, 12, 13, 14, 15, 16, 17, 18, 19, 20, 21, 22, 23, 24] [some ⟨53, [.osl 1 0 T.length 3, lt (.int .i64 k), lt (.int .i64 z), lt (.int .i64 f), lt (.int .i64 w)]⟩, some ⟨47, tokC T⟩, some ⟨25, [lt (.int .i64 V), .osl 3 0 R.length 1]⟩, some ⟨49, R.map rwI⟩] (by decide) (by decide) (by (simp (disch := omega) only [go_sem, lint, Nat.reduceEqDiff, List.length_map])) (by (simp (disch := omega) only [go_sem, lint, Nat.reduceEqDiff, List.length_map])) (by (simp (disch := omega) only [go_sem, lint, Nat.reduceEqDiff, List.length_map])) (fun d => ?_); (simp (disch := omega) only [go_sem, lint, Nat.reduceEqDiff, List.length_map]))
      (simp only [bodyXM]; refine ⟨_, by simp only [aresults, aresult, XS.as, Tryd.results21, aload, go_sem, Option.bind_some]; rfl, ?_⟩)
      exact ⟨k, f, w, _, c, hI0, hc, rfl, rfl⟩
end Go.Proofs.YthgmjboldboclaaDoor
namespace Go.Proofs.YthgmjboldboclaaDoor
open Go.RowKit
set_option linter.unusedVariables false
set_option linter.unusedSimpArgs false
section
variable {P : Program} {m : Nat} {G0 : Gh} {S : AHeap → Prop} {H0 : AHeap}
def ADL0 (P : Program) (m : Nat) (G0 : Gh) (ops : Array Oper) (S : AHeap → Prop) (H0 : AHeap) (K : List AV → AHeap → MS → Prop) : List Oper → List Kd → List Bool → List AV → AHeap → MS → Prop
  | [], _, _, fr, H, M => K fr H M
  | o :: l, al, fl, fr, H, M => ∃ x H' M', OpLk P m G0 ops S H0 o fr H H' M M' x (al.headD .free) (fl.headD false) ∧ ADL0 P m G0 ops S H0 K l al.tail fl.tail (putL fr o.dst x) H' M'
theorem opLk_strip {ops : List Oper} {n : Nat} (hn : topD (dsts ops) ≤ n) {o : Oper} {fr : List AV} {H H' : AHeap} {M M' : MS} {x : AV} {b : Kd} {f : Bool} (h : OpLk P m G0 (idB n) S H0 (strip (dsts ops) o) fr H H' M M' x b f) : OpLk P m G0 ops.toArray S H0 o fr H H' M M' x b f := by
  cases h with
  | skip _ e e1 e2 h2 => exact .skip _ e e1 e2 (by rw [← awanted_strip hn]; exact h2)
  | free x e1 e2 h1 h2 => exact .free _ e1 e2 (by rw [← awanted_strip hn]; exact h1) fun H => does_strip hn (h2 H)
  | look x e1 e2 h1 h2 => exact .look _ e1 e2 (by rw [← awanted_strip hn]; exact h1) fun H hS => does_strip hn (h2 H hS)
  | read x e1 e2 h1 h2 => exact .read _ e1 e2 (by rw [← awanted_strip hn]; exact h1) (does_strip hn h2)
  | turn x f hf h1 hl h2 =>
    refine .turn _ _ hf (by rw [← awanted_strip hn]; exact h1) hl fun Q G a w K hl hM hi hk => ?_
    rw [← wp_strip (dsts ops)]
    exact h2 Q G a w K hl hM hi ⟨hk.1, fun t ht => hk.2 t (by rw [← looks_strip hn]; exact ht)⟩
theorem ADL0_strip {ops : List Oper} {n : Nat} (hn : topD (dsts ops) ≤ n) {K : List AV → AHeap → MS → Prop} : ∀ {l : List Oper} {al : List Kd} {fl : List Bool} {fr : List AV} {H : AHeap} {M : MS}, ADL0 P m G0 (idB n) S H0 K (l.map (strip (dsts ops))) al fl fr H M → ADL0 P m G0 ops.toArray S H0 K l al fl fr H M
  | [], al, fl, fr, H, M, h => h
  | o :: l, al, fl, fr, H, M, h => by
    obtain ⟨x, H', M', h1, h2⟩ := h
    exact ⟨x, H', M', opLk_strip hn h1, ADL0_strip hn h2⟩
theorem ADL0.fns {ops : Array Oper} {K : List AV → AHeap → MS → Prop} : ∀ {l : List Oper} {al : List Kd} {fl : List Bool} {fr : List AV} {H : AHeap} {M : MS}, ADL0 P m G0 ops S H0 K l al fl fr H M →
    ∃ (X : Nat → AV) (F : Nat → List AV) (Hk : Nat → AHeap) (Mk : Nat → MS), F 0 = fr ∧ Hk 0 = H ∧ Mk 0 = M ∧ K (F l.length) (Hk l.length) (Mk l.length) ∧ ∀ j o, l[j]? = some o → OpLk P m G0 ops S H0 o (F j) (Hk j) (Hk (j + 1)) (Mk j) (Mk (j + 1)) (X j) (al.getD j .free) (fl.getD j false) ∧ F (j + 1) = putL (F j) o.dst (X j)
  | [], al, fl, fr, H, M, h => ⟨fun _ => uD, fun _ => fr, fun _ => H, fun _ => M, rfl, rfl, rfl, h, fun j o e => by simp at e⟩
  | o :: l, al, fl, fr, H, M, h => by
    obtain ⟨x, H', M', h1, h2⟩ := h
    obtain ⟨X, F, Hk, Mk, e1, e0, e2, e3, e4⟩ := ADL0.fns h2
    refine ⟨consF x X, consF fr F, consF H Hk, consF M Mk, rfl, rfl, rfl, e3, fun j o' e => ?_⟩
    cases j with
    | zero =>
      simp only [List.getElem?_cons_zero, Option.some.injEq] at e; subst e
      refine ⟨?_, e1⟩
      show OpLk P m G0 ops S H0 o fr H (Hk 0) M (Mk 0) x (al.getD 0 .free) (fl.getD 0 false)
      rw [e2, e0]
      cases al <;> cases fl <;> exact h1
    | succ j =>
      simp only [List.getElem?_cons_succ] at e
      have := e4 j o' e
      cases al <;> cases fl <;> exact this
def ADL (P : Program) (m : Nat) (S : AHeap → Prop) (H0 : AHeap) (K : List AV → AHeap → MS → Prop) (p : List Oper × List Kd × List Bool × List AV × AHeap × MS) : Prop := ∀ n, p.2.2.2.1.length ≤ n → ∀ G0, ADL0 P m G0 (idB n) S H0 K p.1 p.2.1 p.2.2.1 p.2.2.2.1 p.2.2.2.2.1 p.2.2.2.2.2
variable {tt : TT} {fr : List AV} {o : Oper} {l : List Oper} {al : List Kd} {fl : List Bool} {f0 : Bool} {K : List AV → AHeap → MS → Prop} {H : AHeap} {M : MS}
theorem ADL_nil (h : K fr H M) : ADL P m S H0 K ([], al, fl, fr, H, M) := fun n hn G0 => h
theorem ADL_id {p : List Oper × List Kd × List Bool × List AV × AHeap × MS} (h : ADL P m S H0 K p) : ADL P m S H0 K p := h
theorem ADL_free (hT : TyOK P tt) (hr : freeOp o.op = true) (hw : wantedS fr o = some true) (h : match aop tt ⟨fr, H⟩ o with | some (x, _) => ADL P m S H0 K (l, al, fl, putL fr o.dst x, H, M) | none => False) : ADL P m S H0 K (o :: l, .free :: al, false :: fl, fr, H, M) := fun n hn G0 => by
  cases hx : aop tt ⟨fr, H⟩ o with
  | none => rw [hx] at h; exact h.elim
  | some p =>
    obtain ⟨x, H'⟩ := p
    rw [hx] at h
    have := aop_ro (ro_of_free hr) hx
    subst this
    exact ⟨x, H', M, .free x rfl rfl (wanted_iff hn hw) fun H => does_aop hT (aop_free hr hx), h n (by show (putL _ _ _).length ≤ n; rw [putL_len]; exact hn) G0⟩
theorem ADL_chg (hT : TyOK P tt) (hm : m ≤ H.length) (hw : wantedS fr o = some true) (h : match aop tt ⟨fr, H⟩ o with | some (x, H') => H.length ≤ H'.length ∧ (f0 = true → S H') ∧ ADL P m S H0 K (l, al, fl, putL fr o.dst x, H', M) | none => False) : ADL P m S H0 K (o :: l, .chg :: al, f0 :: fl, fr, H, M) := fun n hn G0 => by
  cases hx : aop tt ⟨fr, H⟩ o with
  | none => rw [hx] at h; exact h.elim
  | some p =>
    obtain ⟨x, H'⟩ := p
    rw [hx] at h
    exact ⟨x, H', M, .turn x f0 h.2.1 (wanted_iff hn hw) h.1 fun Q G a w K hl hM hi hlk hk => does_aop hT hx Q G a w K hi hlk fun G' v w' k1 k2 k3 k4 => hk G.kp G' v w' ⟨_, k1⟩ (hl.trans (k1.leb hm)) (hM.leb (k1.leb hm)) k3 k4, h.2.2 n (by show (putL _ _ _).length ≤ n; rw [putL_len]; exact hn) G0⟩
theorem ADL_look (hT : TyOK P tt) (hr : roOp o.op = true) (hw : wantedS fr o = some true) {x : AV} (hx : ∀ H, S H → aop tt ⟨fr, H⟩ o = some (x, H)) (h : ADL P m S H0 K (l, al, fl, putL fr o.dst x, H, M)) : ADL P m S H0 K (o :: l, .free :: al, true :: fl, fr, H, M) := fun n hn G0 =>
  ⟨x, H, M, .look x rfl rfl (wanted_iff hn hw) fun H hS => does_aop hT (hx H hS), h n (by show (putL _ _ _).length ≤ n; rw [putL_len]; exact hn) G0⟩
theorem ADL_callX {d : Option Tmp} {fo : Operand} {args : Array Operand} {tys : Array TypeId} {ty : TypeId} {pos : String} {after : Array Edge} {g : Option (Nat × Bool)} (hm : m ≤ H.length)
    (hw : wantedS fr ⟨d, .call { callee := .value fo, args := args, argTypes := tys }, ty, pos, after, g⟩ = some true)
    {f : FuncId} {first caps : List AV} (hf : AS.ev ⟨fr, H⟩ fo = .fn f first caps) {x : AV} {H' : AHeap} {M' : MS} (hc : SX P f (first ++ args.toList.map (AS.ev ⟨fr, H⟩) ++ caps) H M fun r H1 M1 => r = x ∧ H1 = H' ∧ M1 = M') (hlen : H.length ≤ H'.length) (hS : f0 = true → S H')
    (h : ADL P m S H0 K (l, al, fl, putL fr d x, H', M')) : ADL P m S H0 K (⟨d, .call { callee := .value fo, args := args, argTypes := tys }, ty, pos, after, g⟩ :: l, .chg :: al, f0 :: fl, fr, H, M) := fun n hn G0 => by
  refine ⟨x, H', M', .turn x f0 hS (wanted_iff hn hw) hlen fun Q G a w K hl hM hi hlk hk => ?_, h n (by show (putL _ _ _).length ≤ n; rw [putL_len]; exact hn) G0⟩
  have hops : ∀ y, y = fo ∨ y ∈ args.toList → y ∈ (Op.call { callee := .value fo, args := args, argTypes := tys }).operands := fun y hy => by
    simp only [Op.operands, Call.operands]
    rcases hy with rfl | hy
    · simp
    · simp [Array.mem_toList_iff.1 hy]
  have hfe := hlk.ev (H := H) (hops fo (.inl rfl))
  rw [hf] at hfe
  generalize hfv : a.eval fo = fv at hfe
  cases hfe with
  | fn _ _ _ vs us h1 h2 h3 h4 =>
    have hargs0 : ∀ l : List Operand, (∀ y ∈ l, y ∈ args.toList) → RL H.length G (l.map (AS.ev ⟨fr, H⟩)) (l.map a.eval) := by
      intro l hm
      induction l with
      | nil => exact RL.nil _ _
      | cons y l ih => exact RL.cons (hlk.ev (hops y (.inr (hm y (by simp))))) (ih fun z hz => hm z (by simp [hz]))
    have hargs := RL.append (RL.append ⟨h1, h3⟩ (hargs0 args.toList fun _ h => h)) ⟨h2, h4⟩
    have hrun : (execOp a.eval ⟨d, .call { callee := .value fo, args := args, argTypes := tys }, ty, pos, after, g⟩).run P w = .ok (.enter f (vs ++ args.toList.map a.eval ++ us).toArray) w := by
      have e : (vs ++ args.toList.map a.eval ++ us).toArray = vs.toArray ++ args.map a.eval ++ us.toArray := by
        apply Array.toList_inj.1; simp
      rw [e]
      simp [execOp, resolve, hfv, Deferred.ofValue, invoke, run_enter hc.callable]
    unfold Oper.wp
    rw [hrun]
    refine (hc.calls G0.kp G w _ hl.kp hM hi hargs).mono fun e w' hp => ?_
    obtain ⟨v, r, G', H1, M1, rfl, hle, hM', hn', hi', hx, rfl, rfl, rfl⟩ := hp
    exact hk G0.kp G' v w' ⟨_, hle.le hi.dom⟩ (leb_call hm hl hle) hM' hi' hx
def lookOK (ops : Array Oper) (n b : Nat) (al : List Kd) (fl : List Bool) : Bool :=
  decide (b ≤ n) && (decide (b = n) || (al.getD b .free).al) && ((List.range b).all fun q => !(al.getD q .free).al || fl.getD q false) && (decide (b = n) ||
  mkM ops (fun ms => (List.range n).all fun k => (al.getD k .free).al || !(fl.getD k false) || (decide (b < ops.size) && (ms.getD (ops.size - 1 - b) 0).testBit k)) ops.size 0 [])
theorem look_of {ops : Array Oper} {n b : Nat} {al : List Kd} {fl : List Bool} (h : lookOK ops n b al fl = true) :
    b ≤ n ∧ (b < n → (al.getD b .free).al = true) ∧ (∀ q, q < b → (al.getD q .free).al = true → fl.getD q false = true) ∧ ∀ k, k < n → (al.getD k .free).al = false → fl.getD k false = true → b < n → Anc ops b k := by
  unfold lookOK at h
  simp only [Bool.and_eq_true, Bool.or_eq_true, decide_eq_true_eq] at h
  obtain ⟨⟨⟨h1, h2⟩, h3⟩, h⟩ := h
  rw [List.all_eq_true] at h3
  refine ⟨h1, fun hb => h2.resolve_left (by omega), fun q hq ha => ?_, fun k hk ha hf hb => ?_⟩
  · have := h3 q (List.mem_range.2 hq)
    rw [ha] at this; simpa using this
  · obtain ⟨ms, hg, h⟩ := mkM_ok (fun r i hr => absurd hr (by omega)) (h.resolve_left (by omega))
    rw [List.all_eq_true] at h
    have := h k (List.mem_range.2 hk)
    rw [ha, hf] at this
    simp only [Bool.false_or, Bool.not_true, Bool.and_eq_true, decide_eq_true_eq] at this
    exact hg b k (by omega) (by rw [Nat.zero_add]; exact this.2)
theorem AX_drawLk {Q : Exit → XS → Prop} (S : AHeap → Prop) (b : Nat) (al : List Kd) (fl : List Bool) (hmx : P.follows .mixedOrders = true) {id : Nat} {ops : List Oper} (hord : ordOK ops.toArray ops.length al = true) (hlk : lookOK ops.toArray ops.length b al fl = true) (hS : S H)
    (h : ∀ (K : List AV → AHeap → MS → Prop), (∀ F H' M', m ≤ H'.length → Q .normal ⟨F, H', M'⟩ → K F H' M') → ADL P m S H K (ops.map (strip (dsts ops)), al, fl, fr, H, M)) : AX P m (.region id ops.toArray true) Q ⟨fr, H, M⟩ := fun G0 G a w hm hl0 hM hr => by
  have hsz : ops.toArray.size = ops.length := by simp
  have ord : Ord ops.toArray ops.toArray.size al := by rw [hsz]; exact ord_of hord
  obtain ⟨X, F, Hk, Mk, e1, e0, e2, e3, e4⟩ := (ADL0_strip (n := max fr.length (topD (dsts ops))) (Nat.le_max_right _ _) (h (fun F H' M' => Q .normal ⟨F, H', M'⟩) (fun _ _ _ _ h => h) (max fr.length (topD (dsts ops))) (Nat.le_max_left _ _) G0)).fns
  obtain ⟨l1, l2, l3, l4⟩ := look_of hlk
  have st : Steps5 P m G0 ops.toArray S b Hk al fl X F Mk := ⟨fun k o ho => by rw [e0]; exact e4 k o (by simpa using ho), by rw [e0]; exact hS, by rw [hsz]; exact l1, by rw [hsz]; exact l2, l3, fun k hk ha hf hb => l4 k (by rw [← hsz]; exact hk) ha hf (by rw [← hsz]; exact hb)⟩
  have hm0 : m ≤ (Hk 0).length := by rw [e0]; exact hm
  refine wp_region_any hmx ?_
  refine any5 (m := m) (G0 := G0) (S := S) (b := b) (fl := fl) (Hk := Hk) (X := X) (F := F) (Mk := Mk) ord st hm0 (R := PostX m G0 Q) (fun G' a' w' k1 k2 k3 => ⟨G', ⟨F ops.toArray.size, Hk ops.toArray.size, Mk ops.toArray.size⟩, k1, k2, Nat.le_trans hm0 (st.grow _ (Nat.le_refl _)), k3, by rw [hsz]; exact e3⟩) ops.toArray.size (Array.replicate ops.toArray.size false) a { w with drawn := w.drawn + 1 } G 0 ?_ ?_ hr.defers ?_ (Nat.zero_le _) ?_ (by rw [e0]; exact hr.inv.drew) hl0 (by rw [e2]; exact hM)
  · simp [left]
  · refine ⟨by simp, fun j hj => ?_⟩
    simp [Array.getD] at hj
  · rw [e0]
    refine ⟨by rw [e1]; have := hr.fr.1; simp at this; exact this.symm, fun t j ht hj hl => ?_, fun t ht _ => ?_⟩
    · simp [Array.getD] at hl
    · rw [e1, arr_getD]; exact hr.fr.getD t
  · intro j hj ha
    simp [Array.getD]
end
end Go.Proofs.YthgmjboldboclaaDoor
