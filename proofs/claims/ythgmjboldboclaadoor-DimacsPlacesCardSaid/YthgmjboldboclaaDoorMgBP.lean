import Derived.Test.YthgmjboldboclaaDoorMgBO
import Derived.Test.YthgmjboldboclaaDoorMgBN
import Derived.Test.YthgmjboldboclaaDoorMgBL
namespace Go.Proofs.YthgmjboldboclaaDoor
open Go.RowKit Go.Lib
set_option linter.unusedVariables false
set_option linter.unusedSimpArgs false
set_option maxRecDepth 100000 in
set_option maxHeartbeats 4000000 in
theorem sx_cl2d (V v : Int) (l : List UInt8) (c : List Int) (b n : Nat) (f : Int → Bool) (A0 A1 A2 A3 : Option AObj) (hl : l.length ≤ 1000000) (h1 : (numR l (-V) V).2 = 0) (h2 : (numR l (-V) V).1 ≠ 0) (hb : -100000 ≤ (numR l (-V) V).1 ∧ (numR l (-V) V).1 ≤ 100000) (hV : 0 ≤ V ∧ V ≤ 1000000) (h3 : c.length < 1000) (hf : f (numR l (-V) V).1 = false) (hfc : (numR l (-V) V).1 ∉ c) (hg : f (-(numR l (-V) V).1) = true) (hgc : -(numR l (-V) V).1 ∈ c) :
    SX Tryd.prog 46 [lt (.string (ba l)), .optr 4 0, .optr 8 0, .optr 5 0, .optr 7 0, .optr 6 0] [A0, A1, A2, A3, some ⟨3, [lt (.int .i64 V)]⟩, some ⟨49, [.osl 9 0 c.length 1]⟩, some ⟨88, [lt (.map (some b))]⟩, some ⟨91, [.fn 45 [] [.optr 6 0]]⟩, some ⟨3, [lt (.int .i64 v)]⟩, some ⟨3, c.map lint⟩] [(b, n, mSet f)] fun r H' M' => r = lt (.int .i64 (litE V c l)) ∧ H' = [A0, A1, A2, A3, some ⟨3, [lt (.int .i64 V)]⟩, some ⟨49, [.osl 9 0 c.length 1]⟩, some ⟨88, [lt (.map (some b))]⟩, some ⟨91, [.fn 45 [] [.optr 6 0]]⟩, some ⟨3, [lt (.int .i64 (numR l (-V) V).1)]⟩, some ⟨3, c.map lint⟩, some ⟨89, []⟩, some ⟨89, []⟩] ∧ M' = [(b, n, mSet f)] := by
  have hs1 := trivial; have hs2 := trivial; have hs3 := trivial; have hs4 := trivial; have hG := trivial; have hH1 := trivial; have hH2 := trivial
  have hN := pf_Number l (-V) V hl
  have hE := litE_go h1 h2 (c := c)
  rw [if_neg (by omega), if_neg hfc, if_pos hgc] at hE
  rw [hE]
  generalize numR l (-V) V = q at *
  obtain ⟨x, e⟩ := q
  dsimp only at *
  subst h1
  have hs1 : (x == 0) = false := by simpa using h2
  have hs2 : ((c.length : Int) == 1000) = false := by simp; omega
  have hH1 := sx_has x b n f A0 A1 A2 A3 (some ⟨3, [lt (.int .i64 V)]⟩) (some ⟨49, [.osl 9 0 c.length 1]⟩) (some ⟨91, [.fn 45 [] [.optr 6 0]]⟩) (some ⟨3, [lt (.int .i64 x)]⟩) (some ⟨3, c.map lint⟩) (by omega) (by omega)
  rw [hf] at hH1
  have hng : lneg x = -x := by
    unfold lneg
    rw [if_neg]
    unfold lvar
    split
    · omega
    · split <;> omega
  have hG := pf_Neg6 x
  rw [hng] at hG
  have hH2 := sx_has1 (-x) b n f A0 A1 A2 A3 (some ⟨3, [lt (.int .i64 V)]⟩) (some ⟨49, [.osl 9 0 c.length 1]⟩) (some ⟨91, [.fn 45 [] [.optr 6 0]]⟩) (some ⟨3, [lt (.int .i64 x)]⟩) (some ⟨3, c.map lint⟩) (some ⟨89, []⟩) (by omega) (by omega)
  rw [hg] at hH2
  (refine SX_of_bodyL (aload tt) (aload_ok tyOK) Tryd.func46 rfl (by kernel_rfl) ?_; simp only [Tryd.ntmps46, List.length_cons, List.length_nil, Nat.reduceAdd, Nat.reduceSub, List.replicate_succ, List.replicate_zero, List.cons_append, List.nil_append])
  repeat (first | (first | (with_reducible first | refine AX_block ?_ | refine AX_skip ?_ | refine AX_exit ?_ | refine AX_ret ?_ | refine AX_ift ?_ | refine AX_iff ?_ | refine AX_seq_k (fun K hK => ?_) | refine ContX.use (by assumption) ?_) | simp only [thenX, inBlockX, if_true, if_false, reduceCtorEq]) | (first | ((first | (with_reducible refine XRes_op tyOK ?_ ?_) | ((with_reducible first | refine ADF_op tyOK ?_ ?_ ?_ | refine ADX_op tyOK ?_ ?_ ?_); (focus rfl)) | (with_reducible refine ADR_alloc1 tyOK ?_ ?_) | ((with_reducible refine ADR_free1 tyOK ?_ ?_ ?_); (focus rfl)) | ((with_reducible refine ADR_free0 tyOK ?_ ?_ ?_); (focus rfl)) | ((with_reducible refine ADR_read1 tyOK ?_ ?_ ?_); (focus rfl)) | (with_reducible refine ADR_chg1 tyOK ?_ ?_)); (focus (first | (with_reducible rfl) | ((simp (disch := omega) only [go_sem]); done))); simp (disch := omega) only [go_sem , hs1, hs2, hs3, hs4, Int.toNat_natCast, Nat.reduceEqDiff, List.length_append, List.length_map, List.length_cons, List.length_nil]; (first | (with_reducible refine XRes_id ?_) | (with_reducible refine ADF_id ?_) | (with_reducible refine ADR_id1 ?_) | (with_reducible refine ADX_id ?_))) | ((first | (with_reducible refine XRes_skip ?_ ?_) | (with_reducible refine ADF_skip (b := true) ?_ ?_) | (with_reducible refine ADX_skip ?_ ?_) | ((with_reducible refine ADR_skip1 ?_ ?_ ?_); (focus rfl))); (focus (first | rfl | ((simp (disch := omega) only [go_sem]); done))); (simp only [putL, List.set_cons_succ, List.set_cons_zero]))) | ((first | (with_reducible refine XRes_nil ?_) | (with_reducible refine ADF_nil ?_) | (with_reducible refine ADR_nil ?_) | (with_reducible refine ADX_nil ?_)); (first | refine hK _ ?_ | refine hK _ _ ?_); clear hK K) | ((first | ((with_reducible refine ADH_free tyOK ?_ ?_ ?_); (focus rfl); (focus (first | (with_reducible rfl) | ((simp (disch := omega) only [go_sem]); done)))) | ((with_reducible refine ADH_read tyOK ?_ ?_ ?_); (focus rfl); (focus (first | (with_reducible rfl) | ((simp (disch := omega) only [go_sem]); done)))) | ((with_reducible refine ADH_chg tyOK ?_ ?_ ?_); (focus (simp only [List.length_cons]; omega)); (focus (first | (with_reducible rfl) | ((simp (disch := omega) only [go_sem]); done))))); simp (disch := omega) only [go_sem , hs1, hs2, hs3, hs4, Int.toNat_natCast, Nat.reduceEqDiff, List.length_append, List.length_map, List.length_cons, List.length_nil]; (with_reducible refine ADH_id ?_)) | (first | ((refine ADH_tellF (by rfl) hG (idsL_ok rfl) (fun _ => rfl) ?_); (simp only [putL, List.set_cons_succ, List.set_cons_zero])) | ((refine ADH_callX (by simp only [List.length_cons]; omega) (by rfl) (by rfl) hH2 (by simp only [List.length_cons]; omega) ?_); (simp only [putL, List.set_cons_succ, List.set_cons_zero]))) | ((refine ADH_nil ?_); (refine hK _ _ _ (by simp only [List.length_cons]; omega) ?_); clear hK K) | (first | (first | refine XTL (by rfl) hN ?_ | refine ATL tyOK (by rfl) hN ?_) | ((refine XRes_slotX (by rfl) rfl hH1 ?_); (rintro r H' M' ⟨rfl, rfl, rfl⟩); (simp only [putL, List.set_cons_succ, List.set_cons_zero])) | ((refine XRes_mputA (us := []) (i := 0) rfl Tryd.underlying88 rfl rfl rfl (by omega) rfl unit_plain (by unfold maxLen; omega) ?_); simp only [putL, List.set_cons_succ, List.set_cons_zero, mSet_upd, mSet_get, mSet_is, List.nil_append, List.cons_append])) | ((with_reducible refine AX_reg0 fun K hK => ?_); simp only [go_sem]) | ((refine AX_drawHk [.read, .read, .free, .chg, .free] (by kernel_rfl) (by decide +kernel) fun K hK => ?_); (simp only [go_sem, alH, kdH, List.map_cons, List.map_nil])))
  refine LeadX.now ?_
  (simp only [bodyXM]; refine ⟨_, by simp only [aresults, aresult, XS.as, Tryd.results46, aload, go_sem, Option.bind_some]; rfl, ?_⟩)
  exact ⟨by first | trivial | rfl, by first | trivial | rfl, by first | trivial | rfl⟩
set_option maxRecDepth 100000 in
set_option maxHeartbeats 4000000 in
theorem sx_cl2e (V v : Int) (l : List UInt8) (c : List Int) (b n : Nat) (f : Int → Bool) (A0 A1 A2 A3 : Option AObj) (hl : l.length ≤ 1000000) (h1 : (numR l (-V) V).2 = 0) (h2 : (numR l (-V) V).1 ≠ 0) (hb : -100000 ≤ (numR l (-V) V).1 ∧ (numR l (-V) V).1 ≤ 100000) (hV : 0 ≤ V ∧ V ≤ 1000000) (h3 : c.length < 1000) (hf : f (numR l (-V) V).1 = false) (hfc : (numR l (-V) V).1 ∉ c) (hg : f (-(numR l (-V) V).1) = false) (hgc : -(numR l (-V) V).1 ∉ c) (hn : n ≤ 1000000):
    SX Tryd.prog 46 [lt (.string (ba l)), .optr 4 0, .optr 8 0, .optr 5 0, .optr 7 0, .optr 6 0] [A0, A1, A2, A3, some ⟨3, [lt (.int .i64 V)]⟩, some ⟨49, [.osl 9 0 c.length 1]⟩, some ⟨88, [lt (.map (some b))]⟩, some ⟨91, [.fn 45 [] [.optr 6 0]]⟩, some ⟨3, [lt (.int .i64 v)]⟩, some ⟨3, c.map lint⟩] [(b, n, mSet f)] fun r H' M' => r = lt (.int .i64 0) ∧ H' = [A0, A1, A2, A3, some ⟨3, [lt (.int .i64 V)]⟩, some ⟨49, [.osl 13 0 (c.length + 1) 1]⟩, some ⟨88, [lt (.map (some b))]⟩, some ⟨91, [.fn 45 [] [.optr 6 0]]⟩, some ⟨3, [lt (.int .i64 (numR l (-V) V).1)]⟩, none, some ⟨89, []⟩, some ⟨89, []⟩, some ⟨3, [lt (.int .i64 (numR l (-V) V).1)]⟩, some ⟨3, (c ++ [(numR l (-V) V).1]).map lint⟩] ∧ M' = [(b, n + 1, mSet (addF f (numR l (-V) V).1))] := by
  have hs1 := trivial; have hs2 := trivial; have hs3 := trivial; have hs4 := trivial; have hG := trivial; have hH1 := trivial; have hH2 := trivial
  have hN := pf_Number l (-V) V hl
  have hE := litE_go h1 h2 (c := c)
  rw [if_neg (by omega), if_neg hfc, if_neg hgc] at hE
  generalize numR l (-V) V = q at *
  obtain ⟨x, e⟩ := q
  dsimp only at *
  subst h1
  have hs1 : (x == 0) = false := by simpa using h2
  have hs2 : ((c.length : Int) == 1000) = false := by simp; omega
  have hH1 := sx_has x b n f A0 A1 A2 A3 (some ⟨3, [lt (.int .i64 V)]⟩) (some ⟨49, [.osl 9 0 c.length 1]⟩) (some ⟨91, [.fn 45 [] [.optr 6 0]]⟩) (some ⟨3, [lt (.int .i64 x)]⟩) (some ⟨3, c.map lint⟩) (by omega) (by omega)
  rw [hf] at hH1
  have hng : lneg x = -x := by
    unfold lneg
    rw [if_neg]
    unfold lvar
    split
    · omega
    · split <;> omega
  have hG := pf_Neg6 x
  rw [hng] at hG
  have hH2 := sx_has1 (-x) b n f A0 A1 A2 A3 (some ⟨3, [lt (.int .i64 V)]⟩) (some ⟨49, [.osl 9 0 c.length 1]⟩) (some ⟨91, [.fn 45 [] [.optr 6 0]]⟩) (some ⟨3, [lt (.int .i64 x)]⟩) (some ⟨3, c.map lint⟩) (some ⟨89, []⟩) (by omega) (by omega)
  rw [hg] at hH2
  (refine SX_of_bodyL (aload tt) (aload_ok tyOK) Tryd.func46 rfl (by kernel_rfl) ?_; simp only [Tryd.ntmps46, List.length_cons, List.length_nil, Nat.reduceAdd, Nat.reduceSub, List.replicate_succ, List.replicate_zero, List.cons_append, List.nil_append])
  repeat (first | (first | (with_reducible first | refine AX_block ?_ | refine AX_skip ?_ | refine AX_exit ?_ | refine AX_ret ?_ | refine AX_ift ?_ | refine AX_iff ?_ | refine AX_seq_k (fun K hK => ?_) | refine ContX.use (by assumption) ?_) | simp only [thenX, inBlockX, if_true, if_false, reduceCtorEq]) | (first | ((first | (with_reducible refine XRes_op tyOK ?_ ?_) | ((with_reducible first | refine ADF_op tyOK ?_ ?_ ?_ | refine ADX_op tyOK ?_ ?_ ?_); (focus rfl)) | (with_reducible refine ADR_alloc1 tyOK ?_ ?_) | ((with_reducible refine ADR_free1 tyOK ?_ ?_ ?_); (focus rfl)) | ((with_reducible refine ADR_free0 tyOK ?_ ?_ ?_); (focus rfl)) | ((with_reducible refine ADR_read1 tyOK ?_ ?_ ?_); (focus rfl)) | (with_reducible refine ADR_chg1 tyOK ?_ ?_)); (focus (first | (with_reducible rfl) | ((simp (disch := omega) only [go_sem]); done))); simp (disch := omega) only [go_sem , hs1, hs2, hs3, hs4, Int.toNat_natCast, Nat.reduceEqDiff, List.length_append, List.length_map, List.length_cons, List.length_nil]; (first | (with_reducible refine XRes_id ?_) | (with_reducible refine ADF_id ?_) | (with_reducible refine ADR_id1 ?_) | (with_reducible refine ADX_id ?_))) | ((first | (with_reducible refine XRes_skip ?_ ?_) | (with_reducible refine ADF_skip (b := true) ?_ ?_) | (with_reducible refine ADX_skip ?_ ?_) | ((with_reducible refine ADR_skip1 ?_ ?_ ?_); (focus rfl))); (focus (first | rfl | ((simp (disch := omega) only [go_sem]); done))); (simp only [putL, List.set_cons_succ, List.set_cons_zero]))) | ((first | (with_reducible refine XRes_nil ?_) | (with_reducible refine ADF_nil ?_) | (with_reducible refine ADR_nil ?_) | (with_reducible refine ADX_nil ?_)); (first | refine hK _ ?_ | refine hK _ _ ?_); clear hK K) | ((first | ((with_reducible refine ADH_free tyOK ?_ ?_ ?_); (focus rfl); (focus (first | (with_reducible rfl) | ((simp (disch := omega) only [go_sem]); done)))) | ((with_reducible refine ADH_read tyOK ?_ ?_ ?_); (focus rfl); (focus (first | (with_reducible rfl) | ((simp (disch := omega) only [go_sem]); done)))) | ((with_reducible refine ADH_chg tyOK ?_ ?_ ?_); (focus (simp only [List.length_cons]; omega)); (focus (first | (with_reducible rfl) | ((simp (disch := omega) only [go_sem]); done))))); simp (disch := omega) only [go_sem , hs1, hs2, hs3, hs4, Int.toNat_natCast, Nat.reduceEqDiff, List.length_append, List.length_map, List.length_cons, List.length_nil]; (with_reducible refine ADH_id ?_)) | (first | ((refine ADH_tellF (by rfl) hG (idsL_ok rfl) (fun _ => rfl) ?_); (simp only [putL, List.set_cons_succ, List.set_cons_zero])) | ((refine ADH_callX (by simp only [List.length_cons]; omega) (by rfl) (by rfl) hH2 (by simp only [List.length_cons]; omega) ?_); (simp only [putL, List.set_cons_succ, List.set_cons_zero]))) | ((refine ADH_nil ?_); (refine hK _ _ _ (by simp only [List.length_cons]; omega) ?_); clear hK K) | (first | (first | refine XTL (by rfl) hN ?_ | refine ATL tyOK (by rfl) hN ?_) | ((refine XRes_slotX (by rfl) rfl hH1 ?_); (rintro r H' M' ⟨rfl, rfl, rfl⟩); (simp only [putL, List.set_cons_succ, List.set_cons_zero])) | ((refine XRes_mputA (us := []) (i := 0) rfl Tryd.underlying88 rfl rfl rfl (by omega) rfl unit_plain (by unfold maxLen; omega) ?_); simp only [putL, List.set_cons_succ, List.set_cons_zero, mSet_upd, mSet_get, mSet_is, List.nil_append, List.cons_append])) | ((with_reducible refine AX_reg0 fun K hK => ?_); simp only [go_sem]) | ((refine AX_drawHk [.read, .read, .free, .chg, .free] (by kernel_rfl) (by decide +kernel) fun K hK => ?_); (simp only [go_sem, alH, kdH, List.map_cons, List.map_nil])))
  refine LeadX.now ?_
  (simp only [bodyXM]; refine ⟨_, by simp only [aresults, aresult, XS.as, Tryd.results46, aload, go_sem, Option.bind_some]; rfl, ?_⟩)
  exact ⟨by first | trivial | rfl, by first | trivial | rfl, by first | trivial | rfl⟩
end Go.Proofs.YthgmjboldboclaaDoor
namespace Go.Proofs.YthgmjboldboclaaDoor
open Go.RowKit Go.Lib
set_option linter.unusedSimpArgs false
theorem dropT {T : List Tok3} {k : Nat} (h : k < T.length) : T.drop k = T.getD k tok0 :: T.drop (k + 1) := by
  rw [List.drop_eq_getElem_cons h, List.getD_eq_getElem?_getD, List.getElem?_eq_getElem h]; rfl
theorem rdAt_lt {T : List Tok3} {z : Int} {k : Nat} (h : k < T.length) : rdAt T z k = (T.getD k tok0).2.1 := if_pos h
theorem rdAt_end {T : List Tok3} {z : Int} {k : Nat} (h : ¬ k < T.length) : rdAt T z k = z := if_neg h
theorem cl_end {V z : Int} {T : List Tok3} {k : Nat} {c : List Int} (h : ¬ k < T.length) : clRun V z (T.drop k) c = (c, rdAt T z k, 4, T.drop k) := by
  rw [rdAt_end h, List.drop_of_length_le (by omega)]; rfl
theorem cl_stop {V z : Int} {T : List Tok3} {k : Nat} {c : List Int} (h : k < T.length) (h1 : litE V c (T.getD k tok0).2.2 ≠ 0 ∨ (numR (T.getD k tok0).2.2 (-V) V).1 = 0) : clRun V z (T.drop k) c = (c, rdAt T z k, litE V c (T.getD k tok0).2.2, T.drop (k + 1)) := by
  rw [dropT h, clRun_cons, rdAt_lt h]
  by_cases h2 : litE V c (T.getD k tok0).2.2 = 0
  · rw [if_neg (by simpa using h2), if_pos (h1.resolve_left (fun e => e h2)), h2]
  · rw [if_pos h2]
theorem cl_go {V z : Int} {T : List Tok3} {k : Nat} {c : List Int} (h : k < T.length) (h1 : litE V c (T.getD k tok0).2.2 = 0) (h2 : (numR (T.getD k tok0).2.2 (-V) V).1 ≠ 0) : clRun V z (T.drop k) c = clRun V z (T.drop (k + 1)) (c ++ [(numR (T.getD k tok0).2.2 (-V) V).1]) := by
  rw [dropT h, clRun_cons, if_neg (by simpa using h1), if_neg h2]
def memF (c : List Int) : Int → Bool := fun x => decide (x ∈ c)
theorem memF_nil : memF [] = fun _ => false := by funext x; simp [memF]
theorem memF_add (c : List Int) (x : Int) : addF (memF c) x = memF (c ++ [x]) := by
  funext y; unfold addF memF
  by_cases h : y = x
  · rw [if_pos h]; simp [h]
  · rw [if_neg h]; simp [h]
theorem numR_bd {l : List UInt8} {V : Int} (hV : 0 ≤ V) : -V ≤ (numR l (-V) V).1 ∧ (numR l (-V) V).1 ≤ V := by
  unfold numR
  split
  · exact ⟨by show -V ≤ 0; omega, hV⟩
  · split
    · rename_i h; exact ⟨h.2.2.1, h.2.2.2⟩
    · exact ⟨by show -V ≤ 0; omega, hV⟩
structure ClI (V z : Int) (T : List Tok3) (k0 k : Nat) (f w n : Int) (c : List Int) : Prop where
  run : clRun V z (T.drop k0) [] = if f = 0 ∧ n ≠ 0 then clRun V z (T.drop k) c else (c, w, f, T.drop k)
  le : k ≤ T.length
  len : c.length ≤ 1000
  bd : ∀ x ∈ c, -100000 ≤ x ∧ x ≤ 100000
  nb : -100000 ≤ n ∧ n ≤ 100000
theorem ClI.rE {V z : Int} {T : List Tok3} {k0 k : Nat} {f w n : Int} {c : List Int} (h : ClI V z T k0 k f w n c) (hc : f = 0 ∧ n ≠ 0) : clRun V z (T.drop k0) [] = clRun V z (T.drop k) c := by rw [h.run, if_pos hc]
theorem ClI.xE {V z : Int} {T : List Tok3} {k0 k : Nat} {f w n : Int} {c : List Int} (h : ClI V z T k0 k f w n c) (hc : ¬ (f = 0 ∧ n ≠ 0)) : clRun V z (T.drop k0) [] = (c, w, f, T.drop k) := by rw [h.run, if_neg hc]
theorem ClI.ended {V z : Int} {T : List Tok3} {k0 k : Nat} {w n : Int} {c : List Int} (h : ClI V z T k0 k 0 w n c) (hn : n ≠ 0) (hk : ¬ k < T.length) : ClI V z T k0 k 4 (rdAt T z k) n c :=
  ⟨by rw [h.rE ⟨rfl, hn⟩, cl_end hk, if_neg (by simp)], h.le, h.len, h.bd, h.nb⟩
theorem ClI.stop {V z : Int} {T : List Tok3} {k0 k : Nat} {w n : Int} {c : List Int} (hV : 0 ≤ V ∧ V ≤ 100000) (h : ClI V z T k0 k 0 w n c) (hn : n ≠ 0) (hk : k < T.length) (h1 : litE V c (T.getD k tok0).2.2 ≠ 0 ∨ (numR (T.getD k tok0).2.2 (-V) V).1 = 0) : ClI V z T k0 (k + 1) (litE V c (T.getD k tok0).2.2) (rdAt T z k) (numR (T.getD k tok0).2.2 (-V) V).1 c :=
  ⟨by rw [h.rE ⟨rfl, hn⟩, cl_stop hk h1, if_neg (by rintro ⟨e1, e2⟩; rcases h1 with h1 | h1; exact h1 e1; exact e2 h1)], by omega, h.len, h.bd, by have := numR_bd (l := (T.getD k tok0).2.2) hV.1; omega⟩
theorem ClI.goes {V z : Int} {T : List Tok3} {k0 k : Nat} {w n : Int} {c : List Int} (hV : 0 ≤ V ∧ V ≤ 100000) (h : ClI V z T k0 k 0 w n c) (hn : n ≠ 0) (hk : k < T.length) (hl : c.length < 1000) (h1 : litE V c (T.getD k tok0).2.2 = 0) (h2 : (numR (T.getD k tok0).2.2 (-V) V).1 ≠ 0) : ClI V z T k0 (k + 1) 0 (rdAt T z k) (numR (T.getD k tok0).2.2 (-V) V).1 (c ++ [(numR (T.getD k tok0).2.2 (-V) V).1]) := by
  have hb := numR_bd (l := (T.getD k tok0).2.2) hV.1
  refine ⟨by rw [h.rE ⟨rfl, hn⟩, cl_go hk h1 h2, if_pos ⟨rfl, h2⟩], by omega, by rw [List.length_append, List.length_singleton]; omega, fun x hx => ?_, by omega⟩
  rcases List.mem_append.1 hx with hx | hx
  · exact h.bd x hx
  · rw [List.mem_singleton] at hx; subst hx; omega
end Go.Proofs.YthgmjboldboclaaDoor
namespace Go.Proofs.YthgmjboldboclaaDoor
open Go.RowKit
def rwI (c : List Int) : AV := .iv (iInts c)
theorem snapC_rwI {H : AHeap} {o : Nat} {t : TypeId} {R : List (List Int)} (h : H[o]? = some (some ⟨t, R.map rwI⟩)) : SnapC H (.osl o 0 R.length 1) (iRows R) :=
  .osl o 0 R.length 1 _ _ (fun j => rwI (R.getD j [])) (by decide) h (fun j hj => by
    rw [Nat.zero_add]; show (R.map rwI)[j]? = _
    rw [List.getElem?_map, List.getElem?_eq_getElem (by omega)]; simp only [Option.map_some, List.getD_eq_getElem?_getD, List.getElem?_eq_getElem (show j < R.length by omega), Option.getD_some]) fun j _ => .iv _
theorem rnL_rwI (r : Nat → Nat) (xs : List (List Int)) : rnL r (xs.map rwI) = xs.map rwI := rnL_iv r iInts xs
theorem idL_rwI (p : Nat → Bool) (xs : List (List Int)) : idL p (xs.map rwI) = true := idL_iv p iInts xs
theorem rwI_one (xs : List (List Int)) : (xs.map rwI).all AV.one = true := by rw [List.all_map, List.all_eq_true]; exact fun _ _ => rfl
theorem take_rwI {xs : List (List Int)} {n : Nat} (h : xs.length ≤ n) : (xs.map rwI).take n = xs.map rwI := List.take_of_length_le (by simpa using h)
theorem rwI_snoc (xs : List (List Int)) (c : List Int) : xs.map rwI ++ [.iv (iInts c)] = (xs ++ [c]).map rwI := by rw [List.map_append]; rfl
theorem rwI_snoc2 (xs : List (List Int)) (c : List Int) : xs.map rwI ++ [.iv (.sl (fun j => .lit (.int .i64 (c.getD j 0))) c.length 1)] = (xs ++ [c]).map rwI := by rw [List.map_append]; rfl
theorem rwI_at {xs : List (List Int)} {k : Nat} (h : k < xs.length) : (xs.map rwI)[k]? = some (.iv (iInts (xs.getD k []))) := by
  rw [List.getElem?_map, List.getElem?_eq_getElem h, List.getD_eq_getElem?_getD, List.getElem?_eq_getElem h]; rfl
attribute [go_sem] rnL_rwI idL_rwI rwI_one take_rwI rwI_snoc rwI_snoc2 rwI_at
section
variable {P : Program} {tt : TT} {m : Nat} {Q : Exit → XS → Prop} {fr : List AV} {H : AHeap} {M : MS} {l : List Oper}
theorem XRes_litRw (hT : TyOK P tt) (R : List (List Int)) {d : Option Tmp} {t n : Nat} {ps : Array (Nat × Operand)} {ty : TypeId} {pos : String} {after : Array Edge} {g : Option (Nat × Bool)} (hw : wantedS fr ⟨d, .buildSlice t n ps, ty, pos, after, g⟩ = some true)
    {e : TypeId} (ha : abuildSlice tt [] t n (ps.toList.map fun p => (p.1, AS.ev ⟨fr, H⟩ p.2)) = some (.osl 0 0 R.length 1, [some ⟨e, R.map rwI⟩]))
    (h : XRes P m Q (l, ⟨putL fr d (.iv (iRows R)), H, M⟩)) : XRes P m Q (⟨d, .buildSlice t n ps, ty, pos, after, g⟩ :: l, ⟨fr, H, M⟩) := by
  obtain ⟨len', sz', e1, e2⟩ := abuildSlice_at ha
  cases e1
  exact XRes_lit hT (iRows R) hw (x := .osl H.length 0 R.length 1) (obj := ⟨e, R.map rwI⟩) (by simp only [aop]; exact e2 H) (snapC_rwI (t := e) (only_mk (by simp) (by simp))) h
end
end Go.Proofs.YthgmjboldboclaaDoor
