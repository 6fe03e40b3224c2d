import Derived.Test.YthfjnlapelkbnaaDoorMgAW
import Derived.Test.YthfjnlapelkbnaaDoorMgAS
import Derived.Test.YthfjnlapelkbnaaDoorMgAT
namespace Go.Proofs.YthfjnlapelkbnaaDoor
open Go.RowKit Go.Lib
set_option linter.unusedVariables false
set_option linter.unusedSimpArgs false
theorem eqL_self (a b : Int) (s : ByteArray) : eqRes .neq (eqL [.int .i64 a, .int .i64 b, .string s] [.int .i64 a, .int .i64 b, .string s]) = false := by simp [eqRes, eqL, eqV]
theorem Wa5a4a {A B : Prop} (h9 : B) (w : B → A := by (intro h9; (repeat intro K hK); refine ⟨?_⟩; (repeat (first | (first | (with_reducible first | refine AX_block ?_ | refine AX_skip ?_ | refine AX_exit ?_ | refine AX_ret ?_ | refine AX_ift ?_ | refine AX_iff ?_ | refine AX_seq_k (fun K hK => ?_) | refine ContX.use (by assumption) ?_) | simp only [thenX, inBlockX, if_true, if_false, reduceCtorEq]) | (first | ((with_reducible first | refine XOP tyOK ?_ | refine AOP tyOK ?_); simp (disch := omega) only [go_sem , hs1, hs2, hs3, hs4, hs5, hs6, hs7, hs8, eqL_self, bne_self_eq_false, Int.toNat_natCast]; (with_reducible first | refine XRes_id ?_ | refine ADF_id ?_)) | (with_reducible first | refine XSK ?_ | refine ASK ?_)) | ((first | (with_reducible refine XRes_nil ?_) | (with_reducible refine ADF_nil ?_)); (first | refine hK _ ?_ | refine hK _ _ ?_); clear hK K) | ((first | (with_reducible refine AX_reg0 fun K hK => ?_) | (refine AX_drawG1 tyOK (by kernel_rfl) (by rfl) (by kernel_rfl) fun K hK => ?_)); simp only [go_sem]) | ((first | (refine XRes_eqM [_, _, _] [_, _, _] rfl (by first | exact .inl rfl | exact .inr rfl) rfl rfl (by kernel_rfl) ?_) | (refine ADF_eqM [_, _, _] [_, _, _] rfl (by first | exact .inl rfl | exact .inr rfl) rfl rfl (by kernel_rfl) ?_)); (simp only [putL, List.set_cons_succ, List.set_cons_zero]); rw [eqL_self]))); refine Wk.o ?_; (repeat revert hK K); exact h9)) : A := w h9
set_option maxRecDepth 100000 in
set_option maxHeartbeats 4000000 in
theorem pf_rSame5 (rs : List (Nat × Nat × List (Nat × List UInt8))) (hR : rs.length ≤ 1000000) (hT : ∀ r ∈ rs, r.2.2.length ≤ 1000000) : PF Tryd.prog 10 [.iv (iLn rs), .iv (iLn rs)] fun r H' => r = lt (.bool true) ∧ H' = [] := by
  refine SF.forgetAll ?_
  have hs1 := trivial; have hs2 := trivial; have hs3 := trivial; have hs4 := trivial; have hs5 := trivial; have hs6 := trivial; have hs7 := trivial; have hs8 := trivial
  unfold iLn
  (refine SF_of_bodyX (aload tt) (aload_ok tyOK) Tryd.func10 rfl (by kernel_rfl) ?_; simp only [Tryd.ntmps10, List.length_cons, List.length_nil, Nat.reduceAdd, Nat.reduceSub, List.replicate_succ, List.replicate_zero, List.cons_append, List.nil_append])
  (refine Wk.o ?_; (repeat revert hK K); refine Wa5a4a ?_; (repeat intro K hK); refine ⟨?_⟩)
  (refine AWH (σ := Nat) [12, 13, 14, 15, 18, 19, 20, 21, 22, 23, 24, 25, 26, 27, 28, 4, 6, 29, 30, 31, 32, 33, 34, 35, 38, 39, 40, 41, 42, 43, 44, 45, 46, 47, 48, 49, 50, 51, 52, 36, 37, 16, 17] (fun k => [(5, lint k)]) (fun k => []) (fun k => []) (fun k => k ≤ rs.length) (fun k => rs.length - k) 0 (by first | exact Nat.zero_le _) ?_; rintro k d fr hfr hk; simp only [updS, deadS, List.set_cons_succ, List.set_cons_zero, lint] at hfr; subst hfr; (try dsimp only))
  by_cases hlt : k < rs.length
  · rcases hr : rs.getD k (0, 0, []) with ⟨a, c, ts⟩
    have hs1 : rowIV (rs.getD k (0, 0, [])) = .sl (fun j => .lit ((tkL a c ts).getD j undef)) ts.length 3 := by rw [hr]; rfl
    have hs2 : decide ((k : Int) < (rs.length : Int)) = true := decide_eq_true (by omega)
    have hTl : ts.length ≤ 1000000 := by
      have := hT (rs.getD k (0, 0, [])) (by rw [List.getD_eq_getElem?_getD, List.getElem?_eq_getElem hlt]; exact List.getElem_mem hlt)
      rw [hr] at this; exact this
    have hI2 : k + 1 ≤ rs.length := by omega
    (refine Wk.o ?_; (repeat revert hK K); refine Wa5a4a ?_; (repeat intro K hK); refine ⟨?_⟩)
    (refine AWH (σ := Nat) [29, 30, 31, 32, 33, 34, 35, 38, 39, 40, 41, 42, 43, 44, 45, 46, 47, 48, 49, 50, 51, 52, 4, 36, 37] (fun j => [(6, lint j)]) (fun j => []) (fun j => []) (fun j => j ≤ ts.length) (fun j => ts.length - j) 0 (by first | exact Nat.zero_le _) ?_; rintro j d fr hfr hj; simp only [updS, deadS, List.set_cons_succ, List.set_cons_zero, lint] at hfr; subst hfr; (try dsimp only))
    by_cases hj2 : j < ts.length
    · obtain ⟨e1, e2, e3⟩ := tkL_at (a := a) (b := c) hj2
      have hs3 : decide ((j : Int) < (ts.length : Int)) = true := decide_eq_true (by omega)
      generalize (ts.getD j (0, [])).2 = tx at *
      generalize (ts.getD j (0, [])).1 = ta at *
      have hs5 := e1
      have hs6 := e2
      have hs7 := e3
      have hI3 : j + 1 ≤ ts.length := by omega
      (refine Wk.o ?_; (repeat revert hK K); refine Wa5a4a ?_; (repeat intro K hK); refine ⟨?_⟩)
      exact WEND (j + 1) hI3 (by (first | omega | (dsimp only; omega) | (simp only; omega)))
    · have hs3 : decide ((j : Int) < (ts.length : Int)) = false := decide_eq_false (by omega)
      (refine Wk.o ?_; (repeat revert hK K); refine Wa5a4a ?_; (repeat intro K hK); refine ⟨?_⟩)
      exact WEND (k + 1) hI2 (by (first | omega | (dsimp only; omega) | (simp only; omega)))
  · have hs1 : decide ((k : Int) < (rs.length : Int)) = false := decide_eq_false (by omega)
    (refine Wk.o ?_; (repeat revert hK K); refine Wa5a4a ?_; (repeat intro K hK); refine ⟨?_⟩)
    (simp only [bodyX]; refine ⟨_, by simp only [aresults, aresult, XS.as, Tryd.results10, aload, go_sem, Option.bind_some]; rfl, ?_⟩)
    exact ⟨ids_idB rfl, rfl, trivial⟩
end Go.Proofs.YthfjnlapelkbnaaDoor
namespace Go.Proofs.YthfjnlapelkbnaaDoor
open Go.RowKit Go.Lib
set_option linter.unusedVariables false
set_option linter.unusedSimpArgs false
def dz (m : Nat) : List UInt8 := if m = 0 then [] else decDigits m
theorem ba_app (a b : List UInt8) : ba a ++ ba b = ba (a ++ b) := by
  apply ByteArray.ext
  rw [ByteArray.data_append]
  show a.toArray ++ b.toArray = (a ++ b).toArray
  simp
end Go.Proofs.YthfjnlapelkbnaaDoor
namespace Go.Proofs.YthfjnlapelkbnaaDoor
open Go.RowKit Go.Lib
set_option linter.unusedVariables false
set_option linter.unusedSimpArgs false
theorem W8b66a {A B : Prop} (h9 : B) (w : B → A := by (intro h9; (repeat intro K hK); refine ⟨?_⟩; (repeat (first | (first | (with_reducible first | refine AX_block ?_ | refine AX_skip ?_ | refine AX_exit ?_ | refine AX_ret ?_ | refine AX_ift ?_ | refine AX_iff ?_ | refine AX_seq_k (fun K hK => ?_) | refine ContX.use (by assumption) ?_) | simp only [thenX, inBlockX, if_true, if_false, reduceCtorEq]) | (first | ((with_reducible refine XOP tyOK ?_); simp (disch := omega) only [go_sem , hs1, hs2, hs3, hs4, hs5, hs6, hs7, hs8, Int.toNat_natCast, ba_app, ba_size, List.length_append]; (with_reducible refine XRes_id ?_)) | (with_reducible refine XSK ?_)) | ((with_reducible refine XRes_nil ?_); refine hK _ ?_; clear hK K) | ((with_reducible refine AX_reg0 fun K hK => ?_); simp only [go_sem]) | (fail))); refine Wk.o ?_; (repeat revert hK K); exact h9)) : A := w h9
set_option maxRecDepth 100000 in
set_option maxHeartbeats 4000000 in
theorem pf_rJoin (rs : List (Nat × Nat × List (Nat × List UInt8))) (hJ : (joinB rs).length ≤ 1000000) (hR : rs.length ≤ 1000000) (hT : ∀ r ∈ rs, r.2.2.length ≤ 1000000) : PF Tryd.prog 15 [.iv (iLn rs)] fun r H' => r = lt (.string (ba (joinB rs))) ∧ H' = [] := by
  refine SF.forgetAll ?_
  have hs1 := trivial; have hs2 := trivial; have hs3 := trivial; have hs4 := trivial; have hs5 := trivial; have hs6 := trivial; have hs7 := trivial; have hs8 := trivial
  unfold iLn
  (refine SF_of_bodyX (aload tt) (aload_ok tyOK) Tryd.func15 rfl (by kernel_rfl) ?_; simp only [Tryd.ntmps15, List.length_cons, List.length_nil, Nat.reduceAdd, Nat.reduceSub, List.replicate_succ, List.replicate_zero, List.cons_append, List.nil_append])
  (refine Wk.o ?_; (repeat revert hK K); refine W8b66a ?_; (repeat intro K hK); refine ⟨?_⟩)
  (refine AX_wh (σ := Nat) [6, 7, 8, 9, 5, 12, 13, 14, 15, 16, 17, 18, 21, 22, 23, 24, 25, 26, 27, 28, 29, 30, 31, 32, 33, 34, 19, 20, 35, 36, 10, 11] (fun k => [(4, lint k), (3, lt (.string (ba (joinB (rs.take k)))))]) (fun k => []) (fun k => []) (fun k => k ≤ rs.length) (fun k => rs.length - k) 0 (fun d => by first | ((simp only [deadS, updS, List.set_cons_succ, List.set_cons_zero, lint, List.length_nil, List.length_cons]); done) | ((simp only [deadS, updS, List.set_cons_succ, List.set_cons_zero, lint, List.length_nil, List.length_cons]); rfl) | rfl) (by first | (with_reducible rfl) | (simp only [hinit]; done) | rfl) (by first | (with_reducible rfl) | rfl) (by first | exact Nat.zero_le _) ?_; rintro k d fr hfr hk; simp only [updS, deadS, List.set_cons_succ, List.set_cons_zero, lint] at hfr; subst hfr; (try dsimp only))
  by_cases hlt : k < rs.length
  · rcases hr : rs.getD k (0, 0, []) with ⟨a, c, ts⟩
    have hle := joinB_le hlt
    have hst := joinB_step hlt
    rw [hr] at hle hst
    dsimp only at hle hst
    have hs1 : rowIV (rs.getD k (0, 0, [])) = .sl (fun j => .lit ((tkL a c ts).getD j undef)) ts.length 3 := by rw [hr]; rfl
    have hs2 : decide ((k : Int) < (rs.length : Int)) = true := decide_eq_true (by omega)
    have hTl : ts.length ≤ 1000000 := by
      have := hT (rs.getD k (0, 0, [])) (by rw [List.getD_eq_getElem?_getD, List.getElem?_eq_getElem hlt]; exact List.getElem_mem hlt)
      rw [hr] at this; exact this
    have hI2 : k + 1 ≤ rs.length := by omega
    generalize hJk : joinB (rs.take k) = Jk at *
    have hinit : joinB (rs.take k) = Jk ++ rowB (ts.take 0) := by rw [hJk]; simp [rowB]
    have h00 : Jk = Jk ++ rowB (ts.take 0) := by simp [rowB]
    (refine Wk.o ?_; (repeat revert hK K); refine W8b66a ?_; (repeat intro K hK); refine ⟨?_⟩)
    generalize hJ0 : ba Jk = B0
    rw [h00] at hJ0
    subst hJ0
    (refine AX_wh (σ := Nat) [12, 13, 14, 15, 16, 17, 18, 21, 22, 23, 24, 25, 26, 27, 28, 29, 30, 31, 32, 33, 34, 19, 20] (fun j => [(5, lint j), (3, lt (.string (ba (Jk ++ rowB (ts.take j)))))]) (fun j => []) (fun j => []) (fun j => j ≤ ts.length) (fun j => ts.length - j) 0 (fun d => by first | ((simp only [deadS, updS, List.set_cons_succ, List.set_cons_zero, lint, List.length_nil, List.length_cons]); done) | ((simp only [deadS, updS, List.set_cons_succ, List.set_cons_zero, lint, List.length_nil, List.length_cons]); rfl) | rfl) (by first | (with_reducible rfl) | (simp only [hinit]; done) | rfl) (by first | (with_reducible rfl) | rfl) (by first | exact Nat.zero_le _) ?_; rintro j d fr hfr hj; simp only [updS, deadS, List.set_cons_succ, List.set_cons_zero, lint] at hfr; subst hfr; (try dsimp only))
    by_cases hj2 : j < ts.length
    · obtain ⟨e1, e2, e3⟩ := tkL_at (a := a) (b := c) hj2
      have hrl := rowB_le hj2
      have hrs := rowB_step hj2
      have hs3 : decide ((j : Int) < (ts.length : Int)) = true := decide_eq_true (by omega)
      generalize (ts.getD j (0, [])).2 = tx at *
      generalize (ts.getD j (0, [])).1 = ta at *
      have hs5 := e1
      have hs6 := e2
      have hs7 := e3
      have hI3 : j + 1 ≤ ts.length := by omega
      by_cases h0j : j = 0
      · rw [if_pos h0j] at hrl hrs
        have hs4 : decide ((0 : Int) < (j : Int)) = false := decide_eq_false (by omega)
        have hs8 : Jk ++ rowB (ts.take (j + 1)) = (Jk ++ rowB (ts.take j)) ++ tx := by rw [hrs]; simp
        have hLl : (Jk ++ rowB (ts.take j)).length + tx.length ≤ 1000000 := by rw [List.length_append]; omega
        generalize hL : Jk ++ rowB (ts.take j) = L at *
        (refine Wk.o ?_; (repeat revert hK K); refine W8b66a ?_; (repeat intro K hK); refine ⟨?_⟩)
        exact whx_end (j + 1) hI3 (by (first | omega | (dsimp only; omega) | (simp only; omega))) rfl rfl (fun d => by first | ((simp (disch := omega) only [go_sem, lint , hs1, hs2, hs3, hs4, hs5, hs6, hs7, hs8, Int.toNat_natCast, ba_app, ba_size, List.length_append]); done) | ((simp (disch := omega) only [go_sem, lint , hs1, hs2, hs3, hs4, hs5, hs6, hs7, hs8, Int.toNat_natCast, ba_app, ba_size, List.length_append]); rfl))
      · rw [if_neg h0j] at hrl hrs
        have hs4 : decide ((0 : Int) < (j : Int)) = true := decide_eq_true (by omega)
        have hs8 : Jk ++ rowB (ts.take (j + 1)) = ((Jk ++ rowB (ts.take j)) ++ [32]) ++ tx := by rw [hrs]; simp
        have hs2 : (⟨#[32]⟩ : ByteArray) = ba [32] := rfl
        have hLl : (Jk ++ rowB (ts.take j)).length + (1 + tx.length) ≤ 1000000 := by rw [List.length_append]; omega
        have hlx : ([32] : List UInt8).length = 1 := rfl
        generalize hL : Jk ++ rowB (ts.take j) = L at *
        (refine Wk.o ?_; (repeat revert hK K); refine W8b66a ?_; (repeat intro K hK); refine ⟨?_⟩)
        exact whx_end (j + 1) hI3 (by (first | omega | (dsimp only; omega) | (simp only; omega))) rfl rfl (fun d => by first | ((simp (disch := omega) only [go_sem, lint , hs1, hs2, hs3, hs4, hs5, hs6, hs7, hs8, Int.toNat_natCast, ba_app, ba_size, List.length_append]); done) | ((simp (disch := omega) only [go_sem, lint , hs1, hs2, hs3, hs4, hs5, hs6, hs7, hs8, Int.toNat_natCast, ba_app, ba_size, List.length_append]); rfl))
    · have hs3 : decide ((j : Int) < (ts.length : Int)) = false := decide_eq_false (by omega)
      have hjt : ts.take j = ts := List.take_of_length_le (by omega)
      rw [hjt]
      have hs8 : joinB (rs.take (k + 1)) = (Jk ++ rowB ts) ++ [10] := by rw [hst, List.append_assoc]
      have hs2 : (⟨#[10]⟩ : ByteArray) = ba [10] := rfl
      have hLl : (Jk ++ rowB ts).length + 1 ≤ 1000000 := by rw [List.length_append]; omega
      have hlx : ([10] : List UInt8).length = 1 := rfl
      generalize hL : Jk ++ rowB ts = L at *
      (refine Wk.o ?_; (repeat revert hK K); refine W8b66a ?_; (repeat intro K hK); refine ⟨?_⟩)
      exact whx_end (k + 1) hI2 (by (first | omega | (dsimp only; omega) | (simp only; omega))) rfl rfl (fun d => by first | ((simp (disch := omega) only [go_sem, lint , hs1, hs2, hs3, hs4, hs5, hs6, hs7, hs8, Int.toNat_natCast, ba_app, ba_size, List.length_append]); done) | ((simp (disch := omega) only [go_sem, lint , hs1, hs2, hs3, hs4, hs5, hs6, hs7, hs8, Int.toNat_natCast, ba_app, ba_size, List.length_append]); rfl))
  · have hd : rs.take k = rs := List.take_of_length_le (by omega)
    have hs1 : decide ((k : Int) < (rs.length : Int)) = false := decide_eq_false (by omega)
    rw [hd]
    (refine Wk.o ?_; (repeat revert hK K); refine W8b66a ?_; (repeat intro K hK); refine ⟨?_⟩)
    (simp only [bodyX]; refine ⟨_, by simp only [aresults, aresult, XS.as, Tryd.results15, aload, go_sem, Option.bind_some]; rfl, ?_⟩)
    exact ⟨ids_idB rfl, rfl, trivial⟩
end Go.Proofs.YthfjnlapelkbnaaDoor
