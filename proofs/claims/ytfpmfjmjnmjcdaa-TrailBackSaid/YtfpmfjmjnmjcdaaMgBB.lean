import Derived.Test.YtfpmfjmjnmjcdaaMgBA
import Derived.Test.YtfpmfjmjnmjcdaaMgAM
import Derived.Test.YtfpmfjmjnmjcdaaMgAS
import Derived.Scope
namespace Go.Proofs.Ytfpmfjmjnmjcdaa
open Go.RowKit
set_option linter.unusedVariables false
set_option linter.unusedVariables false
set_option linter.unusedSimpArgs false
def hT13 (n : Nat) (L St Of Vl : List Int) : AHeap := [some ⟨73, Of.map lint⟩, some ⟨70, Vl.map l8⟩, some ⟨57, [.osl 3 0 L.length 1, .osl 4 0 St.length 1, .osl 0 0 (n + 1) 3, .osl 1 0 Vl.length 1, lt (.bool true)]⟩, some ⟨3, L.map lint⟩, some ⟨3, St.map lint⟩]
def hD13 (n : Nat) (L St Of Vl : List Int) (a b : Int) : AHeap := [some ⟨73, Of.map lint⟩, some ⟨70, Vl.map l8⟩, some ⟨57, [.osl 8 0 L.length 1, .osl 6 0 St.length 1, .osl 0 0 (n + 1) 3, .osl 1 0 Vl.length 1, lt (.bool true)]⟩, none, none, some ⟨3, [lint a]⟩, some ⟨3, St.map lint⟩, some ⟨3, [lint b]⟩, some ⟨3, L.map lint⟩]
def hI13 (n : Nat) (L St Of Vl : List Int) (b : Int) : AHeap := [some ⟨73, Of.map lint⟩, some ⟨70, Vl.map l8⟩, some ⟨57, [.osl 6 0 L.length 1, .osl 4 0 St.length 1, .osl 0 0 (n + 1) 3, .osl 1 0 Vl.length 1, lt (.bool true)]⟩, none, some ⟨3, St.map lint⟩, some ⟨3, [lint b]⟩, some ⟨3, L.map lint⟩]
def hB13 (n : Nat) (L St Of Vl O : List Int) : AHeap := [some ⟨73, Of.map lint⟩, some ⟨70, Vl.map l8⟩, some ⟨57, [.osl 3 0 L.length 1, .osl 4 0 St.length 1, .osl 0 0 (n + 1) 3, .osl 1 0 Vl.length 1, lt (.bool true)]⟩, some ⟨3, L.map lint⟩, some ⟨3, St.map lint⟩, some ⟨24, [.optr 2 0]⟩, some ⟨3, O.map lint⟩]
theorem pf_DecideNo {n : Nat} {L St Of Vl lv rs : List Int} (hT : TrS n L St Of Vl lv rs) (hLl : L.length ≤ 100000) (hSl : St.length ≤ 100000) (x : Int) (h : mayE n L x ≠ 0) : SF Try.prog 21 [.optr 2 0, lt (.int .i64 x)] [some ⟨73, Of.map lint⟩, some ⟨70, Vl.map l8⟩, some ⟨57, [.osl 3 0 L.length 1, .osl 4 0 St.length 1, .osl 0 0 (n + 1) 3, .osl 1 0 Vl.length 1, lt (.bool true)]⟩, some ⟨3, L.map lint⟩, some ⟨3, St.map lint⟩] fun y H' => y = lt (.int .i64 (mayE n L x)) ∧ H' = hT13 n L St Of Vl :=
  SF.mono (pf_Decide hT hLl hSl x) fun y H' hh => ⟨hh.1, (hh.2.resolve_right fun h2 => h h2.1).2⟩
theorem pf_DecideYes {n : Nat} {L St Of Vl lv rs : List Int} (hT : TrS n L St Of Vl lv rs) (hLl : L.length ≤ 100000) (hSl : St.length ≤ 100000) (x : Int) (h : mayE n L x = 0) : SF Try.prog 21 [.optr 2 0, lt (.int .i64 x)] [some ⟨73, Of.map lint⟩, some ⟨70, Vl.map l8⟩, some ⟨57, [.osl 3 0 L.length 1, .osl 4 0 St.length 1, .osl 0 0 (n + 1) 3, .osl 1 0 Vl.length 1, lt (.bool true)]⟩, some ⟨3, L.map lint⟩, some ⟨3, St.map lint⟩] fun y H' => y = lt (.int .i64 0) ∧ ∃ Of1 Vl1 a b, H' = hD13 n (L ++ [x]) (St ++ [(L.length : Int)]) Of1 Vl1 a b ∧ TrS n (L ++ [x]) (St ++ [(L.length : Int)]) Of1 Vl1 (lv ++ [((St.length + 1 : Nat) : Int)]) (rs ++ [-1]) := by
  refine SF.mono (pf_Decide hT hLl hSl x) fun y H' hh => ⟨by rw [hh.1, h], ?_⟩
  obtain ⟨_, e⟩ := hh.2.resolve_left fun h2 => h2.1 h
  obtain ⟨m1, m2, m3⟩ := mayE_ok h
  have hp := tr_put (tr_start hT) m1 m2 m3 (-1)
  have el : (St ++ [(L.length : Int)]).length = St.length + 1 := by simp
  rw [el] at hp
  refine ⟨_, _, L.length, x, ?_, hp⟩
  rw [e]; unfold hD13
  simp only [List.length_append, List.length_cons, List.length_nil, Nat.zero_add, List.length_set]
theorem pf_ImplyNo {n : Nat} {L St Of Vl lv rs : List Int} (hT : TrS n L St Of Vl lv rs) (hLl : L.length ≤ 100000) (hSl : St.length ≤ 100000) (x r : Int) (h : impE n L x r ≠ 0) : SF Try.prog 22 [.optr 2 0, lt (.int .i64 x), lt (.int .i64 r)] [some ⟨73, Of.map lint⟩, some ⟨70, Vl.map l8⟩, some ⟨57, [.osl 3 0 L.length 1, .osl 4 0 St.length 1, .osl 0 0 (n + 1) 3, .osl 1 0 Vl.length 1, lt (.bool true)]⟩, some ⟨3, L.map lint⟩, some ⟨3, St.map lint⟩] fun y H' => y = lt (.int .i64 (impE n L x r)) ∧ H' = hT13 n L St Of Vl :=
  SF.mono (pf_Imply hT hLl (by omega) x r) fun y H' hh => ⟨hh.1, (hh.2.resolve_right fun h2 => h h2.1).2⟩
theorem impE_ok {n : Nat} {L : List Int} {x r : Int} (h : impE n L x r = 0) : mayE n L x = 0 ∧ 0 ≤ r := by
  unfold impE at h
  by_cases h1 : mayE n L x = 0
  · rw [if_pos h1] at h; exact ⟨h1, by split at h <;> omega⟩
  · rw [if_neg h1] at h; exact absurd h h1
theorem pf_ImplyYes {n : Nat} {L St Of Vl lv rs : List Int} (hT : TrS n L St Of Vl lv rs) (hLl : L.length ≤ 100000) (hSl : St.length ≤ 100000) (x r : Int) (h : impE n L x r = 0) : SF Try.prog 22 [.optr 2 0, lt (.int .i64 x), lt (.int .i64 r)] [some ⟨73, Of.map lint⟩, some ⟨70, Vl.map l8⟩, some ⟨57, [.osl 3 0 L.length 1, .osl 4 0 St.length 1, .osl 0 0 (n + 1) 3, .osl 1 0 Vl.length 1, lt (.bool true)]⟩, some ⟨3, L.map lint⟩, some ⟨3, St.map lint⟩] fun y H' => y = lt (.int .i64 0) ∧ ∃ Of1 Vl1 b, H' = hI13 n (L ++ [x]) St Of1 Vl1 b ∧ TrS n (L ++ [x]) St Of1 Vl1 (lv ++ [(St.length : Int)]) (rs ++ [r]) := by
  refine SF.mono (pf_Imply hT hLl (by omega) x r) fun y H' hh => ⟨by rw [hh.1, h], ?_⟩
  obtain ⟨_, e⟩ := hh.2.resolve_left fun h2 => h2.1 h
  obtain ⟨m1, m2, m3⟩ := mayE_ok (impE_ok h).1
  refine ⟨_, _, x, ?_, tr_put hT m1 m2 m3 r⟩
  rw [e]; unfold hI13
  simp only [List.length_append, List.length_cons, List.length_nil, Nat.zero_add, List.length_set]
theorem pf_BackY {n : Nat} {L St Of Vl lv rs : List Int} (hT : TrS n L St Of Vl lv rs) (hLl : L.length ≤ 100000) (hSl : St.length ≤ 100000) (lev : Int) (h : bkL lev < St.length) : SF Try.prog 18 [.optr 2 0, lt (.int .i64 lev)] [some ⟨73, Of.map lint⟩, some ⟨70, Vl.map l8⟩, some ⟨57, [.osl 3 0 L.length 1, .osl 4 0 St.length 1, .osl 0 0 (n + 1) 3, .osl 1 0 Vl.length 1, lt (.bool true)]⟩, some ⟨3, L.map lint⟩, some ⟨3, St.map lint⟩] fun y H' => ∃ k0 V, St.getD (bkL lev) 0 = ((k0 : Nat) : Int) ∧ k0 ≤ L.length ∧ y = .osl 6 0 ((L.drop k0).reverse).length 1 ∧ H' = hB13 n (L.take k0) (St.take (bkL lev)) Of V (L.drop k0).reverse ∧ TrS n (L.take k0) (St.take (bkL lev)) Of V (lv.take k0) (rs.take k0) := by
  refine SF.mono (pf_BackYes hT hLl hSl lev h) fun y H' hh => ?_
  obtain ⟨k0, V, h1, h2, h3, h4, h5⟩ := hh
  have e1 : (L.take k0).length = k0 := by rw [List.length_take]; omega
  have e2 : (St.take (bkL lev)).length = bkL lev := by rw [List.length_take]; omega
  refine ⟨k0, V, h1, h2, ?_, ?_, h5⟩
  · rw [h3, List.length_reverse, List.length_drop]
  · rw [h4]; unfold hB13; rw [e1, e2]
def hD13x (n : Nat) (L St Of Vl : List Int) (a b : Int) (x : Option AObj) : AHeap := [some ⟨73, Of.map lint⟩, some ⟨70, Vl.map l8⟩, some ⟨57, [.osl 9 0 L.length 1, .osl 7 0 St.length 1, .osl 0 0 (n + 1) 3, .osl 1 0 Vl.length 1, lt (.bool true)]⟩, none, none, x, some ⟨3, [lint a]⟩, some ⟨3, St.map lint⟩, some ⟨3, [lint b]⟩, some ⟨3, L.map lint⟩]
def hI13x (n : Nat) (L St Of Vl : List Int) (b : Int) (x : Option AObj) : AHeap := [some ⟨73, Of.map lint⟩, some ⟨70, Vl.map l8⟩, some ⟨57, [.osl 7 0 L.length 1, .osl 4 0 St.length 1, .osl 0 0 (n + 1) 3, .osl 1 0 Vl.length 1, lt (.bool true)]⟩, none, some ⟨3, St.map lint⟩, x, some ⟨3, [lint b]⟩, some ⟨3, L.map lint⟩]
def hB13x (n : Nat) (L St Of Vl O : List Int) (x : Option AObj) : AHeap := [some ⟨73, Of.map lint⟩, some ⟨70, Vl.map l8⟩, some ⟨57, [.osl 3 0 L.length 1, .osl 4 0 St.length 1, .osl 0 0 (n + 1) 3, .osl 1 0 Vl.length 1, lt (.bool true)]⟩, some ⟨3, L.map lint⟩, some ⟨3, St.map lint⟩, x, some ⟨24, [.optr 2 0]⟩, some ⟨3, O.map lint⟩]
def hN13x (n : Nat) (L St Of Vl : List Int) (x : Option AObj) : AHeap := [some ⟨73, Of.map lint⟩, some ⟨70, Vl.map l8⟩, some ⟨57, [.osl 3 0 L.length 1, .osl 4 0 St.length 1, .osl 0 0 (n + 1) 3, .osl 1 0 Vl.length 1, lt (.bool true)]⟩, some ⟨3, L.map lint⟩, some ⟨3, St.map lint⟩, x, some ⟨24, [.optr 2 0]⟩]
theorem map_rnI (f : Nat → Nat) (l : List Int) : rnL f (l.map lint) = l.map lint := by
  induction l with
  | nil => rfl
  | cons x l ih => show AV.rn f (lint x) :: rnL f (l.map lint) = _; rw [ih]; rfl
theorem map_rn8 (f : Nat → Nat) (l : List Int) : rnL f (l.map l8) = l.map l8 := by
  induction l with
  | nil => rfl
  | cons x l ih => show AV.rn f (l8 x) :: rnL f (l.map l8) = _; rw [ih]; rfl
theorem fr_B13 (n : Nat) (L St Of Vl O : List Int) (x : Option AObj) : frH 5 [x] (hB13 n L St Of Vl O) = hB13x n L St Of Vl O x := by
  unfold hB13 hB13x
  unfold frH; simp only [List.take_succ_cons, List.take_zero, List.drop_succ_cons, List.drop_zero, List.map_cons, List.map_nil, Option.map_some, Option.map_none, AObj.rn, List.cons_append, List.nil_append, List.append_nil, List.length_cons, List.length_nil, map_rnI, map_rn8, rnL, AV.rn, shN]; rfl
theorem pf_BackYx {n : Nat} {L St Of Vl lv rs : List Int} (hT : TrS n L St Of Vl lv rs) (hLl : L.length ≤ 100000) (hSl : St.length ≤ 100000) (lev : Int) (h : bkL lev < St.length) (x : Option AObj) : SF Try.prog 18 [.optr 2 0, lt (.int .i64 lev)] [some ⟨73, Of.map lint⟩, some ⟨70, Vl.map l8⟩, some ⟨57, [.osl 3 0 L.length 1, .osl 4 0 St.length 1, .osl 0 0 (n + 1) 3, .osl 1 0 Vl.length 1, lt (.bool true)]⟩, some ⟨3, L.map lint⟩, some ⟨3, St.map lint⟩, x] fun y H' => ∃ k0 V, St.getD (bkL lev) 0 = ((k0 : Nat) : Int) ∧ k0 ≤ L.length ∧ y = .osl 7 0 ((L.drop k0).reverse).length 1 ∧ H' = hB13x n (L.take k0) (St.take (bkL lev)) Of V (L.drop k0).reverse x ∧ TrS n (L.take k0) (St.take (bkL lev)) Of V (lv.take k0) (rs.take k0) := by
  refine SF.mono ((pf_BackY hT hLl hSl lev h).frame [x] (by rfl) (by (simp (disch := omega) only [go_sem, lint]))) ?_
  rintro r H' ⟨r1, H1, hl1, ⟨k0, V, hk, hk2, rfl, rfl, hT4⟩, rfl, rfl⟩
  exact ⟨k0, V, hk, hk2, rfl, fr_B13 _ _ _ _ _ _ _, hT4⟩
end Go.Proofs.Ytfpmfjmjnmjcdaa
namespace Go.Proofs.Ytfpmfjmjnmjcdaa
open Go.RowKit
set_option linter.unusedVariables false
set_option linter.unusedSimpArgs false
set_option maxRecDepth 100000 in
set_option maxHeartbeats 1000000 in
theorem pf_sameInts (xs ys : List Int) (hx : xs.length ≤ 1000000) (hy : ys.length ≤ 1000000) : PF Try.prog 11 [.iv (iInts xs), .iv (iInts ys)] fun r H' => r = lt (.bool (decide (xs = ys))) ∧ H' = [] := by
  refine SF.forgetAll ?_
  (refine SF_of_bodyX (aload tt) (aload_ok tyOK) Try.func11 rfl (by kernel_rfl) ?_; simp only [Try.ntmps11, List.length_cons, List.length_nil, Nat.reduceAdd, Nat.reduceSub, List.replicate_succ, List.replicate_zero, List.cons_append, List.nil_append])
  unfold iInts
  by_cases hl : xs.length = ys.length
  · (repeat (first | (first | (with_reducible first | refine AX_block ?_ | refine AX_skip ?_ | refine AX_exit ?_ | refine AX_ret ?_ | refine AX_ift ?_ | refine AX_iff ?_ | refine AX_seq_k (fun K hK => ?_) | refine ContX.use (by assumption) ?_) | simp only [thenX, inBlockX, if_true, if_false, reduceCtorEq]) | (first | ((with_reducible first | refine XOP tyOK ?_ | refine AOP tyOK ?_); simp (disch := omega) only [go_sem , List.length_nil]; (with_reducible first | refine XRes_id ?_ | refine ADF_id ?_)) | (with_reducible first | refine XSK ?_ | refine ASK ?_)) | ((first | (with_reducible refine XRes_nil ?_) | (with_reducible refine ADF_nil ?_)); (first | refine hK _ ?_ | refine hK _ _ ?_); clear hK K) | ((first | (with_reducible refine AX_reg0 fun K hK => ?_) | (refine AX_drawG1 tyOK (by kernel_rfl) (by rfl) (by kernel_rfl) fun K hK => ?_)); simp only [go_sem]) | fail))
    (refine AWH (σ := Nat) [11, 12, 13, 14, 17, 18, 19, 20, 21, 22, 23, 24, 25, 4, 15, 16] (fun k => [(5, lint k)]) (fun k => []) (fun k => []) (fun k => k ≤ xs.length ∧ ∀ i, i < k → xs.getD i 0 = ys.getD i 0) (fun k => xs.length - k) 0 (by first | exact ⟨Nat.zero_le _, fun i h => absurd h (by omega)⟩) ?_; rintro k d fr hfr ⟨hk, hp⟩; simp only [updS, deadS, List.set_cons_succ, List.set_cons_zero, lint] at hfr; subst hfr; (try dsimp only))
    (repeat' (first | (first | (with_reducible first | refine AX_block ?_ | refine AX_skip ?_ | refine AX_exit ?_ | refine AX_ret ?_ | refine AX_ift ?_ | refine AX_iff ?_ | refine AX_seq_k (fun K hK => ?_) | refine ContX.use (by assumption) ?_) | simp only [thenX, inBlockX, if_true, if_false, reduceCtorEq]) | (first | ((with_reducible first | refine XOP tyOK ?_ | refine AOP tyOK ?_); simp (disch := omega) only [go_sem , List.length_nil]; (with_reducible first | refine XRes_id ?_ | refine ADF_id ?_)) | (with_reducible first | refine XSK ?_ | refine ASK ?_)) | ((first | (with_reducible refine XRes_nil ?_) | (with_reducible refine ADF_nil ?_)); (first | refine hK _ ?_ | refine hK _ _ ?_); clear hK K) | ((first | (with_reducible refine AX_reg0 fun K hK => ?_) | (refine AX_drawG1 tyOK (by kernel_rfl) (by rfl) (by kernel_rfl) fun K hK => ?_)); simp only [go_sem]) | fail | ((first | (refine XRes_splitG (by rfl) (fun hc => ?_) (fun hc => ?_)) | (refine ADF_splitG (by rfl) (fun hc => ?_) (fun hc => ?_))) <;> (try simp only [eqRes, List.cons_beq_cons, Bool.and_eq_true, Bool.not_eq_true, Bool.and_eq_false_iff, decide_eq_true_eq, decide_eq_false_iff_not, bne_iff_ne, beq_iff_eq, bne_eq_false_iff_eq, beq_eq_false_iff_ne, Bool.not_eq_true', Bool.not_eq_false', ne_eq, Int.not_lt, Int.not_le, Decidable.not_not] at hc) <;> simp only [List.set_cons_succ, List.set_cons_zero]) | (first | ((with_reducible refine AX_if_t ?_ ?_); focus (simp (disch := omega) only [go_sem , List.length_nil]; done)) | ((with_reducible refine AX_if_f ?_ ?_); focus (simp (disch := omega) only [go_sem , List.length_nil]; done)) | (refine AX_cond _ (by rfl) (fun hc => ?_) (fun hc => ?_) <;> (try simp only [eqRes, List.cons_beq_cons, Bool.and_eq_true, Bool.not_eq_true, Bool.and_eq_false_iff, decide_eq_true_eq, decide_eq_false_iff_not, bne_iff_ne, beq_iff_eq, bne_eq_false_iff_eq, beq_eq_false_iff_ne, Bool.not_eq_true', Bool.not_eq_false', ne_eq, Int.not_lt, Int.not_le, Decidable.not_not] at hc)))))
    · (simp only [bodyX]; refine ⟨_, by simp only [aresults, aresult, XS.as, Try.results11, aload, go_sem, Option.bind_some]; rfl, ?_⟩)
      exact ⟨.iv _, (by rw [decide_eq_false]; intro e; subst e; exact hc rfl), trivial⟩
    · exact whx_end (k + 1) ⟨by omega, fun i hi => by
        rcases Nat.lt_or_ge i k with h | h
        · exact hp i h
        · rw [show i = k by omega]; exact hc⟩ (by (first | omega | (dsimp only; omega) | (simp only; omega))) rfl (by first | rfl | (simp (disch := omega) only [go_sem, lint])) (fun d => by first | ((simp only [deadS, updS, List.set_cons_succ, List.set_cons_zero, lint, List.length_nil, List.length_cons]); done) | ((simp only [deadS, updS, List.set_cons_succ, List.set_cons_zero, lint, List.length_nil, List.length_cons]); rfl) | rfl)
    · (simp only [bodyX]; refine ⟨_, by simp only [aresults, aresult, XS.as, Try.results11, aload, go_sem, Option.bind_some]; rfl, ?_⟩)
      refine ⟨.iv _, (by
        rw [decide_eq_true]
        apply List.ext_getElem hl
        intro i h1 h2
        have := hp i (by omega)
        simpa [List.getD, h1, h2] using this), trivial⟩
  · (repeat' (first | (first | (with_reducible first | refine AX_block ?_ | refine AX_skip ?_ | refine AX_exit ?_ | refine AX_ret ?_ | refine AX_ift ?_ | refine AX_iff ?_ | refine AX_seq_k (fun K hK => ?_) | refine ContX.use (by assumption) ?_) | simp only [thenX, inBlockX, if_true, if_false, reduceCtorEq]) | (first | ((with_reducible first | refine XOP tyOK ?_ | refine AOP tyOK ?_); simp (disch := omega) only [go_sem , List.length_nil]; (with_reducible first | refine XRes_id ?_ | refine ADF_id ?_)) | (with_reducible first | refine XSK ?_ | refine ASK ?_)) | ((first | (with_reducible refine XRes_nil ?_) | (with_reducible refine ADF_nil ?_)); (first | refine hK _ ?_ | refine hK _ _ ?_); clear hK K) | ((first | (with_reducible refine AX_reg0 fun K hK => ?_) | (refine AX_drawG1 tyOK (by kernel_rfl) (by rfl) (by kernel_rfl) fun K hK => ?_)); simp only [go_sem]) | fail | ((first | (refine XRes_splitG (by rfl) (fun hc => ?_) (fun hc => ?_)) | (refine ADF_splitG (by rfl) (fun hc => ?_) (fun hc => ?_))) <;> (try simp only [eqRes, List.cons_beq_cons, Bool.and_eq_true, Bool.not_eq_true, Bool.and_eq_false_iff, decide_eq_true_eq, decide_eq_false_iff_not, bne_iff_ne, beq_iff_eq, bne_eq_false_iff_eq, beq_eq_false_iff_ne, Bool.not_eq_true', Bool.not_eq_false', ne_eq, Int.not_lt, Int.not_le, Decidable.not_not] at hc) <;> simp only [List.set_cons_succ, List.set_cons_zero]) | (first | ((with_reducible refine AX_if_t ?_ ?_); focus (simp (disch := omega) only [go_sem , List.length_nil]; done)) | ((with_reducible refine AX_if_f ?_ ?_); focus (simp (disch := omega) only [go_sem , List.length_nil]; done)) | (refine AX_cond _ (by rfl) (fun hc => ?_) (fun hc => ?_) <;> (try simp only [eqRes, List.cons_beq_cons, Bool.and_eq_true, Bool.not_eq_true, Bool.and_eq_false_iff, decide_eq_true_eq, decide_eq_false_iff_not, bne_iff_ne, beq_iff_eq, bne_eq_false_iff_eq, beq_eq_false_iff_ne, Bool.not_eq_true', Bool.not_eq_false', ne_eq, Int.not_lt, Int.not_le, Decidable.not_not] at hc)))))
    (simp only [bodyX]; refine ⟨_, by simp only [aresults, aresult, XS.as, Try.results11, aload, go_sem, Option.bind_some]; rfl, ?_⟩)
    exact ⟨.iv _, (by rw [decide_eq_false]; intro e; subst e; exact hl rfl), trivial⟩
end Go.Proofs.Ytfpmfjmjnmjcdaa
namespace Go.Proofs.Ytfpmfjmjnmjcdaa
open Go.RowKit
set_option linter.unusedVariables false
variable {P : Program} {m : Nat} {Q : Exit → XS → Prop}
theorem XRes_ren {l : List Oper} {fr : List AV} {H : AHeap} {M : MS} (sel ds : List Nat) (fr' : List AV) (H' : AHeap) (hs1 : sel.Nodup) (hs2 : sel.all (fun p => decide (m ≤ p)) = true) (hH : okH (named m sel) (H.take m ++ sel.map (atH H)) = true) (hF : okF (named m sel) ds 0 fr = true)
    (hh : selH m sel H = H') (hfr : fr.map (AV.rn (newNo m sel)) = fr') (h : ∀ d : Nat → Value, XRes P m Q (l, ⟨deadS fr' (fun i => lt (d i)) ds, H', M⟩)) : XRes P m Q (l, ⟨fr, H, M⟩) :=
  XRes_lead (S := fun s1 => ∃ d : Nat → Value, s1 = ⟨deadS fr' (fun i => lt (d i)) ds, H', M⟩) (.of (.ren sel ds hs1 hs2 hH hF fun d => ⟨d, by rw [hfr, hh]⟩)) fun s' ⟨d, e⟩ _ => by rw [e]; exact h d
theorem SF.lit {f : FuncId} {args : List AV} {H : AHeap} {x : AV} {obj : AObj} {y : IV} (h : SF P f args H fun r H' => r = x ∧ H' = H ++ [some obj]) (hs : SnapC (onlyH [H.length] (H ++ [some obj])) x y) : SF P f args H fun r H' => r = .iv y ∧ H' = H :=
  ⟨h.callable, fun G w vs hi hr => (h.calls G w vs hi hr).mono fun e w' ⟨v, r, G', H', h1, h2, h3, h4, h5, e1, e2⟩ => by
    subst e1 e2
    obtain ⟨G2, k1, k2, k3⟩ := lit_step hi h2 h4 h5 hs
    exact ⟨v, .iv y, G2, H, h1, k1, Nat.le_refl _, k2, k3, rfl, rfl⟩⟩
theorem snap_last {H : AHeap} {t : TypeId} (L : List Int) : SnapC (onlyH [H.length] (H ++ [some ⟨t, L.map lint⟩])) (.osl H.length 0 L.length 1) (iInts L) :=
  .osl _ 0 L.length 1 _ ⟨t, L.map lint⟩ (fun j => lt (.int .i64 (L.getD j 0))) (by decide) (only_mk (by simp) (by simp)) (fun j hj => by rw [Nat.zero_add]; exact lint_at (by omega)) fun j _ => .iv _
def noGotoX (Q : Exit → XS → Prop) : Exit → XS → Prop
  | .goto _, _ => False
  | e, s => Q e s
end Go.Proofs.Ytfpmfjmjnmjcdaa
