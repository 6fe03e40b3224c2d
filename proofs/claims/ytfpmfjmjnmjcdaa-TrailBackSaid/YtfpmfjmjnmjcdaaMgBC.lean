import Derived.Test.YtfpmfjmjnmjcdaaMgAZ
import Derived.Test.YtfpmfjmjnmjcdaaMgAY
import Derived.Test.YtfpmfjmjnmjcdaaMgBB
import Derived.Test.YtfpmfjmjnmjcdaaMgAM
import Derived.Test.YtfpmfjmjnmjcdaaMgBA
namespace Go.Proofs.Ytfpmfjmjnmjcdaa
open Go.RowKit
set_option linter.unusedVariables false
set_option linter.unusedSimpArgs false
def boxG (n : Int) (x : IV) (d : Int) : Nat → IV
  | 0 => .lit (.int .i64 n)
  | 1 => x
  | _ => .lit (.int .i64 d)
theorem pf_tLitsF {n : Nat} {H : AHeap} {q1 q2 : Nat} {L St Of Vl lv rs : List Int} (hH : TrAt n H q1 q2 L St Of Vl) (hT : TrS n L St Of Vl lv rs) (hLl : L.length ≤ 1000000) : SF Try.prog 14 [.optr 2 0] H fun r H' => r = .iv (iInts L) ∧ H' = H :=
  (pf_tLits hH hT hLl).lit (snap_last L)
end Go.Proofs.Ytfpmfjmjnmjcdaa
namespace Go.Proofs.Ytfpmfjmjnmjcdaa
open Go.RowKit
set_option linter.unusedVariables false
set_option linter.unusedSimpArgs false
theorem snap_3 {H : AHeap} {x y z x' y' z' : AV} (h : Snap H x x') (k : Snap H y y') (l : Snap H z z') : Snap H (.tup [x, y, z]) (.tup [x', y', z']) := .tup _ _ rfl fun i a b e1 e2 => by
  match i with
  | 0 => simp at e1 e2; subst e1 e2; exact h
  | 1 => simp at e1 e2; subst e1 e2; exact k
  | 2 => simp at e1 e2; subst e1 e2; exact l
  | i + 3 => simp at e1
theorem Wff40a {A B : Prop} (h9 : B) (w : B → A := by (intro h9; (repeat intro K hK); refine ⟨?_⟩; (repeat (first | (first | (with_reducible first | refine AX_block ?_ | refine AX_skip ?_ | refine AX_exit ?_ | refine AX_ret ?_ | refine AX_ift ?_ | refine AX_iff ?_ | refine AX_seq_k (fun K hK => ?_) | refine ContX.use (by assumption) ?_) | simp only [thenX, inBlockX, if_true, if_false, reduceCtorEq]) | (first | ((first | (with_reducible refine XRes_op tyOK ?_ ?_) | ((with_reducible first | refine ADF_op tyOK ?_ ?_ ?_ | refine ADX_op tyOK ?_ ?_ ?_); (focus rfl)) | (with_reducible refine ADR_alloc1 tyOK ?_ ?_) | ((with_reducible refine ADR_free1 tyOK ?_ ?_ ?_); (focus rfl)) | ((with_reducible refine ADR_free0 tyOK ?_ ?_ ?_); (focus rfl)) | ((with_reducible refine ADR_read1 tyOK ?_ ?_ ?_); (focus rfl)) | (with_reducible refine ADR_chg1 tyOK ?_ ?_)); (focus (first | (with_reducible rfl) | ((simp (disch := omega) only [go_sem]); done))); simp (disch := omega) only [go_sem , List.length_set, iFlat, hs1, hs2, hs3, hs4, hs5, hs6, hs7, Int.toNat_zero, Int.toNat_one, List.length_nil, hs8]; (first | (with_reducible refine XRes_id ?_) | (with_reducible refine ADF_id ?_) | (with_reducible refine ADR_id1 ?_) | (with_reducible refine ADX_id ?_))) | ((first | (with_reducible refine XRes_skip ?_ ?_) | (with_reducible refine ADF_skip (b := true) ?_ ?_) | (with_reducible refine ADX_skip ?_ ?_) | ((with_reducible refine ADR_skip1 ?_ ?_ ?_); (focus rfl))); (focus (first | rfl | ((simp (disch := omega) only [go_sem]); done))); (simp only [putL, List.set_cons_succ, List.set_cons_zero]))) | ((first | (with_reducible refine XRes_nil ?_) | (with_reducible refine ADF_nil ?_) | (with_reducible refine ADR_nil ?_) | (with_reducible refine ADX_nil ?_)); (first | refine hK _ ?_ | refine hK _ _ ?_); clear hK K) | ((first | (with_reducible refine AX_reg0 fun K hK => ?_) | (refine AX_drawG1 tyOK (by kernel_rfl) (by rfl) (by kernel_rfl) fun K hK => ?_) | (refine AX_drawT tyOK (by kernel_rfl) (by decide +kernel) fun K hK => ?_) | (refine AX_drawM1 (by kernel_rfl) (by rfl) (by decide +kernel) fun K hK => ?_) | (refine AX_drawA tyOK (by kernel_rfl) (by decide +kernel) fun K hK => ?_)); (first | simp only [go_sem, preN, effOp, runF, alM, mapOp, alD2, kdOf2, Bool.not_false, Bool.not_true, reduceCtorEq] | simp only [go_sem, preN, effOp, runF, alM, mapOp, Bool.not_false, Bool.not_true, reduceCtorEq] | simp only [go_sem, preN, effOp, runF, alD2, kdOf2, Bool.not_false, Bool.not_true, reduceCtorEq] | simp only [go_sem, alD2, kdOf2, Bool.not_false, Bool.not_true, reduceCtorEq] | simp only [go_sem, preN, effOp, runF, Bool.not_false, Bool.not_true, reduceCtorEq] | simp only [go_sem])) | (first | refine XTL (by rfl) hC ?_ | refine ATL tyOK (by rfl) hC ?_))); refine Wk.o ?_; (repeat revert hK K); exact h9)) : A := w h9
set_option maxRecDepth 100000 in
set_option maxHeartbeats 2000000 in
theorem pf_refDo0 {n : Int} {E E1 : List Int} {m m1 : Nat} {dd d1 e : Int} (k v b : Int) (h0 : k = 0) (hC : PF Try.prog 24 [rT n E m dd, lt (.int .i64 v)] fun r H' => r = .tup [rT n E1 m1 d1, lt (.int .i64 e)] ∧ H' = []) : PF Try.prog 9 [rT n E m dd, actA k v b] fun r H' => r = .tup [rT n E1 m1 d1, lt (.int .i64 e), .iv (iInts [])] ∧ H' = [] := by
  refine SF.frozen ?_
  have hs1 := trivial; have hs2 := trivial; have hs3 := trivial; have hs4 := trivial; have hs5 := trivial; have hs6 := trivial; have hs7 := trivial; have hs8 := trivial
  subst h0
  unfold rT iFlat at hC
  (refine SF_of_bodyX (aload tt) (aload_ok tyOK) Try.func9 rfl (by kernel_rfl) ?_; simp only [Try.ntmps9, List.length_cons, List.length_nil, Nat.reduceAdd, Nat.reduceSub, List.replicate_succ, List.replicate_zero, List.cons_append, List.nil_append])
  unfold rT actA iFlat
  (refine Wk.o ?_; (repeat revert hK K); refine Wff40a ?_; (repeat intro K hK); refine ⟨?_⟩)
  (simp only [bodyX]; refine ⟨_, by simp only [aresults, aresult, XS.as, Try.results9, aload, go_sem, Option.bind_some]; rfl, ?_⟩)
  exact ⟨_, snap_3 (snap_rT (.iv _ _ (.iv _))) (.same _ (.iv _)) snap_nil, rfl, trivial⟩
set_option maxRecDepth 100000 in
set_option maxHeartbeats 2000000 in
theorem pf_refDo1 {n : Int} {E E1 : List Int} {m m1 : Nat} {dd d1 e : Int} (k v b : Int) (h0 : k = 1) (hC : PF Try.prog 25 [rT n E m dd, lt (.int .i64 v), lt (.int .i64 b)] fun r H' => r = .tup [rT n E1 m1 d1, lt (.int .i64 e)] ∧ H' = []) : PF Try.prog 9 [rT n E m dd, actA k v b] fun r H' => r = .tup [rT n E1 m1 d1, lt (.int .i64 e), .iv (iInts [])] ∧ H' = [] := by
  refine SF.frozen ?_
  have hs1 := trivial; have hs2 := trivial; have hs3 := trivial; have hs4 := trivial; have hs5 := trivial; have hs6 := trivial; have hs7 := trivial; have hs8 := trivial
  subst h0
  unfold rT iFlat at hC
  (refine SF_of_bodyX (aload tt) (aload_ok tyOK) Try.func9 rfl (by kernel_rfl) ?_; simp only [Try.ntmps9, List.length_cons, List.length_nil, Nat.reduceAdd, Nat.reduceSub, List.replicate_succ, List.replicate_zero, List.cons_append, List.nil_append])
  unfold rT actA iFlat
  (refine Wk.o ?_; (repeat revert hK K); refine Wff40a ?_; (repeat intro K hK); refine ⟨?_⟩)
  (simp only [bodyX]; refine ⟨_, by simp only [aresults, aresult, XS.as, Try.results9, aload, go_sem, Option.bind_some]; rfl, ?_⟩)
  exact ⟨_, snap_3 (snap_rT (.iv _ _ (.iv _))) (.same _ (.iv _)) snap_nil, rfl, trivial⟩
set_option maxRecDepth 100000 in
set_option maxHeartbeats 2000000 in
theorem pf_refDo2 {n : Int} {E E1 : List Int} {m m1 : Nat} {dd d1 : Int} {O : List Int} (k v b : Int) (h0 : k ≠ 0) (h1 : k ≠ 1) (hC : PF Try.prog 26 [rT n E m dd, lt (.int .i64 v)] fun r H' => r = .tup [rT n E1 m1 d1, .iv (iInts O)] ∧ H' = []) : PF Try.prog 9 [rT n E m dd, actA k v b] fun r H' => r = .tup [rT n E1 m1 d1, lt (.int .i64 0), .iv (iInts O)] ∧ H' = [] := by
  refine SF.frozen ?_
  have hs1 := trivial; have hs2 := trivial; have hs3 := trivial; have hs4 := trivial; have hs5 := trivial; have hs6 := trivial; have hs7 := trivial; have hs8 := trivial
  have hs1 := h0; have hs2 := h1
  unfold rT iFlat iInts at hC
  (refine SF_of_bodyX (aload tt) (aload_ok tyOK) Try.func9 rfl (by kernel_rfl) ?_; simp only [Try.ntmps9, List.length_cons, List.length_nil, Nat.reduceAdd, Nat.reduceSub, List.replicate_succ, List.replicate_zero, List.cons_append, List.nil_append])
  unfold rT actA iFlat
  (refine Wk.o ?_; (repeat revert hK K); refine Wff40a ?_; (repeat intro K hK); refine ⟨?_⟩)
  (simp only [bodyX]; refine ⟨_, by simp only [aresults, aresult, XS.as, Try.results9, aload, go_sem, Option.bind_some]; rfl, ?_⟩)
  exact ⟨_, snap_3 (snap_rT (.iv _ _ (.iv _))) (.same _ (.iv _)) (.iv _ _ (.iv _)), rfl, trivial⟩
end Go.Proofs.Ytfpmfjmjnmjcdaa
namespace Go.Proofs.Ytfpmfjmjnmjcdaa
open Go.RowKit
set_option linter.unusedVariables false
set_option linter.unusedVariables false
set_option linter.unusedSimpArgs false
theorem pf_r13Back (n : Int) (E : List Int) (m : Nat) (dd l : Int) (hm : m ≤ 1000000) : PF Try.prog 26 [rT n E m dd, lt (.int .i64 l)] fun r H' => r = .tup [rT n (bkK E (bkL l : Nat) m) (bkN E (bkL l : Nat) m) (bkD dd (bkL l : Nat)), .iv (iInts (bkO E (bkL l : Nat) m))] ∧ H' = [] := by
  by_cases h : 0 ≤ l
  · rw [show ((bkL l : Nat) : Int) = l by unfold bkL; omega]; exact pf_r13Back0 n E m dd l hm h
  · rw [show ((bkL l : Nat) : Int) = 0 by unfold bkL; omega]; exact pf_r13BackN n E m dd l hm (by omega)
theorem step13u {n : Nat} {L St Of Vl lv rs E : List Int} (hT : TrS n L St Of Vl lv rs) (hE : EnS E L lv rs) (hLl : L.length ≤ 10000) (hSl : St.length ≤ 10000) (k v b : Int) :
    ∃ L1 St1 lv1 rs1 E1 e O, PF Try.prog 9 [rT n E L.length St.length, actA k v b] (fun r H' => r = .tup [rT n E1 L1.length St1.length, lt (.int .i64 e), .iv (iInts O)] ∧ H' = []) ∧
      EnS E1 L1 lv1 rs1 ∧ L1.length ≤ L.length + 1 ∧ St1.length ≤ St.length + 1 ∧ O.length ≤ 10000 ∧
      SF Try.prog 8 [.optr 2 0, actA k v b] [some ⟨73, Of.map lint⟩, some ⟨70, Vl.map l8⟩, some ⟨57, [.osl 3 0 L.length 1, .osl 4 0 St.length 1, .osl 0 0 (n + 1) 3, .osl 1 0 Vl.length 1, lt (.bool true)]⟩, some ⟨3, L.map lint⟩, some ⟨3, St.map lint⟩] fun r H' => ∃ Of1 Vl1, TrS n L1 St1 Of1 Vl1 lv1 rs1 ∧ ((r = .tup [lt (.int .i64 e), lt (.slice none 0 0)] ∧ O = [] ∧ (H' = hT13 n L1 St1 Of1 Vl1 ∨ (∃ a b, H' = hD13 n L1 St1 Of1 Vl1 a b) ∨ (∃ b, H' = hI13 n L1 St1 Of1 Vl1 b) ∨ H' = hT13 n L1 St1 Of1 Vl1 ++ [some ⟨24, [.optr 2 0]⟩])) ∨ (r = .tup [lt (.int .i64 e), .osl 6 0 O.length 1] ∧ H' = hB13 n L1 St1 Of1 Vl1 O)) := by
  have hl6 : L.length ≤ 1000000 := by omega
  have hl5 : L.length ≤ 100000 := by omega
  have hs5 : St.length ≤ 100000 := by omega
  have hd : (0 : Int) ≤ (St.length : Int) ∧ (St.length : Int) ≤ 1000000 := by omega
  have hmay := rMay_eq hE hT v
  have hEl := hE.len
  have cL : ∀ y : Int, (L ++ [y]).length = L.length + 1 := fun y => by simp
  have cS : ∀ y : Int, (St ++ [y]).length = St.length + 1 := fun y => by simp
  have cS2 : ∀ y : Int, (((St ++ [y]).length : Nat) : Int) = (St.length : Int) + 1 := fun y => by simp
  by_cases h0 : k = 0
  · subst h0
    by_cases hm : mayE n L v = 0
    · refine ⟨L ++ [v], St ++ [(L.length : Int)], lv ++ [((St.length + 1 : Nat) : Int)], rs ++ [-1], E ++ [v, (St.length : Int) + 1, -1], 0, [], ?_, ?_, by rw [cL]; omega, by rw [cS]; omega, by simp, ?_⟩
      · rw [cL, cS2]
        exact pf_refDo0 0 v b rfl (pf_r13Decide n E L.length St.length v hl6 hEl hd (by rw [hmay, hm]))
      · have := en_put hE hT.l1 hT.l2 v ((St.length + 1 : Nat) : Int) (-1)
        rwa [Int.natCast_add] at this
      · refine SF.mono (pf_do0 v b (pf_DecideYes hT hl5 hs5 v hm)) ?_
        rintro r H' ⟨rfl, Of1, Vl1, a, c, rfl, hT1⟩
        exact ⟨Of1, Vl1, hT1, .inl ⟨rfl, rfl, .inr (.inl ⟨a, c, rfl⟩)⟩⟩
    · refine ⟨L, St, lv, rs, E, mayE n L v, [], ?_, hE, by omega, by omega, by simp, ?_⟩
      · have := pf_r13DecideNo n E L.length St.length v hl6 (by rw [hmay]; exact hm)
        rw [hmay] at this
        exact pf_refDo0 0 v b rfl this
      · refine SF.mono (pf_do0 v b (pf_DecideNo hT hl5 hs5 v hm)) ?_
        rintro r H' ⟨rfl, rfl⟩
        exact ⟨Of, Vl, hT, .inl ⟨rfl, rfl, .inl (rfl)⟩⟩
  by_cases h1 : k = 1
  · subst h1
    by_cases hm : impE n L v b = 0
    · obtain ⟨hm1, hm2⟩ := impE_ok hm
      refine ⟨L ++ [v], St, lv ++ [(St.length : Int)], rs ++ [b], E ++ [v, (St.length : Int), b], 0, [], ?_, en_put hE hT.l1 hT.l2 v _ b, by rw [cL]; omega, by omega, by simp, ?_⟩
      · rw [cL]
        exact pf_refDo1 1 v b rfl (pf_r13Imply n E L.length St.length v b hl6 hEl hd (by rw [hmay, hm1]) hm2)
      · refine SF.mono (pf_do1 v b (pf_ImplyYes hT hl5 hs5 v b hm)) ?_
        rintro r H' ⟨rfl, Of1, Vl1, c, rfl, hT1⟩
        exact ⟨Of1, Vl1, hT1, .inl ⟨rfl, rfl, .inr (.inr (.inl ⟨c, rfl⟩))⟩⟩
    · refine ⟨L, St, lv, rs, E, impE n L v b, [], ?_, hE, by omega, by omega, by simp, ?_⟩
      · unfold impE at hm ⊢
        by_cases hm1 : mayE n L v = 0
        · rw [if_pos hm1] at hm ⊢
          by_cases hb : b < 0
          · rw [if_pos hb]
            exact pf_refDo1 1 v b rfl (pf_r13ImplyArg n E L.length St.length v b hl6 (by rw [hmay, hm1]) hb)
          · rw [if_neg hb] at hm; exact absurd rfl hm
        · rw [if_neg hm1]
          have := pf_r13ImplyNo n E L.length St.length v b hl6 (by rw [hmay]; exact hm1)
          rw [hmay] at this
          exact pf_refDo1 1 v b rfl this
      · refine SF.mono (pf_do1 v b (pf_ImplyNo hT hl5 hs5 v b hm)) ?_
        rintro r H' ⟨rfl, rfl⟩
        exact ⟨Of, Vl, hT, .inl ⟨rfl, rfl, .inl (rfl)⟩⟩
  · have hRB := pf_r13Back n E L.length St.length v hl6
    by_cases hb : St.length ≤ bkL v
    · obtain ⟨e1, e2, e3, e4⟩ := bk_no hE hT (l := (bkL v : Nat)) (by omega)
      rw [e1, e2, e3, e4] at hRB
      refine ⟨L, St, lv, rs, E, 0, [], pf_refDo2 k v b h0 h1 hRB, hE, by omega, by omega, by simp, ?_⟩
      refine SF.mono (pf_do2 k v b h0 h1 (pf_BackNo hT hl5 hs5 v hb)) ?_
      rintro r H' ⟨y, rfl, rfl, rfl⟩
      exact ⟨Of, Vl, hT, .inl ⟨rfl, rfl, .inr (.inr (.inr (rfl)))⟩⟩
    · obtain ⟨k0, hk0⟩ : ∃ k0 : Nat, St.getD (bkL v) 0 = (k0 : Int) := ⟨(St.getD (bkL v) 0).toNat, by have := hT.stb _ (show bkL v < St.length by omega); omega⟩
      have hkb := hT.stb _ (show bkL v < St.length by omega)
      have hkl : k0 ≤ L.length := by omega
      obtain ⟨e1, e2, e3, e4⟩ := bk_yes hE hT (l := bkL v) (by omega) hk0
      rw [e1, e2, e3, e4] at hRB
      have c1 : (L.take k0).length = k0 := by rw [List.length_take]; omega
      have c2 : (St.take (bkL v)).length = bkL v := by rw [List.length_take]; omega
      refine ⟨L.take k0, St.take (bkL v), lv.take k0, rs.take k0, E.take (k0 * 3), 0, (L.drop k0).reverse, by rw [c1, c2]; exact pf_refDo2 k v b h0 h1 hRB, en_take hE hkl, by rw [c1]; omega, by rw [c2]; omega, by rw [List.length_reverse, List.length_drop]; omega, ?_⟩
      refine SF.mono (pf_do2 k v b h0 h1 (pf_BackY hT hl5 hs5 v (by omega))) ?_
      rintro r H' ⟨y, rfl, k1, V, hk1, hk2, rfl, rfl, hT1⟩
      obtain rfl : k1 = k0 := by omega
      exact ⟨Of, V, hT1, .inr ⟨rfl, rfl⟩⟩
end Go.Proofs.Ytfpmfjmjnmjcdaa
