import Derived.Test.YtdaenbgjafalcaaDoorMgAN
import Derived.Test.YtdaenbgjafalcaaDoorMgAZ
import Derived.Test.YtdaenbgjafalcaaDoorMgAX
import Derived.Test.YtdaenbgjafalcaaDoorMgAW
namespace Go.Proofs.YtdaenbgjafalcaaDoor
open Go.RowKit Go.Lib
set_option linter.unusedVariables false
set_option linter.unusedSimpArgs false
end Go.Proofs.YtdaenbgjafalcaaDoor
namespace Go.Proofs.YtdaenbgjafalcaaDoor
open Go.RowKit Go.Lib
set_option linter.unusedVariables false
set_option linter.unusedSimpArgs false
theorem tokC_snoc (T : List Tok3) (a b : Int) (x : List UInt8) : tokC T ++ [lt (.int .i64 a), lt (.int .i64 b), lt (.string (ba x))] = tokC (T ++ [(a, b, x)]) := by
  unfold tokC tokL
  rw [List.flatMap_append, List.map_append]; rfl
def rowT (r : Nat × Nat × List (Nat × List UInt8)) : List Tok3 := r.2.2.map fun t => ((r.1 : Int), (r.2.1 : Int) + t.1, t.2)
def iTok (T : List Tok3) : IV := .sl (fun j => .lit ((tokL T).getD j undef)) T.length 3
theorem tokC_take3 (T : List Tok3) : (tokC T).take (T.length * 3) = tokC T := tokC_take T (Nat.le_refl _)
attribute [go_sem] rnL_tokC idL_tokC tokC_len tokC_one tokC_take3 tokC_snoc
end Go.Proofs.YtdaenbgjafalcaaDoor
namespace Go.Proofs.YtdaenbgjafalcaaDoor
open Go.RowKit Go.Lib
set_option linter.unusedVariables false
set_option linter.unusedSimpArgs false
theorem dg_take {l : List UInt8} {k : Nat} (h : k < l.length) (hj : (l.take k).all isDg = true) (h1 : 48 ≤ (l.getD k 0).toNat) (h2 : (l.getD k 0).toNat ≤ 57) : (l.take (k + 1)).all isDg = true := by
  rw [List.take_succ_eq_append_getElem h, List.all_append, hj]
  have e : l.getD k 0 = l[k] := by simp [List.getD, h]
  rw [e] at h1 h2
  simp [isDg, h1, h2]
theorem dg_no {l : List UInt8} {k : Nat} (h : k < l.length) (h1 : ¬ (48 ≤ (l.getD k 0).toNat ∧ (l.getD k 0).toNat ≤ 57)) : l.all isDg = false := by
  have e : l.getD k 0 = l[k] := by simp [List.getD, h]
  rw [e] at h1
  rw [← Bool.not_eq_true, List.all_eq_true]
  intro h2
  exact h1 (of_decide_eq_true (h2 _ (List.getElem_mem h)))
theorem Waccaa {A B : Prop} (h9 : B) (w : B → A := by (intro h9; (repeat intro K hK); refine ⟨?_⟩; (repeat (first | (first | (with_reducible first | refine AX_block ?_ | refine AX_skip ?_ | refine AX_exit ?_ | refine AX_ret ?_ | refine AX_ift ?_ | refine AX_iff ?_ | refine AX_seq_k (fun K hK => ?_) | refine ContX.use (by assumption) ?_) | simp only [thenX, inBlockX, if_true, if_false, reduceCtorEq]) | (first | ((with_reducible refine XOP tyOK ?_); simp (disch := omega) only [go_sem , hs1, hs2, hs3, hs4, hs5, ba_toList, ba_size, byteAt_ba, Int.toNat_zero, Int.toNat_natCast]; (with_reducible refine XRes_id ?_)) | (with_reducible refine XSK ?_)) | ((with_reducible refine XRes_nil ?_); refine hK _ ?_; clear hK K) | ((with_reducible refine AX_reg0 fun K hK => ?_); simp only [go_sem]) | (first | (first | refine XTL (by rfl) hC ?_)))); refine Wk.o ?_; (repeat revert hK K); exact h9)) : A := w h9
set_option maxRecDepth 100000 in
set_option maxHeartbeats 4000000 in
theorem pf_numeral (l : List UInt8) (hl : l.length ≤ 1000000) : PF Tryd.prog 74 [lt (.string (ba l))] fun r H' => r = lt (.bool (numOk l)) ∧ H' = [] := by
  refine SF.forgetAll ?_
  have hs1 := trivial; have hs2 := trivial; have hs3 := trivial; have hs4 := trivial; have hs5 := trivial; have hC := trivial
  have hC : PF Tryd.prog 78 [lt (.string (ba l)), lt (.string ⟨#[45]⟩)] fun r H' => r = lt (.string (ba (magOf l))) ∧ H' = [] := pf_Trim l [45]
  have hs1 : (⟨#[]⟩ : ByteArray).toList = [] := ba_toList []
  have hs2 : (⟨#[45, 48]⟩ : ByteArray).toList = [45, 48] := ba_toList [45, 48]
  have hml : (magOf l).length ≤ l.length := by unfold magOf trimPrefix; split <;> simp
  have hz : numOk l = (!(magOf l).isEmpty && l != [45, 48] && noLz (magOf l) && (magOf l).all isDg) := rfl
  generalize hm : magOf l = m at *
  by_cases h1 : m = []
  · have hs3 : (m == ([] : List UInt8)) = true := by rw [h1]; rfl
    (refine SF_of_bodyX (aload tt) (aload_ok tyOK) Tryd.func74 rfl (by kernel_rfl) ?_; simp only [Tryd.ntmps74, List.length_cons, List.length_nil, Nat.reduceAdd, Nat.reduceSub, List.replicate_succ, List.replicate_zero, List.cons_append, List.nil_append])
    (refine Wk.o ?_; (repeat revert hK K); refine Waccaa ?_; (repeat intro K hK); refine ⟨?_⟩)
    (simp only [bodyX]; refine ⟨_, by simp only [aresults, aresult, XS.as, Tryd.results74, aload, go_sem, Option.bind_some]; rfl, ?_⟩)
    exact ⟨.iv _, by rw [hz, h1]; rfl, trivial⟩
  · have hs3 : (m == ([] : List UInt8)) = false := by simpa using h1
    by_cases h2 : l = [45, 48]
    · have hs4 : (l == ([45, 48] : List UInt8)) = true := by rw [h2]; rfl
      (refine SF_of_bodyX (aload tt) (aload_ok tyOK) Tryd.func74 rfl (by kernel_rfl) ?_; simp only [Tryd.ntmps74, List.length_cons, List.length_nil, Nat.reduceAdd, Nat.reduceSub, List.replicate_succ, List.replicate_zero, List.cons_append, List.nil_append])
      (refine Wk.o ?_; (repeat revert hK K); refine Waccaa ?_; (repeat intro K hK); refine ⟨?_⟩)
      (simp only [bodyX]; refine ⟨_, by simp only [aresults, aresult, XS.as, Tryd.results74, aload, go_sem, Option.bind_some]; rfl, ?_⟩)
      exact ⟨.iv _, by rw [hz, h2]; simp, trivial⟩
    · have hs4 : (l == ([45, 48] : List UInt8)) = false := by simpa using h2
      have hp : 0 < m.length := List.length_pos_iff.2 h1
      have hz2 : numOk l = (noLz m && m.all isDg) := by
        have e1 : m.isEmpty = false := by cases m with | nil => exact absurd rfl h1 | cons _ _ => rfl
        have e5 : (l != [45, 48]) = true := by simp [bne, hs4]
        rw [hz, e1, e5]; simp
      by_cases h3 : 1 < m.length
      · by_cases h4 : (m.getD 0 0).toNat = 48
        · have hnz : noLz m = false := by
            cases m with
            | nil => exact absurd rfl h1
            | cons c r =>
              have e4 : c.toNat = 48 := h4
              have e3 : ¬ (c :: r).length = 1 := by omega
              unfold noLz; rw [decide_eq_false e3]; simp [e4]
          (refine SF_of_bodyX (aload tt) (aload_ok tyOK) Tryd.func74 rfl (by kernel_rfl) ?_; simp only [Tryd.ntmps74, List.length_cons, List.length_nil, Nat.reduceAdd, Nat.reduceSub, List.replicate_succ, List.replicate_zero, List.cons_append, List.nil_append])
          (refine Wk.o ?_; (repeat revert hK K); refine Waccaa ?_; (repeat intro K hK); refine ⟨?_⟩)
          (simp only [bodyX]; refine ⟨_, by simp only [aresults, aresult, XS.as, Tryd.results74, aload, go_sem, Option.bind_some]; rfl, ?_⟩)
          exact ⟨.iv _, by rw [hz2, hnz]; rfl, trivial⟩
        · have hnz : noLz m = true := by
            cases m with
            | nil => exact absurd rfl h1
            | cons c r =>
              have e4 : c.toNat ≠ 48 := h4
              unfold noLz; simp [e4]
          (refine SF_of_bodyX (aload tt) (aload_ok tyOK) Tryd.func74 rfl (by kernel_rfl) ?_; simp only [Tryd.ntmps74, List.length_cons, List.length_nil, Nat.reduceAdd, Nat.reduceSub, List.replicate_succ, List.replicate_zero, List.cons_append, List.nil_append])
          (refine Wk.o ?_; (repeat revert hK K); refine Waccaa ?_; (repeat intro K hK); refine ⟨?_⟩)
          (refine AWH (σ := Nat) [26, 27, 4, 28, 29, 30, 31, 32, 33, 34, 35, 36, 37, 2, 38] (fun k => [(25, lint k)]) (fun k => []) (fun k => []) (fun k => k ≤ m.length ∧ (m.take k).all isDg = true) (fun k => m.length - k) 0 (by first | exact ⟨Nat.zero_le _, rfl⟩) ?_; rintro k d fr hfr ⟨hk, hj⟩; simp only [updS, deadS, List.set_cons_succ, List.set_cons_zero, lint] at hfr; subst hfr; (try dsimp only))
          by_cases hlt : k < m.length
          · by_cases h6 : (m.getD k 0).toNat < 48
            · (refine Wk.o ?_; (repeat revert hK K); refine Waccaa ?_; (repeat intro K hK); refine ⟨?_⟩)
              (simp only [bodyX]; refine ⟨_, by simp only [aresults, aresult, XS.as, Tryd.results74, aload, go_sem, Option.bind_some]; rfl, ?_⟩)
              exact ⟨.iv _, by rw [hz2, dg_no hlt (by omega), Bool.and_false], trivial⟩
            · by_cases h7 : 57 < (m.getD k 0).toNat
              · (refine Wk.o ?_; (repeat revert hK K); refine Waccaa ?_; (repeat intro K hK); refine ⟨?_⟩)
                (simp only [bodyX]; refine ⟨_, by simp only [aresults, aresult, XS.as, Tryd.results74, aload, go_sem, Option.bind_some]; rfl, ?_⟩)
                exact ⟨.iv _, by rw [hz2, dg_no hlt (by omega), Bool.and_false], trivial⟩
              · (refine Wk.o ?_; (repeat revert hK K); refine Waccaa ?_; (repeat intro K hK); refine ⟨?_⟩)
                exact WEND (k + 1) ⟨by omega, dg_take hlt hj (by omega) (by omega)⟩ (by (first | omega | (dsimp only; omega) | (simp only; omega)))
          · obtain rfl : k = m.length := by omega
            rw [List.take_length] at hj
            (refine Wk.o ?_; (repeat revert hK K); refine Waccaa ?_; (repeat intro K hK); refine ⟨?_⟩)
            (simp only [bodyX]; refine ⟨_, by simp only [aresults, aresult, XS.as, Tryd.results74, aload, go_sem, Option.bind_some]; rfl, ?_⟩)
            exact ⟨.iv _, by rw [hz2, hnz, hj]; rfl, trivial⟩
      · have hnz : noLz m = true := by
          have e : m.length = 1 := by omega
          unfold noLz; rw [decide_eq_true e]; rfl
        (refine SF_of_bodyX (aload tt) (aload_ok tyOK) Tryd.func74 rfl (by kernel_rfl) ?_; simp only [Tryd.ntmps74, List.length_cons, List.length_nil, Nat.reduceAdd, Nat.reduceSub, List.replicate_succ, List.replicate_zero, List.cons_append, List.nil_append])
        (refine Wk.o ?_; (repeat revert hK K); refine Waccaa ?_; (repeat intro K hK); refine ⟨?_⟩)
        (refine AWH (σ := Nat) [26, 27, 4, 28, 29, 30, 31, 32, 33, 34, 35, 36, 37, 2, 38] (fun k => [(25, lint k)]) (fun k => []) (fun k => []) (fun k => k ≤ m.length ∧ (m.take k).all isDg = true) (fun k => m.length - k) 0 (by first | exact ⟨Nat.zero_le _, rfl⟩) ?_; rintro k d fr hfr ⟨hk, hj⟩; simp only [updS, deadS, List.set_cons_succ, List.set_cons_zero, lint] at hfr; subst hfr; (try dsimp only))
        by_cases hlt : k < m.length
        · by_cases h6 : (m.getD k 0).toNat < 48
          · (refine Wk.o ?_; (repeat revert hK K); refine Waccaa ?_; (repeat intro K hK); refine ⟨?_⟩)
            (simp only [bodyX]; refine ⟨_, by simp only [aresults, aresult, XS.as, Tryd.results74, aload, go_sem, Option.bind_some]; rfl, ?_⟩)
            exact ⟨.iv _, by rw [hz2, dg_no hlt (by omega), Bool.and_false], trivial⟩
          · by_cases h7 : 57 < (m.getD k 0).toNat
            · (refine Wk.o ?_; (repeat revert hK K); refine Waccaa ?_; (repeat intro K hK); refine ⟨?_⟩)
              (simp only [bodyX]; refine ⟨_, by simp only [aresults, aresult, XS.as, Tryd.results74, aload, go_sem, Option.bind_some]; rfl, ?_⟩)
              exact ⟨.iv _, by rw [hz2, dg_no hlt (by omega), Bool.and_false], trivial⟩
            · (refine Wk.o ?_; (repeat revert hK K); refine Waccaa ?_; (repeat intro K hK); refine ⟨?_⟩)
              exact WEND (k + 1) ⟨by omega, dg_take hlt hj (by omega) (by omega)⟩ (by (first | omega | (dsimp only; omega) | (simp only; omega)))
        · obtain rfl : k = m.length := by omega
          rw [List.take_length] at hj
          (refine Wk.o ?_; (repeat revert hK K); refine Waccaa ?_; (repeat intro K hK); refine ⟨?_⟩)
          (simp only [bodyX]; refine ⟨_, by simp only [aresults, aresult, XS.as, Tryd.results74, aload, go_sem, Option.bind_some]; rfl, ?_⟩)
          exact ⟨.iv _, by rw [hz2, hnz, hj]; rfl, trivial⟩
end Go.Proofs.YtdaenbgjafalcaaDoor
