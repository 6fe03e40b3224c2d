import Derived.Test.YtdaenbgjafalcaaDoorMgAZ
import Derived.Test.YtdaenbgjafalcaaDoorMgAP
import Derived.Test.YtdaenbgjafalcaaDoorMgAY
import Derived.Test.YtdaenbgjafalcaaDoorMgAX
namespace Go.Proofs.YtdaenbgjafalcaaDoor
open Go.RowKit Go.Lib
set_option linter.unusedVariables false
set_option linter.unusedSimpArgs false
def pz : Bool → AV
  | true => .xptr 0 2
  | false => lt (.pointer none)
theorem rnL_u8C (r : Nat → Nat) (l : List UInt8) : rnL r (u8C l) = u8C l := by unfold u8C; rw [rnL_map, List.map_map]; rfl
theorem idL_u8C (p : Nat → Bool) (l : List UInt8) : idL p (u8C l) = true := by unfold u8C; rw [idL_all, List.all_map, List.all_eq_true]; exact fun _ _ => rfl
attribute [go_sem] rnL_u8C idL_u8C
end Go.Proofs.YtdaenbgjafalcaaDoor
namespace Go.Proofs.YtdaenbgjafalcaaDoor
open Go.RowKit Go.Lib
set_option linter.unusedVariables false
set_option linter.unusedSimpArgs false
theorem frz_tk {HD : AHeap} {o n : Nat} {t : TypeId} {ln st : Int} {ts : List (Nat × List UInt8)} (h : HD[o]? = some (some ⟨t, tkC ln st ts⟩)) (hn : n = ts.length) : FrzV HD (.osl o 0 n 3) (.iv (iTk ln st ts)) := by
  subst hn
  exact .iv _ _ (.osl _ 0 _ 3 _ ⟨t, tkC ln st ts⟩ (fun j => lt ((tkL ln st ts).getD j undef)) (by decide) h (fun j hj => by
    have hj' : j < (tkL ln st ts).length := by rw [tkL_len]; exact hj
    rw [Nat.zero_add]
    show ((tkL ln st ts).map lt)[j]? = _
    rw [List.getElem?_map, List.getElem?_eq_getElem hj']
    simp [List.getD_eq_getElem?_getD, List.getElem?_eq_getElem hj']) fun j _ => .iv _)
end Go.Proofs.YtdaenbgjafalcaaDoor
namespace Go.Proofs.YtdaenbgjafalcaaDoor
open Go.RowKit Go.Lib
set_option linter.unusedVariables false
set_option linter.unusedSimpArgs false
theorem We761a {A B : Prop} (h9 : B) (w : B → A := by (intro h9; (repeat intro K hK); refine ⟨?_⟩; (repeat (first | (first | (with_reducible first | refine AX_block ?_ | refine AX_skip ?_ | refine AX_exit ?_ | refine AX_ret ?_ | refine AX_ift ?_ | refine AX_iff ?_ | refine AX_seq_k (fun K hK => ?_) | refine ContX.use (by assumption) ?_) | simp only [thenX, inBlockX, if_true, if_false, reduceCtorEq]) | (first | ((with_reducible refine XOP tyOK ?_); simp (disch := omega) only [go_sem , hs1, hs2, hs3, hs4, hs5, ba_toList, ba_size, byteAt_ba, Int.toNat_zero, Int.toNat_natCast]; (with_reducible refine XRes_id ?_)) | (with_reducible refine XSK ?_)) | ((with_reducible refine XRes_nil ?_); refine hK _ ?_; clear hK K) | ((with_reducible refine AX_reg0 fun K hK => ?_); simp only [go_sem]) | (first | (first | refine XTL (by rfl) hC ?_ | refine XTL (by rfl) hI ?_)))); refine Wk.o ?_; (repeat revert hK K); exact h9)) : A := w h9
set_option maxRecDepth 100000 in
set_option maxHeartbeats 4000000 in
theorem pf_gap (c : UInt8) : PF Tryd.prog 44 [lt (.int .u8 (c.toNat : Int))] fun r H' => r = lt (.bool (isSp c)) ∧ H' = [] := by
  refine SF.forgetAll ?_
  have hs1 := trivial; have hs2 := trivial; have hs3 := trivial; have hs4 := trivial; have hs5 := trivial; have hC := trivial; have hI := trivial
  rw [isSp_int]
  generalize (c.toNat : Int) = n
  by_cases h1 : n = 32
  · subst h1
    (refine SF_of_bodyX (aload tt) (aload_ok tyOK) Tryd.func44 rfl (by kernel_rfl) ?_; simp only [Tryd.ntmps44, List.length_cons, List.length_nil, Nat.reduceAdd, Nat.reduceSub, List.replicate_succ, List.replicate_zero, List.cons_append, List.nil_append])
    (refine Wk.o ?_; (repeat revert hK K); refine We761a ?_; (repeat intro K hK); refine ⟨?_⟩)
    (simp only [bodyX]; refine ⟨_, by simp only [aresults, aresult, XS.as, Tryd.results44, aload, go_sem, Option.bind_some]; rfl, ?_⟩)
    exact ⟨.iv _, rfl, trivial⟩
  · by_cases h2 : n = 9
    · subst h2
      (refine SF_of_bodyX (aload tt) (aload_ok tyOK) Tryd.func44 rfl (by kernel_rfl) ?_; simp only [Tryd.ntmps44, List.length_cons, List.length_nil, Nat.reduceAdd, Nat.reduceSub, List.replicate_succ, List.replicate_zero, List.cons_append, List.nil_append])
      (refine Wk.o ?_; (repeat revert hK K); refine We761a ?_; (repeat intro K hK); refine ⟨?_⟩)
      (simp only [bodyX]; refine ⟨_, by simp only [aresults, aresult, XS.as, Tryd.results44, aload, go_sem, Option.bind_some]; rfl, ?_⟩)
      exact ⟨.iv _, rfl, trivial⟩
    · by_cases h3 : n = 13
      · subst h3
        (refine SF_of_bodyX (aload tt) (aload_ok tyOK) Tryd.func44 rfl (by kernel_rfl) ?_; simp only [Tryd.ntmps44, List.length_cons, List.length_nil, Nat.reduceAdd, Nat.reduceSub, List.replicate_succ, List.replicate_zero, List.cons_append, List.nil_append])
        (refine Wk.o ?_; (repeat revert hK K); refine We761a ?_; (repeat intro K hK); refine ⟨?_⟩)
        (simp only [bodyX]; refine ⟨_, by simp only [aresults, aresult, XS.as, Tryd.results44, aload, go_sem, Option.bind_some]; rfl, ?_⟩)
        exact ⟨.iv _, rfl, trivial⟩
      · (refine SF_of_bodyX (aload tt) (aload_ok tyOK) Tryd.func44 rfl (by kernel_rfl) ?_; simp only [Tryd.ntmps44, List.length_cons, List.length_nil, Nat.reduceAdd, Nat.reduceSub, List.replicate_succ, List.replicate_zero, List.cons_append, List.nil_append])
        (refine Wk.o ?_; (repeat revert hK K); refine We761a ?_; (repeat intro K hK); refine ⟨?_⟩)
        (simp only [bodyX]; refine ⟨_, by simp only [aresults, aresult, XS.as, Tryd.results44, aload, go_sem, Option.bind_some]; rfl, ?_⟩)
        exact ⟨.iv _, by simp [h1, h2, h3], trivial⟩
def wordOk (l : List UInt8) : Bool := !l.isEmpty && l.all fun b => !(isSp b) && !(b == 10)
theorem nl_int (c : UInt8) : (c == 10) = decide ((c.toNat : Int) = 10) := by
  rw [Bool.eq_iff_iff]; simp only [beq_iff_eq, decide_eq_true_eq]; exact (u8_int c 10 (by omega)).symm
end Go.Proofs.YtdaenbgjafalcaaDoor
