import Derived.Test.YtpamcgpdmphfhaaDoorMgBN
import Derived.Test.YtpamcgpdmphfhaaDoorMgBK
import Derived.Test.YtpamcgpdmphfhaaDoorMgAU
import Derived.Test.YtpamcgpdmphfhaaDoorMgAH
import Derived.Test.YtpamcgpdmphfhaaDoorMgAW
import Derived.Test.YtpamcgpdmphfhaaDoorMgBC
namespace Go.Proofs.YtpamcgpdmphfhaaDoor
open Go.RowKit Go.Lib
set_option linter.unusedVariables false
set_option linter.unusedSimpArgs false
theorem ob_all {o : Ob} (he : obE o = 0) (hs : ObSm o) (ho : o.Ok) :
    (PF Tryd.prog 19 [obA o] fun r H' => r = .tup [lt (.string (ba (obB o))), lt (.int .i64 0)] ∧ H' = []) ∧
    (PF Tryd.prog 8 [lt (.string (ba (obB o)))] fun r H' => r = .tup [obA o, lt (.int .i64 (obB o).length), lt (.int .i64 0)] ∧ H' = []) ∧
    (PF Tryd.prog 25 [obA o, obA o] fun r H' => r = lt (.bool true) ∧ H' = []) := by
  have hl := hs.len
  have hk := pf_obCheck o (by omega) ho
  rw [he] at hk
  refine ⟨pf_oPrint o.S o.K o.I o.R _ hs hk, ?_, ?_⟩
  · have := pf_oParseG (obB o) (by have := hs.tot; omega) (lnsT_back hs)
    rw [opr_back he hs] at this
    exact this
  · have := pf_obSame o o (by omega) (by omega)
    rwa [show obSm o o = true from decide_eq_true ⟨rfl, rfl, rfl, rfl⟩] at this
theorem ObSm.Ok {o : Ob} (h : ObSm o) : o.Ok := ⟨by have := h.S; omega, by have := h.K; omega, by have := h.I; omega⟩
theorem W160ca {A B : Prop} (h9 : B) (w : B → A := by (intro h9; (repeat intro K hK); refine ⟨?_⟩; (repeat (first | (first | (with_reducible first | refine AX_block ?_ | refine AX_skip ?_ | refine AX_exit ?_ | refine AX_ret ?_ | refine AX_ift ?_ | refine AX_iff ?_ | refine AX_seq_k (fun K hK => ?_) | refine ContX.use (by assumption) ?_) | simp only [thenX, inBlockX, if_true, if_false, reduceCtorEq]) | (first | ((first | (with_reducible refine XRes_op tyOK ?_ ?_) | ((with_reducible first | refine ADF_op tyOK ?_ ?_ ?_ | refine ADX_op tyOK ?_ ?_ ?_); (focus rfl)) | (with_reducible refine ADR_alloc1 tyOK ?_ ?_) | ((with_reducible refine ADR_free1 tyOK ?_ ?_ ?_); (focus rfl)) | ((with_reducible refine ADR_free0 tyOK ?_ ?_ ?_); (focus rfl)) | ((with_reducible refine ADR_read1 tyOK ?_ ?_ ?_); (focus rfl)) | (with_reducible refine ADR_chg1 tyOK ?_ ?_)); (focus (first | (with_reducible rfl) | ((simp (disch := omega) only [go_sem]); done))); simp (disch := omega) only [go_sem , hs1, hs2, hs3, hs4, hs5, Int.toNat_zero, Int.toNat_one, List.length_nil, beq_self_eq_true, ba_size, bne_self_eq_false]; (first | (with_reducible refine XRes_id ?_) | (with_reducible refine ADF_id ?_) | (with_reducible refine ADR_id1 ?_) | (with_reducible refine ADX_id ?_))) | ((first | (with_reducible refine XRes_skip ?_ ?_) | (with_reducible refine ADF_skip (b := true) ?_ ?_) | (with_reducible refine ADX_skip ?_ ?_) | ((with_reducible refine ADR_skip1 ?_ ?_ ?_); (focus rfl))); (focus (first | rfl | ((simp (disch := omega) only [go_sem]); done))); (simp only [putL, List.set_cons_succ, List.set_cons_zero]))) | ((first | (with_reducible refine XRes_nil ?_) | (with_reducible refine ADF_nil ?_) | (with_reducible refine ADR_nil ?_) | (with_reducible refine ADX_nil ?_)); (first | refine hK _ ?_ | refine hK _ _ ?_); clear hK K) | ((first | (with_reducible refine AX_reg0 fun K hK => ?_) | (refine AX_drawG1 tyOK (by kernel_rfl) (by rfl) (by kernel_rfl) fun K hK => ?_) | (refine AX_drawT tyOK (by kernel_rfl) (by decide +kernel) fun K hK => ?_) | (refine AX_drawM1 (by kernel_rfl) (by rfl) (by decide +kernel) fun K hK => ?_) | (refine AX_drawA tyOK (by kernel_rfl) (by decide +kernel) fun K hK => ?_)); (first | simp only [go_sem, preN, effOp, runF, alM, mapOp, alD2, kdOf2, Bool.not_false, Bool.not_true, reduceCtorEq] | simp only [go_sem, preN, effOp, runF, alM, mapOp, Bool.not_false, Bool.not_true, reduceCtorEq] | simp only [go_sem, preN, effOp, runF, alD2, kdOf2, Bool.not_false, Bool.not_true, reduceCtorEq] | simp only [go_sem, alD2, kdOf2, Bool.not_false, Bool.not_true, reduceCtorEq] | simp only [go_sem, preN, effOp, runF, Bool.not_false, Bool.not_true, reduceCtorEq] | simp only [go_sem])) | (first | (first | refine XTL (by rfl) hAw ?_ | refine ATL tyOK (by rfl) hAw ?_ | refine XTL (by rfl) hF ?_ | refine ATL tyOK (by rfl) hF ?_ | refine XTL (by rfl) hP1 ?_ | refine ATL tyOK (by rfl) hP1 ?_ | refine XTL (by rfl) hK1 ?_ | refine ATL tyOK (by rfl) hK1 ?_ | refine XTL (by rfl) hQ1 ?_ | refine ATL tyOK (by rfl) hQ1 ?_ | refine XTL (by rfl) hS1 ?_ | refine ATL tyOK (by rfl) hS1 ?_ | refine XTL (by rfl) hQ2 ?_ | refine ATL tyOK (by rfl) hQ2 ?_ | refine XTL (by rfl) hP2 ?_ | refine ATL tyOK (by rfl) hP2 ?_ | refine XTL (by rfl) hQ3 ?_ | refine ATL tyOK (by rfl) hQ3 ?_ | refine XTL (by rfl) hS2 ?_ | refine ATL tyOK (by rfl) hS2 ?_) | ((refine XRes_fn (by rfl) (PF.says (SnapL.cons (.same _ (ids_idB rfl)) (SnapL.cons snap_ob0 (SnapL.nil _))) hSn) ?_); (rintro r H' ⟨rfl, rfl⟩); (simp only [putL, List.set_cons_succ, List.set_cons_zero]))))); refine Wk.o ?_; (repeat revert hK K); exact h9)) : A := w h9
set_option maxRecDepth 100000 in
set_option maxHeartbeats 4000000 in
theorem pf_ObjtextBack (o : Ob) (s : ByteArray) (ho : o.Ok) (hrl : o.R.length ≤ 9223372036854775807) (hAw : PF Tryd.prog 7 [] fun r H' => r = lt (.bool true) ∧ H' = []) : PF Tryd.prog 5 [obA o, lt (.string s)] fun r H' => r = lt (.bool true) ∧ H' = [] := by
  refine SF.forgetAll ?_
  have hs1 := trivial; have hs2 := trivial; have hs3 := trivial; have hs4 := trivial; have hs5 := trivial; have hF := trivial; have hP1 := trivial; have hK1 := trivial; have hQ1 := trivial; have hS1 := trivial; have hQ2 := trivial; have hP2 := trivial; have hQ3 := trivial; have hS2 := trivial; have hSn := trivial
  obtain ⟨l, rfl⟩ : ∃ l, s = ba l := ⟨s.data.toList, (ba_of s).symm⟩
  have hF := pf_few23 o hrl
  by_cases hw : o.R.length ≤ 300
  · rw [decide_eq_true hw] at hF
    by_cases hl : 3000 < l.length
    · have hs1 : decide ((3000 : Int) < (l.length : Int)) = true := decide_eq_true (by omega)
      clear hw
      obtain ⟨S, Kn, I, R⟩ := o
      unfold obA at *
      (try dsimp only at *)
      (refine SF_of_bodyX (aload tt) (aload_ok tyOK) Tryd.func5 rfl (by kernel_rfl) ?_; simp only [Tryd.ntmps5, List.length_cons, List.length_nil, Nat.reduceAdd, Nat.reduceSub, List.replicate_succ, List.replicate_zero, List.cons_append, List.nil_append])
      (refine Wk.o ?_; (repeat revert hK K); refine W160ca ?_; (repeat intro K hK); refine ⟨?_⟩)
      (simp only [bodyX]; refine ⟨_, by simp only [aresults, aresult, XS.as, Tryd.results5, aload, go_sem, Option.bind_some]; rfl, ?_⟩)
      exact ⟨ids_idB rfl, rfl, trivial⟩
    · have hs1 : decide ((3000 : Int) < (l.length : Int)) = false := decide_eq_false (by omega)
      have hQ2 := pf_oParse l (by omega)
      have hb3 := @opr_bad l
      have hb2 : (opr l).2.2 = 0 → _ := fun h => ob_all (opr_sm (by omega) h).1 (opr_sm (by omega) h).2 (opr_sm (by omega) h).2.Ok
      have hSn := pf_rObSame ob0 ob0 (by decide) (by decide)
      rw [show obSm ob0 ob0 = true from decide_eq_true ⟨rfl, rfl, rfl, rfl⟩] at hSn
      generalize opr l = P at *
      obtain ⟨o2, at2, e2⟩ := P
      dsimp only at hQ2 hb3 hb2
      have hk1 := pf_obCheck o (by omega) ho
      by_cases he : obE o = 0
      · have hsm := ob_sm he (by omega)
        obtain ⟨hP1, hQ1, hS1⟩ := ob_all he hsm ho
        have hK1 := hk1
        rw [he] at hK1
        clear hk1 he hsm ho
        generalize obAt o = a1 at *
        generalize obB o = pr at *
        obtain ⟨S, Kn, I, R⟩ := o
        by_cases he2 : e2 = 0
        · subst he2
          obtain ⟨hP2, hQ3, hS2⟩ := hb2 rfl
          generalize obB o2 = pr2 at *
          obtain ⟨S2, K2, I2, R2⟩ := o2
          have hs3 : ((0 : Int) != 0) = false := by decide
          unfold obA at *
          (try dsimp only at *)
          (refine SF_of_bodyX (aload tt) (aload_ok tyOK) Tryd.func5 rfl (by kernel_rfl) ?_; simp only [Tryd.ntmps5, List.length_cons, List.length_nil, Nat.reduceAdd, Nat.reduceSub, List.replicate_succ, List.replicate_zero, List.cons_append, List.nil_append])
          (refine Wk.o ?_; (repeat revert hK K); refine W160ca ?_; (repeat intro K hK); refine ⟨?_⟩)
          (simp only [bodyX]; refine ⟨_, by simp only [aresults, aresult, XS.as, Tryd.results5, aload, go_sem, Option.bind_some]; rfl, ?_⟩)
          exact ⟨ids_idB rfl, rfl, trivial⟩
        · have h0 := hb3 he2
          (try dsimp only at h0)
          subst h0
          have hs3 : (e2 != 0) = true := by simpa using he2
          clear hb2
          unfold obA at *
          (try dsimp only [ob0] at *)
          (refine SF_of_bodyX (aload tt) (aload_ok tyOK) Tryd.func5 rfl (by kernel_rfl) ?_; simp only [Tryd.ntmps5, List.length_cons, List.length_nil, Nat.reduceAdd, Nat.reduceSub, List.replicate_succ, List.replicate_zero, List.cons_append, List.nil_append])
          (refine Wk.o ?_; (repeat revert hK K); refine W160ca ?_; (repeat intro K hK); refine ⟨?_⟩)
          (simp only [bodyX]; refine ⟨_, by simp only [aresults, aresult, XS.as, Tryd.results5, aload, go_sem, Option.bind_some]; rfl, ?_⟩)
          exact ⟨ids_idB rfl, rfl, trivial⟩
      · have hP1 := pf_oPrintNo o _ _ he hk1
        have hK1 := hk1
        have hs2 : (obE o == 0) = false := by simpa using he
        clear hk1 ho
        generalize obAt o = a1 at *
        generalize obE o = e at *
        obtain ⟨S, Kn, I, R⟩ := o
        by_cases he2 : e2 = 0
        · subst he2
          obtain ⟨hP2, hQ3, hS2⟩ := hb2 rfl
          generalize obB o2 = pr2 at *
          obtain ⟨S2, K2, I2, R2⟩ := o2
          have hs3 : ((0 : Int) != 0) = false := by decide
          unfold obA at *
          (try dsimp only at *)
          (refine SF_of_bodyX (aload tt) (aload_ok tyOK) Tryd.func5 rfl (by kernel_rfl) ?_; simp only [Tryd.ntmps5, List.length_cons, List.length_nil, Nat.reduceAdd, Nat.reduceSub, List.replicate_succ, List.replicate_zero, List.cons_append, List.nil_append])
          (refine Wk.o ?_; (repeat revert hK K); refine W160ca ?_; (repeat intro K hK); refine ⟨?_⟩)
          (simp only [bodyX]; refine ⟨_, by simp only [aresults, aresult, XS.as, Tryd.results5, aload, go_sem, Option.bind_some]; rfl, ?_⟩)
          exact ⟨ids_idB rfl, rfl, trivial⟩
        · have h0 := hb3 he2
          (try dsimp only at h0)
          subst h0
          have hs3 : (e2 != 0) = true := by simpa using he2
          clear hb2
          unfold obA at *
          (try dsimp only [ob0] at *)
          (refine SF_of_bodyX (aload tt) (aload_ok tyOK) Tryd.func5 rfl (by kernel_rfl) ?_; simp only [Tryd.ntmps5, List.length_cons, List.length_nil, Nat.reduceAdd, Nat.reduceSub, List.replicate_succ, List.replicate_zero, List.cons_append, List.nil_append])
          (refine Wk.o ?_; (repeat revert hK K); refine W160ca ?_; (repeat intro K hK); refine ⟨?_⟩)
          (simp only [bodyX]; refine ⟨_, by simp only [aresults, aresult, XS.as, Tryd.results5, aload, go_sem, Option.bind_some]; rfl, ?_⟩)
          exact ⟨ids_idB rfl, rfl, trivial⟩
  · rw [decide_eq_false hw] at hF
    clear hw
    obtain ⟨S, Kn, I, R⟩ := o
    unfold obA at *
    (try dsimp only at *)
    (refine SF_of_bodyX (aload tt) (aload_ok tyOK) Tryd.func5 rfl (by kernel_rfl) ?_; simp only [Tryd.ntmps5, List.length_cons, List.length_nil, Nat.reduceAdd, Nat.reduceSub, List.replicate_succ, List.replicate_zero, List.cons_append, List.nil_append])
    (refine Wk.o ?_; (repeat revert hK K); refine W160ca ?_; (repeat intro K hK); refine ⟨?_⟩)
    (simp only [bodyX]; refine ⟨_, by simp only [aresults, aresult, XS.as, Tryd.results5, aload, go_sem, Option.bind_some]; rfl, ?_⟩)
    exact ⟨ids_idB rfl, rfl, trivial⟩
end Go.Proofs.YtpamcgpdmphfhaaDoor
namespace Go.Proofs.YtpamcgpdmphfhaaDoor
open Go.ChangeShapes Go.WideShapes Go.ChangeAt Go.RowKit
set_option linter.unusedVariables false
theorem list_of_getD {xs ys : List Int} (hl : xs.length = ys.length) (h : ∀ j, j < xs.length → xs.getD j 0 = ys.getD j 0) : xs = ys := by
  refine List.ext_getElem hl fun i h1 h2 => ?_
  have := h i h1
  simpa [List.getD, h1, h2] using this
def okI (ys : List Int) : Prop := ∀ j, -9223372036854775808 ≤ ys.getD j 0 ∧ ys.getD j 0 ≤ 9223372036854775807
theorem StructRow.flat {w : World} {a : Option Addr} {k len cap : Nat} (hk : 0 < k) (h : StructRow w k a len cap) : ∃ ys : List Int, ys.length = len * k ∧ okI ys ∧ RI (fun b => w.heap[b]?) (iFlat ys len k) (.slice a len cap) := by
  rcases Nat.eq_zero_or_pos len with h0 | h0
  · subst h0
    refine ⟨[], by simp, fun j => by simp, ?_⟩
    unfold iFlat
    cases a with
    | none => exact .nil _ _ _ h.2.1
    | some ad => exact .empty _ _ _ _ h.2.1
  · obtain ⟨b, off, ha, hc⟩ := h.2.2.2 h0
    subst ha
    have hx : ∀ j, j < len * k → ∃ z : Int, w.cell? ⟨b, off + j, none⟩ = some (.int .i64 z) ∧ -9223372036854775808 ≤ z ∧ z ≤ 9223372036854775807 := fun j hj => by
      have h1 : j / k < len := (Nat.div_lt_iff_lt_mul hk).2 hj
      have h2 : j % k < k := Nat.mod_lt _ hk
      obtain ⟨g, hg⟩ := hc (j / k) h1
      have h3 := hg (j % k) h2
      have h4 : off + j / k * k + j % k = off + j := by rw [Nat.add_assoc, Nat.div_add_mod']
      rw [h4] at h3
      exact ⟨_, h3⟩
    obtain ⟨f, hf⟩ := Go.Deep.choose_lt hx
    have hg : ∀ j, j < len * k → ((List.range (len * k)).map f).getD j 0 = f j := fun j hj => by simp [List.getD, hj]
    have h00 : 0 < len * k := Nat.mul_pos h0 hk
    obtain ⟨cs, t, fr, hb, _⟩ := cells_of_cell (hf 0 h00).1
    refine ⟨(List.range (len * k)).map f, by simp, fun j => ?_, ?_⟩
    · rcases Nat.lt_or_ge j (len * k) with hj | hj
      · rw [hg j hj]; exact (hf j hj).2
      · rw [List.getD_eq_getElem?_getD, List.getElem?_eq_none (by simpa using hj)]; simp
    · unfold iFlat
      refine .sl _ _ _ b off cap cs t fr (fun j => .int .i64 (((List.range (len * k)).map f).getD j 0)) hb (fun j hj => ?_) (fun j _ => .lit _) h.1 h.2.1
      have := (hf j hj).1
      rw [cell_of_heap hb] at this
      rw [hg j hj]; exact this
end Go.Proofs.YtpamcgpdmphfhaaDoor
namespace Go.Proofs.YtpamcgpdmphfhaaDoor
open Go.ChangeShapes Go.WideShapes Go.ChangeAt Go.RowKit
set_option linter.unusedVariables false
end Go.Proofs.YtpamcgpdmphfhaaDoor
