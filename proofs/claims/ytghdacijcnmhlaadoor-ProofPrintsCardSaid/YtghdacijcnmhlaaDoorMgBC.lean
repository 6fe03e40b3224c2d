import Derived.Test.YtghdacijcnmhlaaDoorMgBA
import Derived.Test.YtghdacijcnmhlaaDoorMgBB
import Derived.Test.YtghdacijcnmhlaaDoorMgAY
import Derived.Test.YtghdacijcnmhlaaDoorMgAM
namespace Go.Proofs.YtghdacijcnmhlaaDoor
open Go.RowKit Go.Lib
set_option linter.unusedVariables false
set_option linter.unusedSimpArgs false
theorem tokC_snoc (T : List Tok3) (a b : Int) (x : List UInt8) : tokC T ++ [lt (.int .i64 a), lt (.int .i64 b), lt (.string (ba x))] = tokC (T ++ [(a, b, x)]) := by
  unfold tokC tokL
  rw [List.flatMap_append, List.map_append]; rfl
def rowT (r : Nat × Nat × List (Nat × List UInt8)) : List Tok3 := r.2.2.map fun t => ((r.1 : Int), (r.2.1 : Int) + t.1, t.2)
def iTok (T : List Tok3) : IV := .sl (fun j => .lit ((tokL T).getD j undef)) T.length 3
theorem tokC_take3 (T : List Tok3) : (tokC T).take (T.length * 3) = tokC T := tokC_take T (Nat.le_refl _)
attribute [go_sem] rnL_tokC idL_tokC tokC_len tokC_one tokC_take3 tokC_snoc
end Go.Proofs.YtghdacijcnmhlaaDoor
namespace Go.Proofs.YtghdacijcnmhlaaDoor
open Go.RowKit Go.Lib
set_option linter.unusedVariables false
set_option linter.unusedSimpArgs false
theorem dg_take {l : List UInt8} {k : Nat} (h : k < l.length) (hj : (l.take k).all isDg = true) (h1 : 48 ≤ (l.getD k 0).toNat) (h2 : (l.getD k 0).toNat ≤ 57) : (l.take (k + 1)).all isDg = true := by
  rw [List.take_succ_eq_append_getElem h, List.all_append, hj]
  have e : l.getD k 0 = l[k] := by simp [List.getD, h]
  rw [e] at h1 h2
  simp [isDg, h1, h2]
theorem dg_no {l : List UInt8} {k : Nat} (h : k < l.length) (h1 : ¬ (48 ≤ (l.getD k 0).toNat ∧ (l.getD k 0).toNat ≤ 57)) : l.all isDg = false := by
  have e : l.getD k 0 = l[k] := by simp [List.getD, h]
  rw [e] at h1
  rw [← Bool.not_eq_true, List.all_eq_true]
  intro h2
  exact h1 (of_decide_eq_true (h2 _ (List.getElem_mem h)))
theorem Waccaa {A B : Prop} (h9 : B) (w : B → A := by (intro h9; (repeat intro K hK); refine ⟨?_⟩; (repeat (first | (first | (with_reducible first | refine AX_block ?_ | refine AX_skip ?_ | refine AX_exit ?_ | refine AX_ret ?_ | refine AX_ift ?_ | refine AX_iff ?_ | refine AX_seq_k (fun K hK => ?_) | refine ContX.use (by assumption) ?_) | simp only [thenX, inBlockX, if_true, if_false, reduceCtorEq]) | (first | ((with_reducible refine XOP tyOK ?_); simp (disch := omega) only [go_sem , hs1, hs2, hs3, hs4, hs5, ba_toList, ba_size, byteAt_ba, Int.toNat_zero, Int.toNat_natCast]; (with_reducible refine XRes_id ?_)) | (with_reducible refine XSK ?_)) | ((with_reducible refine XRes_nil ?_); refine hK _ ?_; clear hK K) | ((with_reducible refine AX_reg0 fun K hK => ?_); simp only [go_sem]) | (first | (first | refine XTL (by rfl) hC ?_)))); refine Wk.o ?_; (repeat revert hK K); exact h9)) : A := w h9
set_option maxRecDepth 100000 in
set_option maxHeartbeats 4000000 in
theorem pf_numeral (l : List UInt8) (hl : l.length ≤ 1000000) : PF Tryd.prog 70 [lt (.string (ba l))] fun r H' => r = lt (.bool (numOk l)) ∧ H' = [] := by
  refine SF.forgetAll ?_
  have hs1 := trivial; have hs2 := trivial; have hs3 := trivial; have hs4 := trivial; have hs5 := trivial; have hC := trivial
  have hC : PF Tryd.prog 74 [lt (.string (ba l)), lt (.string ⟨#[45]⟩)] fun r H' => r = lt (.string (ba (magOf l))) ∧ H' = [] := pf_Trim l [45]
  have hs1 : (⟨#[]⟩ : ByteArray).toList = [] := ba_toList []
  have hs2 : (⟨#[45, 48]⟩ : ByteArray).toList = [45, 48] := ba_toList [45, 48]
  have hml : (magOf l).length ≤ l.length := by unfold magOf trimPrefix; split <;> simp
  have hz : numOk l = (!(magOf l).isEmpty && l != [45, 48] && noLz (magOf l) && (magOf l).all isDg) := rfl
  generalize hm : magOf l = m at *
  by_cases h1 : m = []
  · have hs3 : (m == ([] : List UInt8)) = true := by rw [h1]; rfl
    (refine SF_of_bodyX (aload tt) (aload_ok tyOK) Tryd.func70 rfl (by kernel_rfl) ?_; simp only [Tryd.ntmps70, List.length_cons, List.length_nil, Nat.reduceAdd, Nat.reduceSub, List.replicate_succ, List.replicate_zero, List.cons_append, List.nil_append])
    (refine Wk.o ?_; (repeat revert hK K); refine Waccaa ?_; (repeat intro K hK); refine ⟨?_⟩)
    (simp only [bodyX]; refine ⟨_, by simp only [aresults, aresult, XS.as, Tryd.results70, aload, go_sem, Option.bind_some]; rfl, ?_⟩)
    exact ⟨.iv _, by rw [hz, h1]; rfl, trivial⟩
  · have hs3 : (m == ([] : List UInt8)) = false := by simpa using h1
    by_cases h2 : l = [45, 48]
    · have hs4 : (l == ([45, 48] : List UInt8)) = true := by rw [h2]; rfl
      (refine SF_of_bodyX (aload tt) (aload_ok tyOK) Tryd.func70 rfl (by kernel_rfl) ?_; simp only [Tryd.ntmps70, List.length_cons, List.length_nil, Nat.reduceAdd, Nat.reduceSub, List.replicate_succ, List.replicate_zero, List.cons_append, List.nil_append])
      (refine Wk.o ?_; (repeat revert hK K); refine Waccaa ?_; (repeat intro K hK); refine ⟨?_⟩)
      (simp only [bodyX]; refine ⟨_, by simp only [aresults, aresult, XS.as, Tryd.results70, aload, go_sem, Option.bind_some]; rfl, ?_⟩)
      exact ⟨.iv _, by rw [hz, h2]; simp, trivial⟩
    · have hs4 : (l == ([45, 48] : List UInt8)) = false := by simpa using h2
      have hp : 0 < m.length := List.length_pos_iff.2 h1
      have hz2 : numOk l = (noLz m && m.all isDg) := by
        have e1 : m.isEmpty = false := by cases m with | nil => exact absurd rfl h1 | cons _ _ => rfl
        have e5 : (l != [45, 48]) = true := by simp [bne, hs4]
        rw [hz, e1, e5]; simp
      by_cases h3 : 1 < m.length
      · by_cases h4 : (m.getD 0 0).toNat = 48
        · have hnz : noLz m = false := by
            cases m with
            | nil => exact absurd rfl h1
            | cons c r =>
              have e4 : c.toNat = 48 := h4
              have e3 : ¬ (c :: r).length = 1 := by omega
              unfold noLz; rw [decide_eq_false e3]; simp [e4]
          (refine SF_of_bodyX (aload tt) (aload_ok tyOK) Tryd.func70 rfl (by kernel_rfl) ?_; simp only [Tryd.ntmps70, List.length_cons, List.length_nil, Nat.reduceAdd, Nat.reduceSub, List.replicate_succ, List.replicate_zero, List.cons_append, List.nil_append])
          (refine Wk.o ?_; (repeat revert hK K); refine Waccaa ?_; (repeat intro K hK); refine ⟨?_⟩)
          (simp only [bodyX]; refine ⟨_, by simp only [aresults, aresult, XS.as, Tryd.results70, aload, go_sem, Option.bind_some]; rfl, ?_⟩)
          exact ⟨.iv _, by rw [hz2, hnz]; rfl, trivial⟩
        · have hnz : noLz m = true := by
            cases m with
            | nil => exact absurd rfl h1
            | cons c r =>
              have e4 : c.toNat ≠ 48 := h4
              unfold noLz; simp [e4]
          (refine SF_of_bodyX (aload tt) (aload_ok tyOK) Tryd.func70 rfl (by kernel_rfl) ?_; simp only [Tryd.ntmps70, List.length_cons, List.length_nil, Nat.reduceAdd, Nat.reduceSub, List.replicate_succ, List.replicate_zero, List.cons_append, List.nil_append])
          (refine Wk.o ?_; (repeat revert hK K); refine Waccaa ?_; (repeat intro K hK); refine ⟨?_⟩)
          (refine AWH (σ := Nat) [26, 27, 4, 28, 29, 30, 31, 32, 33, 34, 35, 36, 37, 2, 38] (fun k => [(25, lint k)]) (fun k => []) (fun k => []) (fun k => k ≤ m.length ∧ (m.take k).all isDg = true) (fun k => m.length - k) 0 (by first | exact ⟨Nat.zero_le _, rfl⟩) ?_; rintro k d fr hfr ⟨hk, hj⟩; simp only [updS, deadS, List.set_cons_succ, List.set_cons_zero, lint] at hfr; subst hfr; (try dsimp only))
          by_cases hlt : k < m.length
          · by_cases h6 : (m.getD k 0).toNat < 48
            · (refine Wk.o ?_; (repeat revert hK K); refine Waccaa ?_; (repeat intro K hK); refine ⟨?_⟩)
              (simp only [bodyX]; refine ⟨_, by simp only [aresults, aresult, XS.as, Tryd.results70, aload, go_sem, Option.bind_some]; rfl, ?_⟩)
              exact ⟨.iv _, by rw [hz2, dg_no hlt (by omega), Bool.and_false], trivial⟩
            · by_cases h7 : 57 < (m.getD k 0).toNat
              · (refine Wk.o ?_; (repeat revert hK K); refine Waccaa ?_; (repeat intro K hK); refine ⟨?_⟩)
                (simp only [bodyX]; refine ⟨_, by simp only [aresults, aresult, XS.as, Tryd.results70, aload, go_sem, Option.bind_some]; rfl, ?_⟩)
                exact ⟨.iv _, by rw [hz2, dg_no hlt (by omega), Bool.and_false], trivial⟩
              · (refine Wk.o ?_; (repeat revert hK K); refine Waccaa ?_; (repeat intro K hK); refine ⟨?_⟩)
                exact WEND (k + 1) ⟨by omega, dg_take hlt hj (by omega) (by omega)⟩ (by (first | omega | (dsimp only; omega) | (simp only; omega)))
          · obtain rfl : k = m.length := by omega
            rw [List.take_length] at hj
            (refine Wk.o ?_; (repeat revert hK K); refine Waccaa ?_; (repeat intro K hK); refine ⟨?_⟩)
            (simp only [bodyX]; refine ⟨_, by simp only [aresults, aresult, XS.as, Tryd.results70, aload, go_sem, Option.bind_some]; rfl, ?_⟩)
            exact ⟨.iv _, by rw [hz2, hnz, hj]; rfl, trivial⟩
      · have hnz : noLz m = true := by
          have e : m.length = 1 := by omega
          unfold noLz; rw [decide_eq_true e]; rfl
        (refine SF_of_bodyX (aload tt) (aload_ok tyOK) Tryd.func70 rfl (by kernel_rfl) ?_; simp only [Tryd.ntmps70, List.length_cons, List.length_nil, Nat.reduceAdd, Nat.reduceSub, List.replicate_succ, List.replicate_zero, List.cons_append, List.nil_append])
        (refine Wk.o ?_; (repeat revert hK K); refine Waccaa ?_; (repeat intro K hK); refine ⟨?_⟩)
        (refine AWH (σ := Nat) [26, 27, 4, 28, 29, 30, 31, 32, 33, 34, 35, 36, 37, 2, 38] (fun k => [(25, lint k)]) (fun k => []) (fun k => []) (fun k => k ≤ m.length ∧ (m.take k).all isDg = true) (fun k => m.length - k) 0 (by first | exact ⟨Nat.zero_le _, rfl⟩) ?_; rintro k d fr hfr ⟨hk, hj⟩; simp only [updS, deadS, List.set_cons_succ, List.set_cons_zero, lint] at hfr; subst hfr; (try dsimp only))
        by_cases hlt : k < m.length
        · by_cases h6 : (m.getD k 0).toNat < 48
          · (refine Wk.o ?_; (repeat revert hK K); refine Waccaa ?_; (repeat intro K hK); refine ⟨?_⟩)
            (simp only [bodyX]; refine ⟨_, by simp only [aresults, aresult, XS.as, Tryd.results70, aload, go_sem, Option.bind_some]; rfl, ?_⟩)
            exact ⟨.iv _, by rw [hz2, dg_no hlt (by omega), Bool.and_false], trivial⟩
          · by_cases h7 : 57 < (m.getD k 0).toNat
            · (refine Wk.o ?_; (repeat revert hK K); refine Waccaa ?_; (repeat intro K hK); refine ⟨?_⟩)
              (simp only [bodyX]; refine ⟨_, by simp only [aresults, aresult, XS.as, Tryd.results70, aload, go_sem, Option.bind_some]; rfl, ?_⟩)
              exact ⟨.iv _, by rw [hz2, dg_no hlt (by omega), Bool.and_false], trivial⟩
            · (refine Wk.o ?_; (repeat revert hK K); refine Waccaa ?_; (repeat intro K hK); refine ⟨?_⟩)
              exact WEND (k + 1) ⟨by omega, dg_take hlt hj (by omega) (by omega)⟩ (by (first | omega | (dsimp only; omega) | (simp only; omega)))
        · obtain rfl : k = m.length := by omega
          rw [List.take_length] at hj
          (refine Wk.o ?_; (repeat revert hK K); refine Waccaa ?_; (repeat intro K hK); refine ⟨?_⟩)
          (simp only [bodyX]; refine ⟨_, by simp only [aresults, aresult, XS.as, Tryd.results70, aload, go_sem, Option.bind_some]; rfl, ?_⟩)
          exact ⟨.iv _, by rw [hz2, hnz, hj]; rfl, trivial⟩
end Go.Proofs.YtghdacijcnmhlaaDoor
namespace Go.Proofs.YtghdacijcnmhlaaDoor
open Go.RowKit Go.Shelf Go.Lib Go.Sort
set_option linter.unusedVariables false
set_option linter.unusedSimpArgs false
theorem PF_of_walkE {P : Program} {f : FuncId} {args : List AV} {Q : AV → Prop} (hc : Callable P f) (h : ∀ (G : Gh) w vs, Inv G [] w → RL 0 G args vs → Calls P f vs.toArray w fun e w' => (∃ v r, e = .returned v ∧ RA 0 G r v ∧ Q r) ∧ Below w.heap.size w w') : PF P f args fun r' H' => Q r' ∧ H' = [] :=
  ⟨hc, fun G w vs hi hr => (h G w vs hi hr).mono fun e w' ⟨⟨v, r, h1, hv, hq⟩, h2⟩ => ⟨v, r, G, [], h1, Gh.le.refl _ _, Nat.le_refl _, ⟨h2.os.trans hi.os, h2.tape.trans hi.tape, h2.output.trans hi.output, fun b x e => (h2.block b (lt_of_heap (hi.fz b x e))).trans (hi.fz b x e), fun b x e => (h2.block b (lt_of_heap (hi.kp b x e))).trans (hi.kp b x e), fun o ho => hi.dom o ho, fun o x e => by simp at e, fun o x e => by simp at e, fun o o' x x' e => by simp at e⟩, hv, hq, rfl⟩⟩
theorem ra_tup2 {G : Gh} {a b : Value} : RA 0 G (.tup [lt a, lt b]) (.tuple #[a, b]) := .tup [_, _] [_, _] rfl (RL.cons (.iv _ _ (.lit _)) (RL.cons (.iv _ _ (.lit _)) (RL.nil _ _))).2
theorem pf_AtoiOk {l : List UInt8} (hl : l.length ≤ 1000000) (h : numOk l = true) (hb : -9223372036854775808 ≤ numV l ∧ numV l ≤ 9223372036854775807) : PF Tryd.prog 71 [lt (.string (ba l))] fun r H' => r = .tup [lt (.int .i64 (numV l)), lt .nilIface] ∧ H' = [] :=
  PF_of_walkE ⟨_, Tryd.func71, by kernel_rfl, rfl⟩ fun G w vs hi hr => by
    obtain ⟨v1, us, rfl, r1, hr⟩ := hr.uncons
    rw [hr.unnil, r1.lit_inv]
    have e1 : Lib.atoiAll (ba l).data.toList = .ok (numV l) := by rw [ba_list, atoi_num h, if_pos hb]
    have h := Any.strconv_Atoi_ok atoiL (ba l) (by rw [ba_size]; omega) (numV l) e1 w
    refine (show Calls Tryd.prog 71 #[.string (ba l)] w _ from h).mono ?_
    rintro e w' ⟨rfl, hw⟩
    refine ⟨⟨_, _, rfl, ra_tup2, rfl⟩, ?_⟩
    rcases hw with rfl | ⟨t, rfl⟩
    · exact Below.refl _ _
    · exact Lib.bytesWorld_below _ _ _
theorem base_err {G : Gh} {H : AHeap} {w : World} (hi : Inv G H w) : ∃ te pe, w.cell? ⟨2, 0, none⟩ = some (.iface te pe) := by
  obtain ⟨x, hx, te, pe, t, fr, rfl⟩ := G.bs _ (List.Mem.tail _ (List.Mem.head _))
  have hh : w.heap[2]? = _ := hi.fz _ _ hx
  exact ⟨te, pe, by rw [cell_of_heap hh]; rfl⟩
theorem pf_AtoiNo {l : List UInt8} (hl : l.length ≤ 1000000) (h : numOk l = true) (hb : ¬ (-9223372036854775808 ≤ numV l ∧ numV l ≤ 9223372036854775807)) : PF Tryd.prog 71 [lt (.string (ba l))] fun r H' => (∃ n v, r = .tup [lt (.int .i64 n), lt v] ∧ isNilV v = some false) ∧ H' = [] :=
  PF_of_walkE ⟨_, Tryd.func71, by kernel_rfl, rfl⟩ fun G w vs hi hr => by
    obtain ⟨v1, us, rfl, r1, hr⟩ := hr.uncons
    rw [hr.unnil, r1.lit_inv]
    have e1 : Lib.atoiAll (ba l).data.toList = .range := by rw [ba_list, atoi_num h, if_neg hb]
    obtain ⟨te, pe, hc⟩ := base_err hi
    have h := Any.strconv_Atoi_range atoiL (ba l) (by rw [ba_size]; omega) e1 (.iface te pe) w hc (.inr ⟨te, pe, rfl⟩)
    refine (show Calls Tryd.prog 71 #[.string (ba l)] w _ from h).mono ?_
    rintro e w' ⟨N, rfl, h1, h2, h3⟩
    exact ⟨⟨_, _, rfl, ra_tup2, _, _, rfl, rfl⟩, h3⟩
set_option maxRecDepth 100000 in
set_option maxHeartbeats 4000000 in
theorem pf_Number (l : List UInt8) (lo hi : Int) (hl : l.length ≤ 1000000) : PF Tryd.prog 60 [lt (.string (ba l)), lt (.int .i64 lo), lt (.int .i64 hi)] fun r H' => r = .tup [lt (.int .i64 (numR l lo hi).1), lt (.int .i64 (numR l lo hi).2)] ∧ H' = [] := by
  refine SF.forgetAll ?_
  have hs1 := trivial; have hs2 := trivial; have hs3 := trivial; have hs4 := trivial; have hs5 := trivial; have hC := trivial; have hI := trivial; have hS := trivial; have hV := trivial
  have hC := pf_numeral l hl
  cases h1 : numOk l with
  | false =>
    rw [h1] at hC
    have hz : numR l lo hi = (0, 5) := by unfold numR; rw [if_pos h1]
    rw [hz]
    (refine SF_of_bodyX (aload tt) (aload_ok tyOK) Tryd.func60 rfl (by kernel_rfl) ?_; simp only [Tryd.ntmps60, List.length_cons, List.length_nil, Nat.reduceAdd, Nat.reduceSub, List.replicate_succ, List.replicate_zero, List.cons_append, List.nil_append])
    (repeat (first | (first | (with_reducible first | refine AX_block ?_ | refine AX_skip ?_ | refine AX_exit ?_ | refine AX_ret ?_ | refine AX_ift ?_ | refine AX_iff ?_ | refine AX_seq_k (fun K hK => ?_) | refine ContX.use (by assumption) ?_) | simp only [thenX, inBlockX, if_true, if_false, reduceCtorEq]) | (first | ((with_reducible refine XOP tyOK ?_); simp (disch := omega) only [go_sem , hs1, hs2, hs3, hs4, hs5, eqRes]; (with_reducible refine XRes_id ?_)) | (with_reducible refine XSK ?_)) | ((with_reducible refine XRes_nil ?_); refine hK _ ?_; clear hK K) | ((with_reducible refine AX_reg0 fun K hK => ?_); simp only [go_sem]) | (first | (refine XRes_nilI rfl (by first | exact .inl rfl | exact .inr rfl) rfl hV (by kernel_rfl) ?_; (simp only [putL, List.set_cons_succ, List.set_cons_zero])) | (first | refine XTL (by rfl) hC ?_ | refine XTL (by rfl) hI ?_) | ((refine XRes_fn (by rfl) hS ?_); (rintro r H' ⟨⟨n, v, rfl, hV⟩, rfl⟩); (simp only [putL, List.set_cons_succ, List.set_cons_zero])))))
    (simp only [bodyX]; refine ⟨_, by simp only [aresults, aresult, XS.as, Tryd.results60, aload, go_sem, Option.bind_some]; rfl, ?_⟩)
    exact ⟨ids_idB rfl, rfl, trivial⟩
  | true =>
    rw [h1] at hC
    have hz : numR l lo hi = if -9223372036854775808 ≤ numV l ∧ numV l ≤ 9223372036854775807 ∧ lo ≤ numV l ∧ numV l ≤ hi then (numV l, 0) else (0, 7) := by unfold numR; rw [if_neg (by simp [h1])]
    by_cases h2 : -9223372036854775808 ≤ numV l ∧ numV l ≤ 9223372036854775807
    · have hI := pf_AtoiOk hl h1 h2
      have hV : isNilV .nilIface = some true := rfl
      generalize numV l = n at *
      by_cases h3 : n < lo
      · have e2 : numR l lo hi = (0, 7) := by rw [hz, if_neg (fun h => by omega)]
        rw [e2]
        (refine SF_of_bodyX (aload tt) (aload_ok tyOK) Tryd.func60 rfl (by kernel_rfl) ?_; simp only [Tryd.ntmps60, List.length_cons, List.length_nil, Nat.reduceAdd, Nat.reduceSub, List.replicate_succ, List.replicate_zero, List.cons_append, List.nil_append])
        (repeat (first | (first | (with_reducible first | refine AX_block ?_ | refine AX_skip ?_ | refine AX_exit ?_ | refine AX_ret ?_ | refine AX_ift ?_ | refine AX_iff ?_ | refine AX_seq_k (fun K hK => ?_) | refine ContX.use (by assumption) ?_) | simp only [thenX, inBlockX, if_true, if_false, reduceCtorEq]) | (first | ((with_reducible refine XOP tyOK ?_); simp (disch := omega) only [go_sem , hs1, hs2, hs3, hs4, hs5, eqRes]; (with_reducible refine XRes_id ?_)) | (with_reducible refine XSK ?_)) | ((with_reducible refine XRes_nil ?_); refine hK _ ?_; clear hK K) | ((with_reducible refine AX_reg0 fun K hK => ?_); simp only [go_sem]) | (first | (refine XRes_nilI rfl (by first | exact .inl rfl | exact .inr rfl) rfl hV (by kernel_rfl) ?_; (simp only [putL, List.set_cons_succ, List.set_cons_zero])) | (first | refine XTL (by rfl) hC ?_ | refine XTL (by rfl) hI ?_) | ((refine XRes_fn (by rfl) hS ?_); (rintro r H' ⟨⟨n, v, rfl, hV⟩, rfl⟩); (simp only [putL, List.set_cons_succ, List.set_cons_zero])))))
        (simp only [bodyX]; refine ⟨_, by simp only [aresults, aresult, XS.as, Tryd.results60, aload, go_sem, Option.bind_some]; rfl, ?_⟩)
        exact ⟨ids_idB rfl, rfl, trivial⟩
      · by_cases h4 : hi < n
        · have e2 : numR l lo hi = (0, 7) := by rw [hz, if_neg (fun h => by omega)]
          rw [e2]
          (refine SF_of_bodyX (aload tt) (aload_ok tyOK) Tryd.func60 rfl (by kernel_rfl) ?_; simp only [Tryd.ntmps60, List.length_cons, List.length_nil, Nat.reduceAdd, Nat.reduceSub, List.replicate_succ, List.replicate_zero, List.cons_append, List.nil_append])
          (repeat (first | (first | (with_reducible first | refine AX_block ?_ | refine AX_skip ?_ | refine AX_exit ?_ | refine AX_ret ?_ | refine AX_ift ?_ | refine AX_iff ?_ | refine AX_seq_k (fun K hK => ?_) | refine ContX.use (by assumption) ?_) | simp only [thenX, inBlockX, if_true, if_false, reduceCtorEq]) | (first | ((with_reducible refine XOP tyOK ?_); simp (disch := omega) only [go_sem , hs1, hs2, hs3, hs4, hs5, eqRes]; (with_reducible refine XRes_id ?_)) | (with_reducible refine XSK ?_)) | ((with_reducible refine XRes_nil ?_); refine hK _ ?_; clear hK K) | ((with_reducible refine AX_reg0 fun K hK => ?_); simp only [go_sem]) | (first | (refine XRes_nilI rfl (by first | exact .inl rfl | exact .inr rfl) rfl hV (by kernel_rfl) ?_; (simp only [putL, List.set_cons_succ, List.set_cons_zero])) | (first | refine XTL (by rfl) hC ?_ | refine XTL (by rfl) hI ?_) | ((refine XRes_fn (by rfl) hS ?_); (rintro r H' ⟨⟨n, v, rfl, hV⟩, rfl⟩); (simp only [putL, List.set_cons_succ, List.set_cons_zero])))))
          (simp only [bodyX]; refine ⟨_, by simp only [aresults, aresult, XS.as, Tryd.results60, aload, go_sem, Option.bind_some]; rfl, ?_⟩)
          exact ⟨ids_idB rfl, rfl, trivial⟩
        · have e2 : numR l lo hi = (n, 0) := by rw [hz, if_pos (by omega)]
          rw [e2]
          (refine SF_of_bodyX (aload tt) (aload_ok tyOK) Tryd.func60 rfl (by kernel_rfl) ?_; simp only [Tryd.ntmps60, List.length_cons, List.length_nil, Nat.reduceAdd, Nat.reduceSub, List.replicate_succ, List.replicate_zero, List.cons_append, List.nil_append])
          (repeat (first | (first | (with_reducible first | refine AX_block ?_ | refine AX_skip ?_ | refine AX_exit ?_ | refine AX_ret ?_ | refine AX_ift ?_ | refine AX_iff ?_ | refine AX_seq_k (fun K hK => ?_) | refine ContX.use (by assumption) ?_) | simp only [thenX, inBlockX, if_true, if_false, reduceCtorEq]) | (first | ((with_reducible refine XOP tyOK ?_); simp (disch := omega) only [go_sem , hs1, hs2, hs3, hs4, hs5, eqRes]; (with_reducible refine XRes_id ?_)) | (with_reducible refine XSK ?_)) | ((with_reducible refine XRes_nil ?_); refine hK _ ?_; clear hK K) | ((with_reducible refine AX_reg0 fun K hK => ?_); simp only [go_sem]) | (first | (refine XRes_nilI rfl (by first | exact .inl rfl | exact .inr rfl) rfl hV (by kernel_rfl) ?_; (simp only [putL, List.set_cons_succ, List.set_cons_zero])) | (first | refine XTL (by rfl) hC ?_ | refine XTL (by rfl) hI ?_) | ((refine XRes_fn (by rfl) hS ?_); (rintro r H' ⟨⟨n, v, rfl, hV⟩, rfl⟩); (simp only [putL, List.set_cons_succ, List.set_cons_zero])))))
          (simp only [bodyX]; refine ⟨_, by simp only [aresults, aresult, XS.as, Tryd.results60, aload, go_sem, Option.bind_some]; rfl, ?_⟩)
          exact ⟨ids_idB rfl, rfl, trivial⟩
    · have hS := pf_AtoiNo hl h1 h2
      have e2 : numR l lo hi = (0, 7) := by rw [hz, if_neg (fun h => h2 ⟨h.1, h.2.1⟩)]
      rw [e2]
      (refine SF_of_bodyX (aload tt) (aload_ok tyOK) Tryd.func60 rfl (by kernel_rfl) ?_; simp only [Tryd.ntmps60, List.length_cons, List.length_nil, Nat.reduceAdd, Nat.reduceSub, List.replicate_succ, List.replicate_zero, List.cons_append, List.nil_append])
      (repeat (first | (first | (with_reducible first | refine AX_block ?_ | refine AX_skip ?_ | refine AX_exit ?_ | refine AX_ret ?_ | refine AX_ift ?_ | refine AX_iff ?_ | refine AX_seq_k (fun K hK => ?_) | refine ContX.use (by assumption) ?_) | simp only [thenX, inBlockX, if_true, if_false, reduceCtorEq]) | (first | ((with_reducible refine XOP tyOK ?_); simp (disch := omega) only [go_sem , hs1, hs2, hs3, hs4, hs5, eqRes]; (with_reducible refine XRes_id ?_)) | (with_reducible refine XSK ?_)) | ((with_reducible refine XRes_nil ?_); refine hK _ ?_; clear hK K) | ((with_reducible refine AX_reg0 fun K hK => ?_); simp only [go_sem]) | (first | (refine XRes_nilI rfl (by first | exact .inl rfl | exact .inr rfl) rfl hV (by kernel_rfl) ?_; (simp only [putL, List.set_cons_succ, List.set_cons_zero])) | (first | refine XTL (by rfl) hC ?_ | refine XTL (by rfl) hI ?_) | ((refine XRes_fn (by rfl) hS ?_); (rintro r H' ⟨⟨n, v, rfl, hV⟩, rfl⟩); (simp only [putL, List.set_cons_succ, List.set_cons_zero])))))
      (simp only [bodyX]; refine ⟨_, by simp only [aresults, aresult, XS.as, Tryd.results60, aload, go_sem, Option.bind_some]; rfl, ?_⟩)
      exact ⟨ids_idB rfl, rfl, trivial⟩
end Go.Proofs.YtghdacijcnmhlaaDoor
namespace Go.Proofs.YtghdacijcnmhlaaDoor
open Go.RowKit Go.Lib
set_option linter.unusedSimpArgs false
def lastEnd (T : List Tok3) : Int := (T.getD (T.length - 1) tok0).2.1 + (((T.getD (T.length - 1) tok0).2.2.length : Nat) : Int)
def nGo (le z : Int) : List Tok3 → List (Int × Int) → List Int → List Int × Int × Int
  | [], [], acc => (acc, z, 0)
  | t :: _, [], _ => ([], t.2.1, 6)
  | [], _ :: _, _ => ([], le, 4)
  | t :: T, b :: bs, acc => if (numR t.2.2 b.1 b.2).2 ≠ 0 then ([], t.2.1, (numR t.2.2 b.1 b.2).2) else nGo le z T bs (acc ++ [(numR t.2.2 b.1 b.2).1])
def nums (T : List Tok3) (w : List UInt8) (lo hi : List Int) (z : Int) : List Int × Int × Int :=
  if T.length = 0 then ([], z, 4) else if (T.getD 0 tok0).2.2 ≠ w then ([], (T.getD 0 tok0).2.1, 8) else nGo (lastEnd T) z (T.drop 1) (lo.zip hi) []
def iTokL (T : List Tok3) : IV := .sl (fun j => .lit ((tokL T).getD j undef)) T.length 3
def iLs (L : List (List Tok3)) : IV := .sl (fun j => iTokL (L.getD j [])) L.length 1
theorem tokL_row (a c : Nat) (ts : List (Nat × List UInt8)) : tokL (rowT (a, c, ts)) = tkL a c ts := by
  unfold tokL rowT tkL
  rw [List.flatMap_map]
theorem rowT_length (a c : Nat) (ts : List (Nat × List UInt8)) : (rowT (a, c, ts)).length = ts.length := by unfold rowT; simp
theorem iTokL_row (a c : Nat) (ts : List (Nat × List UInt8)) : iTk a c ts = iTokL (rowT (a, c, ts)) := by
  unfold iTk iTokL
  rw [tokL_row, rowT_length]
theorem iLn_ls (rs : List (Nat × Nat × List (Nat × List UInt8))) : iLn rs = iLs (rs.map rowT) := by
  unfold iLn iLs
  rw [List.length_map]
  congr 1
  funext j
  by_cases hj : j < rs.length
  · rw [List.getD_eq_getElem?_getD, List.getD_eq_getElem?_getD, List.getElem?_map, List.getElem?_eq_getElem hj]
    exact iTokL_row _ _ _
  · rw [List.getD_eq_getElem?_getD, List.getD_eq_getElem?_getD, List.getElem?_map, List.getElem?_eq_none (by omega)]
    exact iTokL_row _ _ _
theorem dropG {α : Type} (L : List α) (k j : Nat) (d : α) : (L.drop k).getD j d = L.getD (k + j) d := by
  rw [List.getD_eq_getElem?_getD, List.getD_eq_getElem?_getD, List.getElem?_drop]
def nxt : List (List Tok3) → List Tok3 × List (List Tok3)
  | [] => ([], [])
  | x :: L => if x.length = 0 then nxt L else (x, L)
def said (L : List (List Tok3)) : List (List Tok3) := L.filter fun x => decide (x.length ≠ 0)
def wObj : List UInt8 := [111, 98, 106, 101, 99, 116]
def wRow : List UInt8 := [114, 111, 119]
def lo4 : List Int := [0, 0, 0, 0]
def hi4 : List Int := [1000000, 1000000, 1000000, 1000000]
def rwOf (n : List Int) : Rw := ⟨n.getD 0 0, n.getD 1 0, n.getD 2 0, n.getD 3 0⟩
def rowsGo (z : Int) : Nat → List (List Tok3) → List Rw → List Int → List Rw × List Int × List (List Tok3) × Int × Int
  | 0, L, R, P => (R, P, L, z, 0)
  | n + 1, L, R, P => if (nums (nxt L).1 wRow lo4 hi4 z).2.2 ≠ 0 then ([], [], [], (nums (nxt L).1 wRow lo4 hi4 z).2.1, (nums (nxt L).1 wRow lo4 hi4 z).2.2)
      else rowsGo z n (nxt L).2 (R ++ [rwOf (nums (nxt L).1 wRow lo4 hi4 z).1]) (P ++ [((nxt L).1.getD 0 tok0).2.1])
def ob0 : Ob := ⟨0, 0, 0, []⟩
def takeP (L : List (List Tok3)) (z : Int) : Ob × List (List Tok3) × Int × Int :=
  let q := nums (nxt L).1 wObj lo4 hi4 z
  if q.2.2 ≠ 0 then (ob0, [], q.2.1, q.2.2) else
  let g := rowsGo z (q.1.getD 3 0).toNat (nxt L).2 [] []
  if g.2.2.2.2 ≠ 0 then (ob0, [], g.2.2.2.1, g.2.2.2.2) else
  let o : Ob := ⟨q.1.getD 0 0, q.1.getD 1 0, q.1.getD 2 0, g.1⟩
  if obE o = 2 then (ob0, [], ((nxt L).1.getD 0 tok0).2.1, 2) else
  if obE o ≠ 0 then (ob0, [], g.2.1.getD (obAt o).toNat 0, obE o) else (o, g.2.2.1, z, 0)
def oprs (L : List (List Tok3)) (z : Int) : Ob × Int × Int :=
  let q := takeP L z
  if q.2.2.2 ≠ 0 then (ob0, q.2.2.1, q.2.2.2) else if (nxt q.2.1).1.length ≠ 0 then (ob0, ((nxt q.2.1).1.getD 0 tok0).2.1, 6) else (q.1, z, 0)
end Go.Proofs.YtghdacijcnmhlaaDoor
