import Derived.Test.YthgmjboldboclaaDoorMgBG
import Derived.Test.YthgmjboldboclaaDoorMgBH
namespace Go.Proofs.YthgmjboldboclaaDoor
open Go.RowKit Go.Lib
set_option linter.unusedVariables false
set_option linter.unusedSimpArgs false
theorem dg_take {l : List UInt8} {k : Nat} (h : k < l.length) (hj : (l.take k).all isDg = true) (h1 : 48 ≤ (l.getD k 0).toNat) (h2 : (l.getD k 0).toNat ≤ 57) : (l.take (k + 1)).all isDg = true := by
  rw [List.take_succ_eq_append_getElem h, List.all_append, hj]
  have e : l.getD k 0 = l[k] := by simp [List.getD, h]
  rw [e] at h1 h2
  simp [isDg, h1, h2]
theorem dg_no {l : List UInt8} {k : Nat} (h : k < l.length) (h1 : ¬ (48 ≤ (l.getD k 0).toNat ∧ (l.getD k 0).toNat ≤ 57)) : l.all isDg = false := by
  have e : l.getD k 0 = l[k] := by simp [List.getD, h]
  rw [e] at h1
  rw [← Bool.not_eq_true, List.all_eq_true]
  intro h2
  exact h1 (of_decide_eq_true (h2 _ (List.getElem_mem h)))
theorem Waccaa {A B : Prop} (h9 : B) (w : B → A := by (intro h9; (repeat intro K hK); refine ⟨?_⟩; (repeat (first | (first | (with_reducible first | refine AX_block ?_ | refine AX_skip ?_ | refine AX_exit ?_ | refine AX_ret ?_ | refine AX_ift ?_ | refine AX_iff ?_ | refine AX_seq_k (fun K hK => ?_) | refine ContX.use (by assumption) ?_) | simp only [thenX, inBlockX, if_true, if_false, reduceCtorEq]) | (first | ((with_reducible refine XOP tyOK ?_); simp (disch := omega) only [go_sem , hs1, hs2, hs3, hs4, hs5, ba_toList, ba_size, byteAt_ba, Int.toNat_zero, Int.toNat_natCast]; (with_reducible refine XRes_id ?_)) | (with_reducible refine XSK ?_)) | ((with_reducible refine XRes_nil ?_); refine hK _ ?_; clear hK K) | ((with_reducible refine AX_reg0 fun K hK => ?_); simp only [go_sem]) | (first | (first | refine XTL (by rfl) hC ?_)))); refine Wk.o ?_; (repeat revert hK K); exact h9)) : A := w h9
set_option maxRecDepth 100000 in
set_option maxHeartbeats 4000000 in
theorem pf_numeral (l : List UInt8) (hl : l.length ≤ 1000000) : PF Tryd.prog 59 [lt (.string (ba l))] fun r H' => r = lt (.bool (numOk l)) ∧ H' = [] := by
  refine SF.forgetAll ?_
  have hs1 := trivial; have hs2 := trivial; have hs3 := trivial; have hs4 := trivial; have hs5 := trivial; have hC := trivial
  have hC : PF Tryd.prog 70 [lt (.string (ba l)), lt (.string ⟨#[45]⟩)] fun r H' => r = lt (.string (ba (magOf l))) ∧ H' = [] := pf_Trim l [45]
  have hs1 : (⟨#[]⟩ : ByteArray).toList = [] := ba_toList []
  have hs2 : (⟨#[45, 48]⟩ : ByteArray).toList = [45, 48] := ba_toList [45, 48]
  have hml : (magOf l).length ≤ l.length := by unfold magOf trimPrefix; split <;> simp
  have hz : numOk l = (!(magOf l).isEmpty && l != [45, 48] && noLz (magOf l) && (magOf l).all isDg) := rfl
  generalize hm : magOf l = m at *
  by_cases h1 : m = []
  · have hs3 : (m == ([] : List UInt8)) = true := by rw [h1]; rfl
    (refine SF_of_bodyX (aload tt) (aload_ok tyOK) Tryd.func59 rfl (by kernel_rfl) ?_; simp only [Tryd.ntmps59, List.length_cons, List.length_nil, Nat.reduceAdd, Nat.reduceSub, List.replicate_succ, List.replicate_zero, List.cons_append, List.nil_append])
    (refine Wk.o ?_; (repeat revert hK K); refine Waccaa ?_; (repeat intro K hK); refine ⟨?_⟩)
    (simp only [bodyX]; refine ⟨_, by simp only [aresults, aresult, XS.as, Tryd.results59, aload, go_sem, Option.bind_some]; rfl, ?_⟩)
    exact ⟨.iv _, by rw [hz, h1]; rfl, trivial⟩
  · have hs3 : (m == ([] : List UInt8)) = false := by simpa using h1
    by_cases h2 : l = [45, 48]
    · have hs4 : (l == ([45, 48] : List UInt8)) = true := by rw [h2]; rfl
      (refine SF_of_bodyX (aload tt) (aload_ok tyOK) Tryd.func59 rfl (by kernel_rfl) ?_; simp only [Tryd.ntmps59, List.length_cons, List.length_nil, Nat.reduceAdd, Nat.reduceSub, List.replicate_succ, List.replicate_zero, List.cons_append, List.nil_append])
      (refine Wk.o ?_; (repeat revert hK K); refine Waccaa ?_; (repeat intro K hK); refine ⟨?_⟩)
      (simp only [bodyX]; refine ⟨_, by simp only [aresults, aresult, XS.as, Tryd.results59, aload, go_sem, Option.bind_some]; rfl, ?_⟩)
      exact ⟨.iv _, by rw [hz, h2]; simp, trivial⟩
    · have hs4 : (l == ([45, 48] : List UInt8)) = false := by simpa using h2
      have hp : 0 < m.length := List.length_pos_iff.2 h1
      have hz2 : numOk l = (noLz m && m.all isDg) := by
        have e1 : m.isEmpty = false := by cases m with | nil => exact absurd rfl h1 | cons _ _ => rfl
        have e5 : (l != [45, 48]) = true := by simp [bne, hs4]
        rw [hz, e1, e5]; simp
      by_cases h3 : 1 < m.length
      · by_cases h4 : (m.getD 0 0).toNat = 48
        · have hnz : noLz m = false := by
            cases m with
            | nil => exact absurd rfl h1
            | cons c r =>
              have e4 : c.toNat = 48 := h4
              have e3 : ¬ (c :: r).length = 1 := by omega
              unfold noLz; rw [decide_eq_false e3]; simp [e4]
          (refine SF_of_bodyX (aload tt) (aload_ok tyOK) Tryd.func59 rfl (by kernel_rfl) ?_; simp only [Tryd.ntmps59, List.length_cons, List.length_nil, Nat.reduceAdd, Nat.reduceSub, List.replicate_succ, List.replicate_zero, List.cons_append, List.nil_append])
          (refine Wk.o ?_; (repeat revert hK K); refine Waccaa ?_; (repeat intro K hK); refine ⟨?_⟩)
          (simp only [bodyX]; refine ⟨_, by simp only [aresults, aresult, XS.as, Tryd.results59, aload, go_sem, Option.bind_some]; rfl, ?_⟩)
          exact ⟨.iv _, by rw [hz2, hnz]; rfl, trivial⟩
        · have hnz : noLz m = true := by
            cases m with
            | nil => exact absurd rfl h1
            | cons c r =>
              have e4 : c.toNat ≠ 48 := h4
              unfold noLz; simp [e4]
          (refine SF_of_bodyX (aload tt) (aload_ok tyOK) Tryd.func59 rfl (by kernel_rfl) ?_; simp only [Tryd.ntmps59, List.length_cons, List.length_nil, Nat.reduceAdd, Nat.reduceSub, List.replicate_succ, List.replicate_zero, List.cons_append, List.nil_append])
          (refine Wk.o ?_; (repeat revert hK K); refine Waccaa ?_; (repeat intro K hK); refine ⟨?_⟩)
          (refine AWH (σ := Nat) [26, 27, 4, 28, 29, 30, 31, 32, 33, 34, 35, 36, 37, 2, 38] (fun k => [(25, lint k)]) (fun k => []) (fun k => []) (fun k => k ≤ m.length ∧ (m.take k).all isDg = true) (fun k => m.length - k) 0 (by first | exact ⟨Nat.zero_le _, rfl⟩) ?_; rintro k d fr hfr ⟨hk, hj⟩; simp only [updS, deadS, List.set_cons_succ, List.set_cons_zero, lint] at hfr; subst hfr; (try dsimp only))
          by_cases hlt : k < m.length
          · by_cases h6 : (m.getD k 0).toNat < 48
            · (refine Wk.o ?_; (repeat revert hK K); refine Waccaa ?_; (repeat intro K hK); refine ⟨?_⟩)
              (simp only [bodyX]; refine ⟨_, by simp only [aresults, aresult, XS.as, Tryd.results59, aload, go_sem, Option.bind_some]; rfl, ?_⟩)
              exact ⟨.iv _, by rw [hz2, dg_no hlt (by omega), Bool.and_false], trivial⟩
            · by_cases h7 : 57 < (m.getD k 0).toNat
              · (refine Wk.o ?_; (repeat revert hK K); refine Waccaa ?_; (repeat intro K hK); refine ⟨?_⟩)
                (simp only [bodyX]; refine ⟨_, by simp only [aresults, aresult, XS.as, Tryd.results59, aload, go_sem, Option.bind_some]; rfl, ?_⟩)
                exact ⟨.iv _, by rw [hz2, dg_no hlt (by omega), Bool.and_false], trivial⟩
              · (refine Wk.o ?_; (repeat revert hK K); refine Waccaa ?_; (repeat intro K hK); refine ⟨?_⟩)
                exact WEND (k + 1) ⟨by omega, dg_take hlt hj (by omega) (by omega)⟩ (by (first | omega | (dsimp only; omega) | (simp only; omega)))
          · obtain rfl : k = m.length := by omega
            rw [List.take_length] at hj
            (refine Wk.o ?_; (repeat revert hK K); refine Waccaa ?_; (repeat intro K hK); refine ⟨?_⟩)
            (simp only [bodyX]; refine ⟨_, by simp only [aresults, aresult, XS.as, Tryd.results59, aload, go_sem, Option.bind_some]; rfl, ?_⟩)
            exact ⟨.iv _, by rw [hz2, hnz, hj]; rfl, trivial⟩
      · have hnz : noLz m = true := by
          have e : m.length = 1 := by omega
          unfold noLz; rw [decide_eq_true e]; rfl
        (refine SF_of_bodyX (aload tt) (aload_ok tyOK) Tryd.func59 rfl (by kernel_rfl) ?_; simp only [Tryd.ntmps59, List.length_cons, List.length_nil, Nat.reduceAdd, Nat.reduceSub, List.replicate_succ, List.replicate_zero, List.cons_append, List.nil_append])
        (refine Wk.o ?_; (repeat revert hK K); refine Waccaa ?_; (repeat intro K hK); refine ⟨?_⟩)
        (refine AWH (σ := Nat) [26, 27, 4, 28, 29, 30, 31, 32, 33, 34, 35, 36, 37, 2, 38] (fun k => [(25, lint k)]) (fun k => []) (fun k => []) (fun k => k ≤ m.length ∧ (m.take k).all isDg = true) (fun k => m.length - k) 0 (by first | exact ⟨Nat.zero_le _, rfl⟩) ?_; rintro k d fr hfr ⟨hk, hj⟩; simp only [updS, deadS, List.set_cons_succ, List.set_cons_zero, lint] at hfr; subst hfr; (try dsimp only))
        by_cases hlt : k < m.length
        · by_cases h6 : (m.getD k 0).toNat < 48
          · (refine Wk.o ?_; (repeat revert hK K); refine Waccaa ?_; (repeat intro K hK); refine ⟨?_⟩)
            (simp only [bodyX]; refine ⟨_, by simp only [aresults, aresult, XS.as, Tryd.results59, aload, go_sem, Option.bind_some]; rfl, ?_⟩)
            exact ⟨.iv _, by rw [hz2, dg_no hlt (by omega), Bool.and_false], trivial⟩
          · by_cases h7 : 57 < (m.getD k 0).toNat
            · (refine Wk.o ?_; (repeat revert hK K); refine Waccaa ?_; (repeat intro K hK); refine ⟨?_⟩)
              (simp only [bodyX]; refine ⟨_, by simp only [aresults, aresult, XS.as, Tryd.results59, aload, go_sem, Option.bind_some]; rfl, ?_⟩)
              exact ⟨.iv _, by rw [hz2, dg_no hlt (by omega), Bool.and_false], trivial⟩
            · (refine Wk.o ?_; (repeat revert hK K); refine Waccaa ?_; (repeat intro K hK); refine ⟨?_⟩)
              exact WEND (k + 1) ⟨by omega, dg_take hlt hj (by omega) (by omega)⟩ (by (first | omega | (dsimp only; omega) | (simp only; omega)))
        · obtain rfl : k = m.length := by omega
          rw [List.take_length] at hj
          (refine Wk.o ?_; (repeat revert hK K); refine Waccaa ?_; (repeat intro K hK); refine ⟨?_⟩)
          (simp only [bodyX]; refine ⟨_, by simp only [aresults, aresult, XS.as, Tryd.results59, aload, go_sem, Option.bind_some]; rfl, ?_⟩)
          exact ⟨.iv _, by rw [hz2, hnz, hj]; rfl, trivial⟩
end Go.Proofs.YthgmjboldboclaaDoor
namespace Go.Proofs.YthgmjboldboclaaDoor
open Go.RowKit Go.Shelf Go.Lib Go.Sort
set_option linter.unusedVariables false
set_option linter.unusedSimpArgs false
theorem PF_of_walkE {P : Program} {f : FuncId} {args : List AV} {Q : AV → Prop} (hc : Callable P f) (h : ∀ (G : Gh) w vs, Inv G [] w → RL 0 G args vs → Calls P f vs.toArray w fun e w' => (∃ v r, e = .returned v ∧ RA 0 G r v ∧ Q r) ∧ Below w.heap.size w w') : PF P f args fun r' H' => Q r' ∧ H' = [] :=
  ⟨hc, fun G w vs hi hr => (h G w vs hi hr).mono fun e w' ⟨⟨v, r, h1, hv, hq⟩, h2⟩ => ⟨v, r, G, [], h1, Gh.le.refl _ _, Nat.le_refl _, ⟨h2.os.trans hi.os, h2.tape.trans hi.tape, h2.output.trans hi.output, fun b x e => (h2.block b (lt_of_heap (hi.fz b x e))).trans (hi.fz b x e), fun b x e => (h2.block b (lt_of_heap (hi.kp b x e))).trans (hi.kp b x e), fun o ho => hi.dom o ho, fun o x e => by simp at e, fun o x e => by simp at e, fun o o' x x' e => by simp at e⟩, hv, hq, rfl⟩⟩
theorem ra_tup2 {G : Gh} {a b : Value} : RA 0 G (.tup [lt a, lt b]) (.tuple #[a, b]) := .tup [_, _] [_, _] rfl (RL.cons (.iv _ _ (.lit _)) (RL.cons (.iv _ _ (.lit _)) (RL.nil _ _))).2
theorem pf_AtoiOk {l : List UInt8} (hl : l.length ≤ 1000000) (h : numOk l = true) (hb : -9223372036854775808 ≤ numV l ∧ numV l ≤ 9223372036854775807) : PF Tryd.prog 60 [lt (.string (ba l))] fun r H' => r = .tup [lt (.int .i64 (numV l)), lt .nilIface] ∧ H' = [] :=
  PF_of_walkE ⟨_, Tryd.func60, by kernel_rfl, rfl⟩ fun G w vs hi hr => by
    obtain ⟨v1, us, rfl, r1, hr⟩ := hr.uncons
    rw [hr.unnil, r1.lit_inv]
    have e1 : Lib.atoiAll (ba l).data.toList = .ok (numV l) := by rw [ba_list, atoi_num h, if_pos hb]
    have h := Any.strconv_Atoi_ok atoiL (ba l) (by rw [ba_size]; omega) (numV l) e1 w
    refine (show Calls Tryd.prog 60 #[.string (ba l)] w _ from h).mono ?_
    rintro e w' ⟨rfl, hw⟩
    refine ⟨⟨_, _, rfl, ra_tup2, rfl⟩, ?_⟩
    rcases hw with rfl | ⟨t, rfl⟩
    · exact Below.refl _ _
    · exact Lib.bytesWorld_below _ _ _
theorem base_err {G : Gh} {H : AHeap} {w : World} (hi : Inv G H w) : ∃ te pe, w.cell? ⟨2, 0, none⟩ = some (.iface te pe) := by
  obtain ⟨x, hx, te, pe, t, fr, rfl⟩ := G.bs _ (List.Mem.tail _ (List.Mem.head _))
  have hh : w.heap[2]? = _ := hi.fz _ _ hx
  exact ⟨te, pe, by rw [cell_of_heap hh]; rfl⟩
theorem pf_AtoiNo {l : List UInt8} (hl : l.length ≤ 1000000) (h : numOk l = true) (hb : ¬ (-9223372036854775808 ≤ numV l ∧ numV l ≤ 9223372036854775807)) : PF Tryd.prog 60 [lt (.string (ba l))] fun r H' => (∃ n v, r = .tup [lt (.int .i64 n), lt v] ∧ isNilV v = some false) ∧ H' = [] :=
  PF_of_walkE ⟨_, Tryd.func60, by kernel_rfl, rfl⟩ fun G w vs hi hr => by
    obtain ⟨v1, us, rfl, r1, hr⟩ := hr.uncons
    rw [hr.unnil, r1.lit_inv]
    have e1 : Lib.atoiAll (ba l).data.toList = .range := by rw [ba_list, atoi_num h, if_neg hb]
    obtain ⟨te, pe, hc⟩ := base_err hi
    have h := Any.strconv_Atoi_range atoiL (ba l) (by rw [ba_size]; omega) e1 (.iface te pe) w hc (.inr ⟨te, pe, rfl⟩)
    refine (show Calls Tryd.prog 60 #[.string (ba l)] w _ from h).mono ?_
    rintro e w' ⟨N, rfl, h1, h2, h3⟩
    exact ⟨⟨_, _, rfl, ra_tup2, _, _, rfl, rfl⟩, h3⟩
set_option maxRecDepth 100000 in
set_option maxHeartbeats 4000000 in
theorem pf_Number (l : List UInt8) (lo hi : Int) (hl : l.length ≤ 1000000) : PF Tryd.prog 44 [lt (.string (ba l)), lt (.int .i64 lo), lt (.int .i64 hi)] fun r H' => r = .tup [lt (.int .i64 (numR l lo hi).1), lt (.int .i64 (numR l lo hi).2)] ∧ H' = [] := by
  refine SF.forgetAll ?_
  have hs1 := trivial; have hs2 := trivial; have hs3 := trivial; have hs4 := trivial; have hs5 := trivial; have hC := trivial; have hI := trivial; have hS := trivial; have hV := trivial
  have hC := pf_numeral l hl
  cases h1 : numOk l with
  | false =>
    rw [h1] at hC
    have hz : numR l lo hi = (0, 5) := by unfold numR; rw [if_pos h1]
    rw [hz]
    (refine SF_of_bodyX (aload tt) (aload_ok tyOK) Tryd.func44 rfl (by kernel_rfl) ?_; simp only [Tryd.ntmps44, List.length_cons, List.length_nil, Nat.reduceAdd, Nat.reduceSub, List.replicate_succ, List.replicate_zero, List.cons_append, List.nil_append])
    (repeat (first | (first | (with_reducible first | refine AX_block ?_ | refine AX_skip ?_ | refine AX_exit ?_ | refine AX_ret ?_ | refine AX_ift ?_ | refine AX_iff ?_ | refine AX_seq_k (fun K hK => ?_) | refine ContX.use (by assumption) ?_) | simp only [thenX, inBlockX, if_true, if_false, reduceCtorEq]) | (first | ((with_reducible refine XOP tyOK ?_); simp (disch := omega) only [go_sem , hs1, hs2, hs3, hs4, hs5, eqRes]; (with_reducible refine XRes_id ?_)) | (with_reducible refine XSK ?_)) | ((with_reducible refine XRes_nil ?_); refine hK _ ?_; clear hK K) | ((with_reducible refine AX_reg0 fun K hK => ?_); simp only [go_sem]) | (first | (refine XRes_nilI rfl (by first | exact .inl rfl | exact .inr rfl) rfl hV (by kernel_rfl) ?_; (simp only [putL, List.set_cons_succ, List.set_cons_zero])) | (first | refine XTL (by rfl) hC ?_ | refine XTL (by rfl) hI ?_) | ((refine XRes_fn (by rfl) hS ?_); (rintro r H' ⟨⟨n, v, rfl, hV⟩, rfl⟩); (simp only [putL, List.set_cons_succ, List.set_cons_zero])))))
    (simp only [bodyX]; refine ⟨_, by simp only [aresults, aresult, XS.as, Tryd.results44, aload, go_sem, Option.bind_some]; rfl, ?_⟩)
    exact ⟨ids_idB rfl, rfl, trivial⟩
  | true =>
    rw [h1] at hC
    have hz : numR l lo hi = if -9223372036854775808 ≤ numV l ∧ numV l ≤ 9223372036854775807 ∧ lo ≤ numV l ∧ numV l ≤ hi then (numV l, 0) else (0, 7) := by unfold numR; rw [if_neg (by simp [h1])]
    by_cases h2 : -9223372036854775808 ≤ numV l ∧ numV l ≤ 9223372036854775807
    · have hI := pf_AtoiOk hl h1 h2
      have hV : isNilV .nilIface = some true := rfl
      generalize numV l = n at *
      by_cases h3 : n < lo
      · have e2 : numR l lo hi = (0, 7) := by rw [hz, if_neg (fun h => by omega)]
        rw [e2]
        (refine SF_of_bodyX (aload tt) (aload_ok tyOK) Tryd.func44 rfl (by kernel_rfl) ?_; simp only [Tryd.ntmps44, List.length_cons, List.length_nil, Nat.reduceAdd, Nat.reduceSub, List.replicate_succ, List.replicate_zero, List.cons_append, List.nil_append])
        (repeat (first | (first | (with_reducible first | refine AX_block ?_ | refine AX_skip ?_ | refine AX_exit ?_ | refine AX_ret ?_ | refine AX_ift ?_ | refine AX_iff ?_ | refine AX_seq_k (fun K hK => ?_) | refine ContX.use (by assumption) ?_) | simp only [thenX, inBlockX, if_true, if_false, reduceCtorEq]) | (first | ((with_reducible refine XOP tyOK ?_); simp (disch := omega) only [go_sem , hs1, hs2, hs3, hs4, hs5, eqRes]; (with_reducible refine XRes_id ?_)) | (with_reducible refine XSK ?_)) | ((with_reducible refine XRes_nil ?_); refine hK _ ?_; clear hK K) | ((with_reducible refine AX_reg0 fun K hK => ?_); simp only [go_sem]) | (first | (refine XRes_nilI rfl (by first | exact .inl rfl | exact .inr rfl) rfl hV (by kernel_rfl) ?_; (simp only [putL, List.set_cons_succ, List.set_cons_zero])) | (first | refine XTL (by rfl) hC ?_ | refine XTL (by rfl) hI ?_) | ((refine XRes_fn (by rfl) hS ?_); (rintro r H' ⟨⟨n, v, rfl, hV⟩, rfl⟩); (simp only [putL, List.set_cons_succ, List.set_cons_zero])))))
        (simp only [bodyX]; refine ⟨_, by simp only [aresults, aresult, XS.as, Tryd.results44, aload, go_sem, Option.bind_some]; rfl, ?_⟩)
        exact ⟨ids_idB rfl, rfl, trivial⟩
      · by_cases h4 : hi < n
        · have e2 : numR l lo hi = (0, 7) := by rw [hz, if_neg (fun h => by omega)]
          rw [e2]
          (refine SF_of_bodyX (aload tt) (aload_ok tyOK) Tryd.func44 rfl (by kernel_rfl) ?_; simp only [Tryd.ntmps44, List.length_cons, List.length_nil, Nat.reduceAdd, Nat.reduceSub, List.replicate_succ, List.replicate_zero, List.cons_append, List.nil_append])
          (repeat (first | (first | (with_reducible first | refine AX_block ?_ | refine AX_skip ?_ | refine AX_exit ?_ | refine AX_ret ?_ | refine AX_ift ?_ | refine AX_iff ?_ | refine AX_seq_k (fun K hK => ?_) | refine ContX.use (by assumption) ?_) | simp only [thenX, inBlockX, if_true, if_false, reduceCtorEq]) | (first | ((with_reducible refine XOP tyOK ?_); simp (disch := omega) only [go_sem , hs1, hs2, hs3, hs4, hs5, eqRes]; (with_reducible refine XRes_id ?_)) | (with_reducible refine XSK ?_)) | ((with_reducible refine XRes_nil ?_); refine hK _ ?_; clear hK K) | ((with_reducible refine AX_reg0 fun K hK => ?_); simp only [go_sem]) | (first | (refine XRes_nilI rfl (by first | exact .inl rfl | exact .inr rfl) rfl hV (by kernel_rfl) ?_; (simp only [putL, List.set_cons_succ, List.set_cons_zero])) | (first | refine XTL (by rfl) hC ?_ | refine XTL (by rfl) hI ?_) | ((refine XRes_fn (by rfl) hS ?_); (rintro r H' ⟨⟨n, v, rfl, hV⟩, rfl⟩); (simp only [putL, List.set_cons_succ, List.set_cons_zero])))))
          (simp only [bodyX]; refine ⟨_, by simp only [aresults, aresult, XS.as, Tryd.results44, aload, go_sem, Option.bind_some]; rfl, ?_⟩)
          exact ⟨ids_idB rfl, rfl, trivial⟩
        · have e2 : numR l lo hi = (n, 0) := by rw [hz, if_pos (by omega)]
          rw [e2]
          (refine SF_of_bodyX (aload tt) (aload_ok tyOK) Tryd.func44 rfl (by kernel_rfl) ?_; simp only [Tryd.ntmps44, List.length_cons, List.length_nil, Nat.reduceAdd, Nat.reduceSub, List.replicate_succ, List.replicate_zero, List.cons_append, List.nil_append])
          (repeat (first | (first | (with_reducible first | refine AX_block ?_ | refine AX_skip ?_ | refine AX_exit ?_ | refine AX_ret ?_ | refine AX_ift ?_ | refine AX_iff ?_ | refine AX_seq_k (fun K hK => ?_) | refine ContX.use (by assumption) ?_) | simp only [thenX, inBlockX, if_true, if_false, reduceCtorEq]) | (first | ((with_reducible refine XOP tyOK ?_); simp (disch := omega) only [go_sem , hs1, hs2, hs3, hs4, hs5, eqRes]; (with_reducible refine XRes_id ?_)) | (with_reducible refine XSK ?_)) | ((with_reducible refine XRes_nil ?_); refine hK _ ?_; clear hK K) | ((with_reducible refine AX_reg0 fun K hK => ?_); simp only [go_sem]) | (first | (refine XRes_nilI rfl (by first | exact .inl rfl | exact .inr rfl) rfl hV (by kernel_rfl) ?_; (simp only [putL, List.set_cons_succ, List.set_cons_zero])) | (first | refine XTL (by rfl) hC ?_ | refine XTL (by rfl) hI ?_) | ((refine XRes_fn (by rfl) hS ?_); (rintro r H' ⟨⟨n, v, rfl, hV⟩, rfl⟩); (simp only [putL, List.set_cons_succ, List.set_cons_zero])))))
          (simp only [bodyX]; refine ⟨_, by simp only [aresults, aresult, XS.as, Tryd.results44, aload, go_sem, Option.bind_some]; rfl, ?_⟩)
          exact ⟨ids_idB rfl, rfl, trivial⟩
    · have hS := pf_AtoiNo hl h1 h2
      have e2 : numR l lo hi = (0, 7) := by rw [hz, if_neg (fun h => h2 ⟨h.1, h.2.1⟩)]
      rw [e2]
      (refine SF_of_bodyX (aload tt) (aload_ok tyOK) Tryd.func44 rfl (by kernel_rfl) ?_; simp only [Tryd.ntmps44, List.length_cons, List.length_nil, Nat.reduceAdd, Nat.reduceSub, List.replicate_succ, List.replicate_zero, List.cons_append, List.nil_append])
      (repeat (first | (first | (with_reducible first | refine AX_block ?_ | refine AX_skip ?_ | refine AX_exit ?_ | refine AX_ret ?_ | refine AX_ift ?_ | refine AX_iff ?_ | refine AX_seq_k (fun K hK => ?_) | refine ContX.use (by assumption) ?_) | simp only [thenX, inBlockX, if_true, if_false, reduceCtorEq]) | (first | ((with_reducible refine XOP tyOK ?_); simp (disch := omega) only [go_sem , hs1, hs2, hs3, hs4, hs5, eqRes]; (with_reducible refine XRes_id ?_)) | (with_reducible refine XSK ?_)) | ((with_reducible refine XRes_nil ?_); refine hK _ ?_; clear hK K) | ((with_reducible refine AX_reg0 fun K hK => ?_); simp only [go_sem]) | (first | (refine XRes_nilI rfl (by first | exact .inl rfl | exact .inr rfl) rfl hV (by kernel_rfl) ?_; (simp only [putL, List.set_cons_succ, List.set_cons_zero])) | (first | refine XTL (by rfl) hC ?_ | refine XTL (by rfl) hI ?_) | ((refine XRes_fn (by rfl) hS ?_); (rintro r H' ⟨⟨n, v, rfl, hV⟩, rfl⟩); (simp only [putL, List.set_cons_succ, List.set_cons_zero])))))
      (simp only [bodyX]; refine ⟨_, by simp only [aresults, aresult, XS.as, Tryd.results44, aload, go_sem, Option.bind_some]; rfl, ?_⟩)
      exact ⟨ids_idB rfl, rfl, trivial⟩
end Go.Proofs.YthgmjboldboclaaDoor
namespace Go.Proofs.YthgmjboldboclaaDoor
open Go.RowKit Go.Lib
set_option linter.unusedSimpArgs false
def litE (V : Int) (c : List Int) (l : List UInt8) : Int :=
  if (numR l (-V) V).2 ≠ 0 then (numR l (-V) V).2 else if (numR l (-V) V).1 = 0 then 0 else if c.length = 1000 then 3 else if (numR l (-V) V).1 ∈ c then 21 else if -(numR l (-V) V).1 ∈ c then 11 else 0
def pRun (V N z : Int) : List Tok3 → List (List Int) → List Int → List (List Int) × Int × Int
  | [], xss, _ => if (xss.length : Int) < N then ([], z, 4) else (xss, z, 0)
  | t :: ts, xss, c =>
    if (xss.length : Int) = N then ([], t.2.1, 6) else if litE V c t.2.2 ≠ 0 then ([], t.2.1, litE V c t.2.2) else
      if (numR t.2.2 (-V) V).1 = 0 then pRun V N z ts (xss ++ [c]) [] else pRun V N z ts xss (c ++ [(numR t.2.2 (-V) V).1])
def clRun (V z : Int) : List Tok3 → List Int → List Int × Int × Int × List Tok3
  | [], c => (c, z, 4, [])
  | t :: ts, c =>
    if litE V c t.2.2 ≠ 0 then (c, t.2.1, litE V c t.2.2, ts) else
      if (numR t.2.2 (-V) V).1 = 0 then (c, t.2.1, 0, ts) else clRun V z ts (c ++ [(numR t.2.2 (-V) V).1])
theorem pRun_cons (V N z : Int) (t : Tok3) (ts : List Tok3) (xss : List (List Int)) (c : List Int) : pRun V N z (t :: ts) xss c = if (xss.length : Int) = N then ([], t.2.1, 6) else if litE V c t.2.2 ≠ 0 then ([], t.2.1, litE V c t.2.2) else
      if (numR t.2.2 (-V) V).1 = 0 then pRun V N z ts (xss ++ [c]) [] else pRun V N z ts xss (c ++ [(numR t.2.2 (-V) V).1]) := by rw [pRun]
theorem clRun_cons (V z : Int) (t : Tok3) (ts : List Tok3) (c : List Int) : clRun V z (t :: ts) c = if litE V c t.2.2 ≠ 0 then (c, t.2.1, litE V c t.2.2, ts) else
      if (numR t.2.2 (-V) V).1 = 0 then (c, t.2.1, 0, ts) else clRun V z ts (c ++ [(numR t.2.2 (-V) V).1]) := by rw [clRun]
theorem pRun_cl (V N z : Int) : ∀ (ts : List Tok3) (xss : List (List Int)) (c : List Int), (xss.length : Int) < N →
    pRun V N z ts xss c = if (clRun V z ts c).2.2.1 ≠ 0 then ([], (clRun V z ts c).2.1, (clRun V z ts c).2.2.1) else pRun V N z (clRun V z ts c).2.2.2 (xss ++ [(clRun V z ts c).1]) []
  | [], xss, c, h => by simp [pRun, clRun, h]
  | t :: ts, xss, c, h => by
    rw [pRun_cons, clRun_cons, if_neg (by omega)]
    by_cases h1 : litE V c t.2.2 ≠ 0
    · rw [if_pos h1, if_pos h1, if_pos (by exact h1)]
    · rw [if_neg h1, if_neg h1]
      by_cases h2 : (numR t.2.2 (-V) V).1 = 0
      · rw [if_pos h2, if_pos h2]; simp
      · rw [if_neg h2, if_neg h2]
        exact pRun_cl V N z ts xss _ h
def hdRd (T : List Tok3) (z : Int) : Rd := rdTake T z (numE4 1) (rdTake T z (numE4 0) (rdTake T z (wordE4 [99, 110, 102]) (rdTake T z (wordE4 [112]) (0, 0, 0))))
where
  numE4 (i : Nat) (l : List UInt8) : Int := (numR l 0 (if i = 0 then 100000 else 1000000)).2
  wordE4 (x l : List UInt8) : Int := if l = x then 0 else 8
end Go.Proofs.YthgmjboldboclaaDoor
