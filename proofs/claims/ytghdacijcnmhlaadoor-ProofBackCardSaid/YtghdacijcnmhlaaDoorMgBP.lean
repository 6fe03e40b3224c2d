import Derived.Test.YtghdacijcnmhlaaDoorMgBO
import Derived.Test.YtghdacijcnmhlaaDoorMgBD
import Derived.Test.YtghdacijcnmhlaaDoorMgAX
import Derived.Deep.Fields
namespace Go.Proofs.YtghdacijcnmhlaaDoor
open Go.RowKit Go.Lib
set_option linter.unusedVariables false
set_option linter.unusedSimpArgs false
theorem dw_headN : ∀ l : List Int, l.dropWhile nn = [] ∨ (l.dropWhile nn).getD 0 0 < 0
  | [] => .inl rfl
  | x :: l => by
    rw [List.dropWhile_cons]
    by_cases h : nn x = true
    · rw [if_pos h]; exact dw_headN l
    · rw [if_neg h]
      refine .inr ?_
      show x < 0
      have : ¬ 0 ≤ x := fun h2 => h (decide_eq_true h2)
      omega
theorem rowsOf_neg : ∀ (n : Nat) (l : List Int), l.length ≤ n → (l = [] ∨ l.getD 0 0 < 0) → ∀ r ∈ rowsOf l, r.length ≠ 0 ∧ r.getD 0 0 < 0
  | n, [], _, _ => by rw [rowsOf_nil]; simp
  | 0, x :: l, h, _ => by simp at h
  | n + 1, x :: l, h, hn => by
    rw [rowsOf_cons]
    have h1 := (List.dropWhile_sublist nn (l := l)).length_le
    rw [List.length_cons] at h
    intro r hr
    rcases List.mem_cons.1 hr with rfl | hr
    · exact ⟨by simp, by rcases hn with hn | hn; cases hn; exact hn⟩
    · exact rowsOf_neg n _ (by omega) (dw_headN l) r hr
theorem spR_neg {h : List Int} {k : Nat} (hk : k < (spR h).length) : ((spR h).getD k []).length ≠ 0 ∧ ((spR h).getD k []).getD 0 0 < 0 := by
  rw [List.getD_eq_getElem?_getD, List.getElem?_eq_getElem hk]
  exact rowsOf_neg _ (h.dropWhile nn) (Nat.le_refl _) (dw_headN h) _ (List.getElem_mem hk)
theorem rowsOf_join : ∀ (n : Nat) (l : List Int), l.length ≤ n → (rowsOf l).flatten = l
  | n, [], _ => by rw [rowsOf_nil]; rfl
  | 0, x :: l, h => by simp at h
  | n + 1, x :: l, h => by
    have h1 := (List.dropWhile_sublist nn (l := l)).length_le
    rw [List.length_cons] at h
    rw [rowsOf_cons, List.flatten_cons, rowsOf_join n _ (by omega), List.cons_append, List.takeWhile_append_dropWhile]
theorem sp_join (h : List Int) : spA h ++ (spR h).flatten = h := by
  unfold spA spR; rw [rowsOf_join _ _ (Nat.le_refl _), List.takeWhile_append_dropWhile]
theorem flat_snoc {R : List (List Int)} {k : Nat} (hk : k < R.length) : (R.take (k + 1)).flatten = (R.take k).flatten ++ R.getD k [] := by
  rw [List.take_add_one, List.getElem?_eq_getElem hk, List.getD_eq_getElem?_getD, List.getElem?_eq_getElem hk, Option.toList_some, List.flatten_append]
  simp
theorem flat_takeLe (R : List (List Int)) (k : Nat) : ((R.take k).flatten).length ≤ R.flatten.length := by
  have e : R.flatten = (R.take k).flatten ++ (R.drop k).flatten := by rw [← List.flatten_append, List.take_append_drop]
  rw [e, List.length_append]; omega
theorem rangeI (xs : List Int) : (List.range xs.length).map (fun j => AV.iv (IV.lit (Value.int IntKind.i64 (xs.getD j 0)))) = xs.map lint := by
  rw [range_takeI (Nat.le_refl _), List.take_length]
theorem prp_backP {xs : List Stp} (ho : ∀ s ∈ xs, stOk s) (hl : xs.length ≤ 100000) (hb : (pfB xs).length ≤ 1000000) : PF Tryd.prog 8 [lt (.string (ba (pfB xs)))] fun r H' => r = .tup [.iv (iSts xs), lt (.int .i64 ((pfB xs).length : Int)), lt (.int .i64 0)] ∧ H' = [] := by
  have hn := lnsT_pfB xs 1 0
  rw [List.length_map] at hn
  have h := pf_prParse (pfB xs) hb (lnsT_ok10 hb (by omega))
  rw [prp_back ho] at h; exact h
theorem Wc6d9a {A B : Prop} (h9 : B) (w : B → A := by (intro h9; (repeat intro K hK); refine ⟨?_⟩; (repeat (first | (first | (with_reducible first | refine AX_block ?_ | refine AX_skip ?_ | refine AX_exit ?_ | refine AX_ret ?_ | refine AX_ift ?_ | refine AX_iff ?_ | refine AX_seq_k (fun K hK => ?_) | refine ContX.use (by assumption) ?_) | simp only [thenX, inBlockX, if_true, if_false, reduceCtorEq]) | (first | ((first | (with_reducible refine XRes_op tyOK ?_ ?_) | ((with_reducible first | refine ADF_op tyOK ?_ ?_ ?_ | refine ADX_op tyOK ?_ ?_ ?_); (focus rfl)) | (with_reducible refine ADR_alloc1 tyOK ?_ ?_) | ((with_reducible refine ADR_free1 tyOK ?_ ?_ ?_); (focus rfl)) | ((with_reducible refine ADR_free0 tyOK ?_ ?_ ?_); (focus rfl)) | ((with_reducible refine ADR_read1 tyOK ?_ ?_ ?_); (focus rfl)) | (with_reducible refine ADR_chg1 tyOK ?_ ?_)); (focus (first | (with_reducible rfl) | ((simp (disch := omega) only [go_sem]); done))); simp (disch := omega) only [go_sem , hs1, hs2, hs3, hs4, hs5, hs6, hs7, hs8, hs9, stG_0, stG_1, stG_2, stG_3, iInts, rangeI, Int.toNat_zero, Int.toNat_one, Int.toNat_natCast, List.length_nil, ba_size, ba_app, beq_self_eq_true, bne_self_eq_false, List.length_map, Nat.reduceEqDiff, List.nil_append, List.map_nil]; (first | (with_reducible refine XRes_id ?_) | (with_reducible refine ADF_id ?_) | (with_reducible refine ADR_id1 ?_) | (with_reducible refine ADX_id ?_))) | ((first | (with_reducible refine XRes_skip ?_ ?_) | (with_reducible refine ADF_skip (b := true) ?_ ?_) | (with_reducible refine ADX_skip ?_ ?_) | ((with_reducible refine ADR_skip1 ?_ ?_ ?_); (focus rfl))); (focus (first | rfl | ((simp (disch := omega) only [go_sem]); done))); (simp only [putL, List.set_cons_succ, List.set_cons_zero]))) | ((first | (with_reducible refine XRes_nil ?_) | (with_reducible refine ADF_nil ?_) | (with_reducible refine ADR_nil ?_) | (with_reducible refine ADX_nil ?_)); (first | refine hK _ ?_ | refine hK _ _ ?_); clear hK K) | (first | (first | refine XTL (by rfl) hAw ?_ | refine ATL tyOK (by rfl) hAw ?_ | refine XTL (by rfl) hF1 ?_ | refine ATL tyOK (by rfl) hF1 ?_ | refine XTL (by rfl) hT1 ?_ | refine ATL tyOK (by rfl) hT1 ?_ | refine XTL (by rfl) hP1 ?_ | refine ATL tyOK (by rfl) hP1 ?_ | refine XTL (by rfl) hS1 ?_ | refine ATL tyOK (by rfl) hS1 ?_ | refine XTL (by rfl) hD1 ?_ | refine ATL tyOK (by rfl) hD1 ?_ | refine XTL (by rfl) hP2 ?_ | refine ATL tyOK (by rfl) hP2 ?_ | refine XTL (by rfl) hT2 ?_ | refine ATL tyOK (by rfl) hT2 ?_ | refine XTL (by rfl) hP3 ?_ | refine ATL tyOK (by rfl) hP3 ?_ | refine XTL (by rfl) hS2 ?_ | refine ATL tyOK (by rfl) hS2 ?_) | ((refine XRes_say rfl hI1 (SnapL.cons (snap_i rfl rfl) (SnapL.cons (.same _ (.iv _)) (SnapL.nil _))) ?_); (simp only [putL, List.set_cons_succ, List.set_cons_zero]))) | ((with_reducible refine AX_reg0 fun K hK => ?_); simp only [go_sem]))); refine Wk.o ?_; (repeat revert hK K); exact h9)) : A := w h9
set_option maxRecDepth 100000 in
set_option maxHeartbeats 16000000 in
theorem pf_back0 (xs : List Stp) (l : List UInt8) (h : List Int) (f1 : fewP xs) (hF1 : PF Tryd.prog 11 [.iv (iSts xs)] fun r H' => r = lt (.bool true) ∧ H' = []) (hl : l.length ≤ 3000) (hhl : h.length ≤ 200) (hc0 : ckE xs = 0) : PF Tryd.prog 5 [.iv (iSts xs), lt (.string (ba l)), .iv (iInts h)] fun r H' => r = lt (.bool true) ∧ H' = [] := by
  refine SF.forgetAll ?_
  have hF0 := hF1
  have hs1 := trivial; have hs2 := trivial; have hs3 := trivial; have hs4 := trivial; have hs5 := trivial; have hs6 := trivial; have hs7 := trivial; have hs8 := trivial; have hs9 := trivial; have hAw := trivial; have hF1 := trivial; have hT1 := trivial; have hP1 := trivial; have hS1 := trivial; have hD1 := trivial; have hP2 := trivial; have hT2 := trivial; have hP3 := trivial; have hS2 := trivial; have hI1 := trivial
  have hF1 := hF0
  clear hF0
  have hAw := pf_awake10
  have hs1 : decide ((3000 : Int) < (l.length : Int)) = false := decide_eq_false (by omega)
  have hs2 : decide ((200 : Int) < (h.length : Int)) = false := decide_eq_false (by omega)
  have l1 := fewP_len f1
  have hb : ckE xs = 0 → (pfB xs).length ≤ 1000000 := fun h => by have := fewP_txt f1 (ckE_zero.1 h); omega
  have hT1 := pf_prPrint xs l1 hb
  have hP1 : ckE xs = 0 → _ := fun h => prp_backP (ckE_zero.1 h) (by have := f1.1; omega) (hb h)
  have hS1 := pf_rpSame xs xs l1 l1
  rw [decide_eq_true (rfl : xs = xs)] at hS1
  have hD1 := pf_prSplit h (by omega)
  have hneg := fun k hk => @spR_neg h k hk
  have hj := sp_join h
  have hRl := (spR_len h).2
  have hRn := (spR_len h).1
  have hal := spA_len h
  generalize spA h = a at *
  generalize spR h = R at *
  have hI1 := q10_I h (by omega)
  have hok := lnsT_okS (l := l) (by omega)
  have hP2 := pf_prParse l (by omega) hok
  have ql := prp_len (l := l) (by omega)
  have hS2 := pf_rpSame (prp l).1 (prp l).1 ql ql
  rw [decide_eq_true (rfl : (prp l).1 = (prp l).1)] at hS2
  have hq : (prp l).2.2 = 0 → PF Tryd.prog 14 [.iv (iSts (prp l).1)] (fun r H' => r = .tup [lt (.string (ba (pfB (prp l).1))), lt (.int .i64 0)] ∧ H' = []) ∧ PF Tryd.prog 8 [lt (.string (ba (pfB (prp l).1)))] fun r H' => r = .tup [.iv (iSts (prp l).1), lt (.int .i64 ((pfB (prp l).1).length : Int)), lt (.int .i64 0)] ∧ H' = [] := fun _ => by
    have hg := (prp_good l).1
    have ht := prp_txt (l := l)
    have h1 := pf_prPrint (prp l).1 ql (fun _ => by omega)
    unfold prT at h1
    rw [(ck_ok hg).2, if_pos rfl] at h1
    exact ⟨h1, prp_backP hg (by have := (prp_good l).2.1; have := hok.len; omega) (by omega)⟩
  generalize hqq : prp l = q at *
  generalize pfB q.1 = tQ at *
  have hIh : iInts h = .sl (fun j => .lit (.int .i64 (h.getD j 0))) h.length 1 := rfl
  have hIa : iInts a = .sl (fun j => .lit (.int .i64 (a.getD j 0))) a.length 1 := rfl
  have hIR : iRows R = .sl (fun j => iInts (R.getD j [])) R.length 1 := rfl
  rw [hIh] at hD1
  rw [hIa, hIR] at hD1
  rw [hIh]
  unfold iSts at *
  have hP1 := hP1 hc0
  have hTe : prT xs = pfB xs := if_pos hc0
  rw [hTe, hc0] at hT1
  generalize pfB xs = tX at *
  (refine SF_of_bodyX (aload tt) (aload_ok tyOK) Tryd.func5 rfl (by kernel_rfl) ?_; simp only [Tryd.ntmps5, List.length_cons, List.length_nil, Nat.reduceAdd, Nat.reduceSub, List.replicate_succ, List.replicate_zero, List.cons_append, List.nil_append])
  (refine Wk.o ?_; (repeat revert hK K); refine Wc6d9a ?_; (repeat intro K hK); refine ⟨?_⟩)
  refine AX_ren [1] [70, 72] ?fr2 [some ⟨3, a.map lint⟩] (by decide) (by decide) (by (simp (disch := omega) only [go_sem, lint , hs1, hs2, hs3, hs4, hs5, hs6, hs7, hs8, hs9, stG_0, stG_1, stG_2, stG_3, iInts, rangeI, Int.toNat_zero, Int.toNat_one, Int.toNat_natCast, List.length_nil, ba_size, ba_app, beq_self_eq_true, bne_self_eq_false, List.length_map, Nat.reduceEqDiff, List.nil_append, List.map_nil])) (by (simp (disch := omega) only [go_sem, lint , hs1, hs2, hs3, hs4, hs5, hs6, hs7, hs8, hs9, stG_0, stG_1, stG_2, stG_3, iInts, rangeI, Int.toNat_zero, Int.toNat_one, Int.toNat_natCast, List.length_nil, ba_size, ba_app, beq_self_eq_true, bne_self_eq_false, List.length_map, Nat.reduceEqDiff, List.nil_append, List.map_nil])) (by (simp (disch := omega) only [go_sem, lint , hs1, hs2, hs3, hs4, hs5, hs6, hs7, hs8, hs9, stG_0, stG_1, stG_2, stG_3, iInts, rangeI, Int.toNat_zero, Int.toNat_one, Int.toNat_natCast, List.length_nil, ba_size, ba_app, beq_self_eq_true, bne_self_eq_false, List.length_map, Nat.reduceEqDiff, List.nil_append, List.map_nil])) ?hfr (fun d2 => ?_)
  case hfr =>
    (simp (disch := omega) only [go_sem, lint , hs1, hs2, hs3, hs4, hs5, hs6, hs7, hs8, hs9, stG_0, stG_1, stG_2, stG_3, iInts, rangeI, Int.toNat_zero, Int.toNat_one, Int.toNat_natCast, List.length_nil, ba_size, ba_app, beq_self_eq_true, bne_self_eq_false, List.length_map, Nat.reduceEqDiff, List.nil_append, List.map_nil])
    rfl
  simp only [deadS, List.set_cons_succ, List.set_cons_zero]
  (refine AWH (σ := Nat × List Int) [73, 74, 75, 76, 79, 80, 81, 82, 83, 84, 85, 86, 87, 88, 89, 90, 91, 92, 93, 6, 94, 95, 96, 97, 98, 99, 77, 78] (fun (k, c) => [(15, lint k), (14, .osl 0 0 c.length 1)]) (fun (k, c) => [some ⟨3, c.map lint⟩]) (fun (k, c) => []) (fun (k, c) => k ≤ R.length ∧ c = a ++ (R.take k).flatten) (fun (k, c) => R.length - k) (0, a) (by first | exact ⟨Nat.zero_le _, by simp⟩) ?_; rintro ⟨k, c⟩ d fr hfr ⟨hk, hc⟩; simp only [updS, deadS, List.set_cons_succ, List.set_cons_zero, lint] at hfr; subst hfr; (try dsimp only))
  have hcl : c.length ≤ 200 := by
    rw [hc, List.length_append]
    have h1 := congrArg List.length hj
    rw [List.length_append] at h1
    have := flat_takeLe R k
    omega
  by_cases hlt : k < R.length
  · have hs3 : decide ((k : Int) < (R.length : Int)) = true := decide_eq_true (by omega)
    obtain ⟨n1, n2⟩ := hneg k hlt
    have hs4 : (((R.getD k []).length : Int) == 0) = false := by rw [beq_eq_false_iff_ne]; omega
    have hs5 : decide (0 ≤ (R.getD k []).getD 0 0) = false := decide_eq_false (by omega)
    have hs8 : c.map lint ++ (R.getD k []).map lint = (c ++ R.getD k []).map lint := by rw [List.map_append]
    have hs9 : (c ++ R.getD k []).length = c.length + (R.getD k []).length := List.length_append
    have hrl := hRl k
    have hfs := flat_snoc hlt
    (refine Wk.o ?_; (repeat revert hK K); refine Wc6d9a ?_; (repeat intro K hK); refine ⟨?_⟩)
    exact whx_ren [1] (k + 1, c ++ R.getD k []) ⟨by (dsimp only; omega), by (dsimp only; rw [hfs, hc, List.append_assoc])⟩ (by (first | omega | (dsimp only; omega) | (simp only; omega))) rfl (by decide) (by decide) (by (simp (disch := omega) only [go_sem, lint , hs1, hs2, hs3, hs4, hs5, hs6, hs7, hs8, hs9, stG_0, stG_1, stG_2, stG_3, iInts, rangeI, Int.toNat_zero, Int.toNat_one, Int.toNat_natCast, List.length_nil, ba_size, ba_app, beq_self_eq_true, bne_self_eq_false, List.length_map, Nat.reduceEqDiff, List.nil_append, List.map_nil])) (by (simp (disch := omega) only [go_sem, lint , hs1, hs2, hs3, hs4, hs5, hs6, hs7, hs8, hs9, stG_0, stG_1, stG_2, stG_3, iInts, rangeI, Int.toNat_zero, Int.toNat_one, Int.toNat_natCast, List.length_nil, ba_size, ba_app, beq_self_eq_true, bne_self_eq_false, List.length_map, Nat.reduceEqDiff, List.nil_append, List.map_nil])) (by (simp (disch := omega) only [go_sem, lint , hs1, hs2, hs3, hs4, hs5, hs6, hs7, hs8, hs9, stG_0, stG_1, stG_2, stG_3, iInts, rangeI, Int.toNat_zero, Int.toNat_one, Int.toNat_natCast, List.length_nil, ba_size, ba_app, beq_self_eq_true, bne_self_eq_false, List.length_map, Nat.reduceEqDiff, List.nil_append, List.map_nil])) (fun d => by (simp (disch := omega) only [go_sem, lint , hs1, hs2, hs3, hs4, hs5, hs6, hs7, hs8, hs9, stG_0, stG_1, stG_2, stG_3, iInts, rangeI, Int.toNat_zero, Int.toNat_one, Int.toNat_natCast, List.length_nil, ba_size, ba_app, beq_self_eq_true, bne_self_eq_false, List.length_map, Nat.reduceEqDiff, List.nil_append, List.map_nil]))
  · have hs3 : decide ((k : Int) < (R.length : Int)) = false := decide_eq_false (by omega)
    have hch : c = h := by rw [hc, List.take_of_length_le (by omega), hj]
    subst hch
    by_cases hq0 : q.2.2 = 0
    · have hs6 : (q.2.2 == 0) = true := by simpa using hq0
      obtain ⟨hT2, hP3⟩ := hq hq0
      (refine Wk.o ?_; (repeat revert hK K); refine Wc6d9a ?_; (repeat intro K hK); refine ⟨?_⟩)
      (simp only [bodyX]; refine ⟨_, by simp only [aresults, aresult, XS.as, Tryd.results5, aload, go_sem, Option.bind_some]; rfl, ?_⟩)
      exact ⟨ids_idB rfl, rfl, trivial⟩
    · have hs6 : (q.2.2 == 0) = false := by simpa using hq0
      (refine Wk.o ?_; (repeat revert hK K); refine Wc6d9a ?_; (repeat intro K hK); refine ⟨?_⟩)
      (simp only [bodyX]; refine ⟨_, by simp only [aresults, aresult, XS.as, Tryd.results5, aload, go_sem, Option.bind_some]; rfl, ?_⟩)
      exact ⟨ids_idB rfl, rfl, trivial⟩
set_option maxRecDepth 100000 in
set_option maxHeartbeats 16000000 in
theorem pf_back1 (xs : List Stp) (l : List UInt8) (h : List Int) (f1 : fewP xs) (hF1 : PF Tryd.prog 11 [.iv (iSts xs)] fun r H' => r = lt (.bool true) ∧ H' = []) (hl : l.length ≤ 3000) (hhl : h.length ≤ 200) (hc0 : ¬ ckE xs = 0) : PF Tryd.prog 5 [.iv (iSts xs), lt (.string (ba l)), .iv (iInts h)] fun r H' => r = lt (.bool true) ∧ H' = [] := by
  refine SF.forgetAll ?_
  have hF0 := hF1
  have hs1 := trivial; have hs2 := trivial; have hs3 := trivial; have hs4 := trivial; have hs5 := trivial; have hs6 := trivial; have hs7 := trivial; have hs8 := trivial; have hs9 := trivial; have hAw := trivial; have hF1 := trivial; have hT1 := trivial; have hP1 := trivial; have hS1 := trivial; have hD1 := trivial; have hP2 := trivial; have hT2 := trivial; have hP3 := trivial; have hS2 := trivial; have hI1 := trivial
  have hF1 := hF0
  clear hF0
  have hAw := pf_awake10
  have hs1 : decide ((3000 : Int) < (l.length : Int)) = false := decide_eq_false (by omega)
  have hs2 : decide ((200 : Int) < (h.length : Int)) = false := decide_eq_false (by omega)
  have l1 := fewP_len f1
  have hb : ckE xs = 0 → (pfB xs).length ≤ 1000000 := fun h => by have := fewP_txt f1 (ckE_zero.1 h); omega
  have hT1 := pf_prPrint xs l1 hb
  have hP1 : ckE xs = 0 → _ := fun h => prp_backP (ckE_zero.1 h) (by have := f1.1; omega) (hb h)
  have hS1 := pf_rpSame xs xs l1 l1
  rw [decide_eq_true (rfl : xs = xs)] at hS1
  have hD1 := pf_prSplit h (by omega)
  have hneg := fun k hk => @spR_neg h k hk
  have hj := sp_join h
  have hRl := (spR_len h).2
  have hRn := (spR_len h).1
  have hal := spA_len h
  generalize spA h = a at *
  generalize spR h = R at *
  have hI1 := q10_I h (by omega)
  have hok := lnsT_okS (l := l) (by omega)
  have hP2 := pf_prParse l (by omega) hok
  have ql := prp_len (l := l) (by omega)
  have hS2 := pf_rpSame (prp l).1 (prp l).1 ql ql
  rw [decide_eq_true (rfl : (prp l).1 = (prp l).1)] at hS2
  have hq : (prp l).2.2 = 0 → PF Tryd.prog 14 [.iv (iSts (prp l).1)] (fun r H' => r = .tup [lt (.string (ba (pfB (prp l).1))), lt (.int .i64 0)] ∧ H' = []) ∧ PF Tryd.prog 8 [lt (.string (ba (pfB (prp l).1)))] fun r H' => r = .tup [.iv (iSts (prp l).1), lt (.int .i64 ((pfB (prp l).1).length : Int)), lt (.int .i64 0)] ∧ H' = [] := fun _ => by
    have hg := (prp_good l).1
    have ht := prp_txt (l := l)
    have h1 := pf_prPrint (prp l).1 ql (fun _ => by omega)
    unfold prT at h1
    rw [(ck_ok hg).2, if_pos rfl] at h1
    exact ⟨h1, prp_backP hg (by have := (prp_good l).2.1; have := hok.len; omega) (by omega)⟩
  generalize hqq : prp l = q at *
  generalize pfB q.1 = tQ at *
  have hIh : iInts h = .sl (fun j => .lit (.int .i64 (h.getD j 0))) h.length 1 := rfl
  have hIa : iInts a = .sl (fun j => .lit (.int .i64 (a.getD j 0))) a.length 1 := rfl
  have hIR : iRows R = .sl (fun j => iInts (R.getD j [])) R.length 1 := rfl
  rw [hIh] at hD1
  rw [hIa, hIR] at hD1
  rw [hIh]
  unfold iSts at *
  have hs7 : (ckE xs == 0) = false := by simpa using hc0
  clear hP1
  have hP1 := trivial
  generalize ckE xs = eX at *
  generalize prT xs = tX at *
  (refine SF_of_bodyX (aload tt) (aload_ok tyOK) Tryd.func5 rfl (by kernel_rfl) ?_; simp only [Tryd.ntmps5, List.length_cons, List.length_nil, Nat.reduceAdd, Nat.reduceSub, List.replicate_succ, List.replicate_zero, List.cons_append, List.nil_append])
  (refine Wk.o ?_; (repeat revert hK K); refine Wc6d9a ?_; (repeat intro K hK); refine ⟨?_⟩)
  refine AX_ren [1] [70, 72] ?fr2 [some ⟨3, a.map lint⟩] (by decide) (by decide) (by (simp (disch := omega) only [go_sem, lint , hs1, hs2, hs3, hs4, hs5, hs6, hs7, hs8, hs9, stG_0, stG_1, stG_2, stG_3, iInts, rangeI, Int.toNat_zero, Int.toNat_one, Int.toNat_natCast, List.length_nil, ba_size, ba_app, beq_self_eq_true, bne_self_eq_false, List.length_map, Nat.reduceEqDiff, List.nil_append, List.map_nil])) (by (simp (disch := omega) only [go_sem, lint , hs1, hs2, hs3, hs4, hs5, hs6, hs7, hs8, hs9, stG_0, stG_1, stG_2, stG_3, iInts, rangeI, Int.toNat_zero, Int.toNat_one, Int.toNat_natCast, List.length_nil, ba_size, ba_app, beq_self_eq_true, bne_self_eq_false, List.length_map, Nat.reduceEqDiff, List.nil_append, List.map_nil])) (by (simp (disch := omega) only [go_sem, lint , hs1, hs2, hs3, hs4, hs5, hs6, hs7, hs8, hs9, stG_0, stG_1, stG_2, stG_3, iInts, rangeI, Int.toNat_zero, Int.toNat_one, Int.toNat_natCast, List.length_nil, ba_size, ba_app, beq_self_eq_true, bne_self_eq_false, List.length_map, Nat.reduceEqDiff, List.nil_append, List.map_nil])) ?hfr (fun d2 => ?_)
  case hfr =>
    (simp (disch := omega) only [go_sem, lint , hs1, hs2, hs3, hs4, hs5, hs6, hs7, hs8, hs9, stG_0, stG_1, stG_2, stG_3, iInts, rangeI, Int.toNat_zero, Int.toNat_one, Int.toNat_natCast, List.length_nil, ba_size, ba_app, beq_self_eq_true, bne_self_eq_false, List.length_map, Nat.reduceEqDiff, List.nil_append, List.map_nil])
    rfl
  simp only [deadS, List.set_cons_succ, List.set_cons_zero]
  (refine AWH (σ := Nat × List Int) [73, 74, 75, 76, 79, 80, 81, 82, 83, 84, 85, 86, 87, 88, 89, 90, 91, 92, 93, 6, 94, 95, 96, 97, 98, 99, 77, 78] (fun (k, c) => [(15, lint k), (14, .osl 0 0 c.length 1)]) (fun (k, c) => [some ⟨3, c.map lint⟩]) (fun (k, c) => []) (fun (k, c) => k ≤ R.length ∧ c = a ++ (R.take k).flatten) (fun (k, c) => R.length - k) (0, a) (by first | exact ⟨Nat.zero_le _, by simp⟩) ?_; rintro ⟨k, c⟩ d fr hfr ⟨hk, hc⟩; simp only [updS, deadS, List.set_cons_succ, List.set_cons_zero, lint] at hfr; subst hfr; (try dsimp only))
  have hcl : c.length ≤ 200 := by
    rw [hc, List.length_append]
    have h1 := congrArg List.length hj
    rw [List.length_append] at h1
    have := flat_takeLe R k
    omega
  by_cases hlt : k < R.length
  · have hs3 : decide ((k : Int) < (R.length : Int)) = true := decide_eq_true (by omega)
    obtain ⟨n1, n2⟩ := hneg k hlt
    have hs4 : (((R.getD k []).length : Int) == 0) = false := by rw [beq_eq_false_iff_ne]; omega
    have hs5 : decide (0 ≤ (R.getD k []).getD 0 0) = false := decide_eq_false (by omega)
    have hs8 : c.map lint ++ (R.getD k []).map lint = (c ++ R.getD k []).map lint := by rw [List.map_append]
    have hs9 : (c ++ R.getD k []).length = c.length + (R.getD k []).length := List.length_append
    have hrl := hRl k
    have hfs := flat_snoc hlt
    (refine Wk.o ?_; (repeat revert hK K); refine Wc6d9a ?_; (repeat intro K hK); refine ⟨?_⟩)
    exact whx_ren [1] (k + 1, c ++ R.getD k []) ⟨by (dsimp only; omega), by (dsimp only; rw [hfs, hc, List.append_assoc])⟩ (by (first | omega | (dsimp only; omega) | (simp only; omega))) rfl (by decide) (by decide) (by (simp (disch := omega) only [go_sem, lint , hs1, hs2, hs3, hs4, hs5, hs6, hs7, hs8, hs9, stG_0, stG_1, stG_2, stG_3, iInts, rangeI, Int.toNat_zero, Int.toNat_one, Int.toNat_natCast, List.length_nil, ba_size, ba_app, beq_self_eq_true, bne_self_eq_false, List.length_map, Nat.reduceEqDiff, List.nil_append, List.map_nil])) (by (simp (disch := omega) only [go_sem, lint , hs1, hs2, hs3, hs4, hs5, hs6, hs7, hs8, hs9, stG_0, stG_1, stG_2, stG_3, iInts, rangeI, Int.toNat_zero, Int.toNat_one, Int.toNat_natCast, List.length_nil, ba_size, ba_app, beq_self_eq_true, bne_self_eq_false, List.length_map, Nat.reduceEqDiff, List.nil_append, List.map_nil])) (by (simp (disch := omega) only [go_sem, lint , hs1, hs2, hs3, hs4, hs5, hs6, hs7, hs8, hs9, stG_0, stG_1, stG_2, stG_3, iInts, rangeI, Int.toNat_zero, Int.toNat_one, Int.toNat_natCast, List.length_nil, ba_size, ba_app, beq_self_eq_true, bne_self_eq_false, List.length_map, Nat.reduceEqDiff, List.nil_append, List.map_nil])) (fun d => by (simp (disch := omega) only [go_sem, lint , hs1, hs2, hs3, hs4, hs5, hs6, hs7, hs8, hs9, stG_0, stG_1, stG_2, stG_3, iInts, rangeI, Int.toNat_zero, Int.toNat_one, Int.toNat_natCast, List.length_nil, ba_size, ba_app, beq_self_eq_true, bne_self_eq_false, List.length_map, Nat.reduceEqDiff, List.nil_append, List.map_nil]))
  · have hs3 : decide ((k : Int) < (R.length : Int)) = false := decide_eq_false (by omega)
    have hch : c = h := by rw [hc, List.take_of_length_le (by omega), hj]
    subst hch
    by_cases hq0 : q.2.2 = 0
    · have hs6 : (q.2.2 == 0) = true := by simpa using hq0
      obtain ⟨hT2, hP3⟩ := hq hq0
      (refine Wk.o ?_; (repeat revert hK K); refine Wc6d9a ?_; (repeat intro K hK); refine ⟨?_⟩)
      (simp only [bodyX]; refine ⟨_, by simp only [aresults, aresult, XS.as, Tryd.results5, aload, go_sem, Option.bind_some]; rfl, ?_⟩)
      exact ⟨ids_idB rfl, rfl, trivial⟩
    · have hs6 : (q.2.2 == 0) = false := by simpa using hq0
      (refine Wk.o ?_; (repeat revert hK K); refine Wc6d9a ?_; (repeat intro K hK); refine ⟨?_⟩)
      (simp only [bodyX]; refine ⟨_, by simp only [aresults, aresult, XS.as, Tryd.results5, aload, go_sem, Option.bind_some]; rfl, ?_⟩)
      exact ⟨ids_idB rfl, rfl, trivial⟩
set_option maxRecDepth 100000 in
set_option maxHeartbeats 16000000 in
theorem pf_ProofBack (xs : List Stp) (s : ByteArray) (h : List Int) (hx : StMax xs) (hsz : s.size ≤ maxLen) (hh : h.length ≤ maxLen) : PF Tryd.prog 5 [.iv (iSts xs), lt (.string s), .iv (iInts h)] fun r H' => r = lt (.bool true) ∧ H' = [] := by
  refine SF.forgetAll ?_
  have hs1 := trivial; have hs2 := trivial; have hs3 := trivial; have hs4 := trivial; have hs5 := trivial; have hs6 := trivial; have hs7 := trivial; have hs8 := trivial; have hs9 := trivial; have hAw := trivial; have hF1 := trivial; have hT1 := trivial; have hP1 := trivial; have hS1 := trivial; have hD1 := trivial; have hP2 := trivial; have hT2 := trivial; have hP3 := trivial; have hS2 := trivial; have hI1 := trivial
  have hAw := pf_awake10
  unfold maxLen at hh hsz
  obtain ⟨b1, e1, hF1⟩ := pf_few10b xs hx
  cases b1 with
  | false =>
    unfold iSts iInts at *
    (refine SF_of_bodyX (aload tt) (aload_ok tyOK) Tryd.func5 rfl (by kernel_rfl) ?_; simp only [Tryd.ntmps5, List.length_cons, List.length_nil, Nat.reduceAdd, Nat.reduceSub, List.replicate_succ, List.replicate_zero, List.cons_append, List.nil_append])
    (refine Wk.o ?_; (repeat revert hK K); refine Wc6d9a ?_; (repeat intro K hK); refine ⟨?_⟩)
    (simp only [bodyX]; refine ⟨_, by simp only [aresults, aresult, XS.as, Tryd.results5, aload, go_sem, Option.bind_some]; rfl, ?_⟩)
    exact ⟨ids_idB rfl, rfl, trivial⟩
  | true =>
    have f1 := e1.1 rfl
    by_cases h3 : s.size ≤ 3000
    · have hs1 : decide ((3000 : Int) < (s.size : Int)) = false := decide_eq_false (by omega)
      obtain ⟨l, rfl⟩ : ∃ l, s = ba l := ⟨s.data.toList, by apply ByteArray.ext; unfold ba; simp⟩
      have hl : l.length ≤ 3000 := by rwa [ba_size] at h3
      rw [ba_size] at hs1
      by_cases hhl : h.length ≤ 200
      · have hs2 : decide ((200 : Int) < (h.length : Int)) = false := decide_eq_false (by omega)
        by_cases hc0 : ckE xs = 0
        · exact (pf_back0 xs l h f1 hF1 hl hhl hc0).mono fun r H1 e => ⟨by rw [e.1]; exact ids_idB rfl, e.1, rfl⟩
        · exact (pf_back1 xs l h f1 hF1 hl hhl hc0).mono fun r H1 e => ⟨by rw [e.1]; exact ids_idB rfl, e.1, rfl⟩
      · have hs2 : decide ((200 : Int) < (h.length : Int)) = true := decide_eq_true (by omega)
        unfold iSts iInts at *
        (refine SF_of_bodyX (aload tt) (aload_ok tyOK) Tryd.func5 rfl (by kernel_rfl) ?_; simp only [Tryd.ntmps5, List.length_cons, List.length_nil, Nat.reduceAdd, Nat.reduceSub, List.replicate_succ, List.replicate_zero, List.cons_append, List.nil_append])
        (refine Wk.o ?_; (repeat revert hK K); refine Wc6d9a ?_; (repeat intro K hK); refine ⟨?_⟩)
        (simp only [bodyX]; refine ⟨_, by simp only [aresults, aresult, XS.as, Tryd.results5, aload, go_sem, Option.bind_some]; rfl, ?_⟩)
        exact ⟨ids_idB rfl, rfl, trivial⟩
    · have hs1 : decide ((3000 : Int) < (s.size : Int)) = true := decide_eq_true (by omega)
      unfold iSts iInts at *
      (refine SF_of_bodyX (aload tt) (aload_ok tyOK) Tryd.func5 rfl (by kernel_rfl) ?_; simp only [Tryd.ntmps5, List.length_cons, List.length_nil, Nat.reduceAdd, Nat.reduceSub, List.replicate_succ, List.replicate_zero, List.cons_append, List.nil_append])
      (refine Wk.o ?_; (repeat revert hK K); refine Wc6d9a ?_; (repeat intro K hK); refine ⟨?_⟩)
      (simp only [bodyX]; refine ⟨_, by simp only [aresults, aresult, XS.as, Tryd.results5, aload, go_sem, Option.bind_some]; rfl, ?_⟩)
      exact ⟨ids_idB rfl, rfl, trivial⟩
end Go.Proofs.YtghdacijcnmhlaaDoor
namespace Go.Proofs.YtghdacijcnmhlaaDoor
open Go.ChangeShapes Go.WideShapes Go.ChangeAt Go.RowKit
open Go.Deep (oneCellFields)
set_option linter.unusedVariables false
instance : Inhabited Stp := ⟨st0⟩
def StepAt (w : World) (b k : Nat) (s : Stp) : Prop := ∃ (a1 : Option Addr) (l1 c1 : Nat) (a2 : Option Addr) (l2 c2 : Nat), w.cell? ⟨b, k, none⟩ = some (.int .i64 s.k) ∧ w.cell? ⟨b, k + 1, none⟩ = some (.int .i64 s.i) ∧ w.cell? ⟨b, k + 2, none⟩ = some (.slice a1 l1 c1) ∧ (IntRow w a1 l1 s.L ∧ l1 ≤ c1 ∧ c1 ≤ maxLen) ∧ w.cell? ⟨b, k + 3, none⟩ = some (.slice a2 l2 c2) ∧ (IntRow w a2 l2 s.H ∧ l2 ≤ c2 ∧ c2 ≤ maxLen)
def StepRow (w : World) (a : Option Addr) (len cap : Nat) : Prop := len ≤ cap ∧ cap ≤ maxLen ∧ (a = none → cap = 0) ∧ (0 < len → ∃ b off, a = some ⟨b, off, none⟩ ∧ ∀ i, i < len → ∃ s, StepAt w b (off + i * 4) s)
theorem open_steps {P : Program} {H : Type} {enc : TypeId × Value → H} {W : World} {base : Nat} {sp : Nat → Bool} {held : Bool} {t e T q : TypeId} {a : Option Addr} {len cap : Nat} {x : DataW H} {pl : List MemPlace} {f0 f1 f2 f3 : Field}
    (ht : P.underlying t = some (.slice e)) (he : P.underlying e = some (.struct #[f0, f1, f2, f3])) (hT : P.underlying T = some (.int .i64)) (hq : P.underlying q = some (.slice T)) (hcT : P.cellsOf T = 1)
    (hone : (oneCellFields P #[f0, f1, f2, f3] && decide (f0.type = T) && decide (f1.type = T) && decide (f2.type = q) && decide (f3.type = q)) = true) (hC : P.cellsOf e = 4)
    (h : DataW.Trod enc P W base sp held t (.slice a len cap) x pl) : StepRow W a len cap := by
  simp only [Bool.and_eq_true, decide_eq_true_eq] at hone
  obtain ⟨⟨⟨⟨h1, g0⟩, g1⟩, g2⟩, g3⟩ := hone
  obtain ⟨fuel, hf⟩ := h
  rcases Go.Deep.open_slice ht hf with ⟨hcs, _⟩ | ⟨y, l, c, m, n, D, Pl, hcs, _, hl, hm, hmm, _, hi⟩
  · simp [Value.cells] at hcs
    obtain ⟨rfl, rfl, rfl⟩ := hcs
    exact ⟨Nat.le_refl _, Nat.zero_le _, fun _ => rfl, fun h => by omega⟩
  · simp [Value.cells] at hcs
    obtain ⟨rfl, rfl, rfl⟩ := hcs
    have hz' : len ≤ m := by rw [hmm]; split <;> omega
    have hcell : ∀ i, i < len → ∃ (s : Stp) (a1 : Option Addr) (l1 c1 : Nat) (a2 : Option Addr) (l2 c2 : Nat), W.cell? (y.add (i * 4)) = some (.int .i64 s.k) ∧ W.cell? (y.add (i * 4 + 1)) = some (.int .i64 s.i) ∧ W.cell? (y.add (i * 4 + 2)) = some (.slice a1 l1 c1) ∧ (IntRow W a1 l1 s.L ∧ l1 ≤ c1 ∧ c1 ≤ maxLen) ∧ W.cell? (y.add (i * 4 + 3)) = some (.slice a2 l2 c2) ∧ (IntRow W a2 l2 s.H ∧ l2 ≤ c2 ∧ c2 ≤ maxLen) := by
      intro i hlt
      obtain ⟨cs', hc, htr⟩ := hi i (by omega)
      obtain ⟨_, hlen, hat⟩ := World.cells?_some hc
      rw [hC] at hlen hat
      obtain ⟨ys, n', _, _, _, hyl, hfs⟩ := DataW.trod_struct he htr
      have hone1 : ∀ (j : Nat) (f : Field), #[f0, f1, f2, f3][j]? = some f → ∃ (u : Value) (yy : _), W.cell? (y.add (i * 4 + j)) = some u ∧ DataW.trod enc P W base sp held n' f.type [u] = some yy := by
        intro j f hfj
        have hj : j < 4 := by have := (Array.getElem?_eq_some_iff.1 hfj).1; simpa using this
        obtain ⟨ho, hco⟩ := Go.Deep.hone_of h1 j _ hfj
        have hjc : j < cs'.length := by rw [hlen]; exact hj
        have h2 := hfs j _ hfj
        rw [ho, hco] at h2
        have h3 : (cs'.drop j).take 1 = [cs'[j]] := by rw [List.drop_eq_getElem_cons hjc]; rfl
        have hyj : j < ys.length := by rw [hyl]; simpa using hj
        rw [h3, List.getElem?_eq_getElem hyj] at h2
        have h4 := hat j hj
        rw [Go.Deep.add_add, List.getElem?_eq_getElem hjc] at h4
        exact ⟨cs'[j], ys[j], h4, h2⟩
      obtain ⟨u0, y0, k0, t0⟩ := hone1 0 f0 rfl
      obtain ⟨u1, y1, k1, t1⟩ := hone1 1 f1 rfl
      obtain ⟨u2, y2, k2, t2⟩ := hone1 2 f2 rfl
      obtain ⟨u3, y3, k3, t3⟩ := hone1 3 f3 rfl
      rw [g0] at t0; rw [g1] at t1; rw [g2] at t2; rw [g3] at t3
      obtain ⟨v0, hv0, _, hw0⟩ := DataW.trod_int hT t0
      obtain ⟨v1, hv1, _, hw1⟩ := DataW.trod_int hT t1
      simp only [List.cons.injEq, and_true] at hv0 hv1
      obtain ⟨a1, l1, c1, xs1, rfl, r1⟩ := row_of_trod hq hT hcT t2
      obtain ⟨a2, l2, c2, xs2, rfl, r2⟩ := row_of_trod hq hT hcT t3
      subst hv0 hv1
      exact ⟨⟨v0, v1, xs1, xs2⟩, a1, l1, c1, a2, l2, c2, k0, k1, k2, r1, k3, r2⟩
    refine ⟨hl, hm, (fun h => by cases h), fun hp => ?_⟩
    obtain ⟨b, off, spot⟩ := y
    obtain ⟨s0, _, _, _, _, _, _, hg0, _⟩ := hcell 0 hp
    have hspot : spot = none := by
      simpa [Addr.add] using World.cell?_spot hg0
    subst hspot
    refine ⟨b, off, rfl, fun i hi => ?_⟩
    obtain ⟨s, a1, l1, c1, a2, l2, c2, d0, d1, d2, d3, d4, d5⟩ := hcell i hi
    have hadd : ∀ n, Addr.add ⟨b, off, none⟩ n = ⟨b, off + n, none⟩ := fun n => by by_cases hn : n = 0 <;> simp [Addr.add, hn]
    rw [hadd] at d0
    rw [hadd, ← Nat.add_assoc] at d1 d2 d4
    exact ⟨s, a1, l1, c1, a2, l2, c2, d0, d1, d2, d3, d4, d5⟩
theorem StepRow.steps {W : World} {a : Option Addr} {len cap : Nat} (h : StepRow W a len cap) : ∃ xs : List Stp, xs.length = len ∧ StMax xs ∧ RI (fun b => W.heap[b]?) (iSts xs) (.slice a len cap) := by
  obtain ⟨h1, h2, h3, h4⟩ := h
  by_cases h0 : len = 0
  · subst h0
    refine ⟨[], rfl, ⟨Nat.zero_le _, fun k => ⟨Nat.zero_le _, Nat.zero_le _⟩⟩, ?_⟩
    cases a with
    | none => exact .nil _ _ _ h2
    | some ad => exact .empty _ _ _ _ h2
  · obtain ⟨b, off, rfl, hs⟩ := h4 (by omega)
    obtain ⟨g, hg⟩ := Go.Deep.choose_lt hs
    have hl : ((List.range len).map g).length = len := by simp
    have hat : ∀ k, k < len → stAt ((List.range len).map g) k = g k := fun k hk => by
      unfold stAt; rw [List.getD_eq_getElem?_getD, List.getElem?_map, List.getElem?_range hk]; rfl
    refine ⟨(List.range len).map g, hl, ⟨by rw [hl]; omega, fun k => ?_⟩, ?_⟩
    · by_cases hk : k < len
      · rw [hat k hk]
        obtain ⟨a1, l1, c1, a2, l2, c2, _, _, _, ⟨r1, p1, q1⟩, _, ⟨r2, p2, q2⟩⟩ := hg k hk
        have e1 := r1.1; have e2 := r2.1
        omega
      · have e : stAt ((List.range len).map g) k = st0 := by unfold stAt; rw [List.getD_eq_getElem?_getD, List.getElem?_eq_none (by rw [hl]; omega)]; rfl
        rw [e]; exact ⟨Nat.zero_le _, Nat.zero_le _⟩
    · obtain ⟨_, _, _, _, _, _, d0, _⟩ := hg 0 (by omega)
      obtain ⟨cs, t, fr, hb, _⟩ := cells_of_cell d0
      unfold iSts
      rw [hl]
      have key : ∀ j, j < len * 4 → ∃ v, cs[off + j]? = some v ∧ RI (fun b => W.heap[b]?) (stG ((List.range len).map g) j) v := fun j hj => by
        obtain ⟨k, r, rfl, hr⟩ : ∃ k r, j = k * 4 + r ∧ r < 4 := ⟨j / 4, j % 4, by omega, Nat.mod_lt _ (by decide)⟩
        have hk : k < len := by omega
        obtain ⟨a1, l1, c1, a2, l2, c2, e0, e1, e2, ⟨r1, p1, q1⟩, e3, ⟨r2, p2, q2⟩⟩ := hg k hk
        rw [cell_of_heap hb] at e0 e1 e2 e3
        rw [stG_j _ _ hr, hat k hk, ← Nat.add_assoc]
        match r, hr with
        | 0, _ => exact ⟨_, e0, .lit _⟩
        | 1, _ => exact ⟨_, e1, .lit _⟩
        | 2, _ => exact ⟨_, e2, ri_ints r1 p1 q1⟩
        | 3, _ => exact ⟨_, e3, ri_ints r2 p2 q2⟩
      obtain ⟨vs, hv⟩ := Go.Deep.choose_lt key
      exact .sl _ _ _ b off cap cs t fr vs hb (fun j hj => (hv j hj).1) (fun j hj => (hv j hj).2) h1 h2
end Go.Proofs.YtghdacijcnmhlaaDoor
namespace Go.Proofs.YtghdacijcnmhlaaDoor
open Go.RowKit
set_option linter.unusedVariables false
theorem proofBack_walk (w : World) (hB : BaseAt fun b => w.heap[b]?) (a : Option Addr) (len cap : Nat) (hs : StepRow w a len cap) (s : ByteArray) (hz : s.size ≤ maxLen) (a3 : Option Addr) (len3 cap3 : Nat) (h : List Int) (hr : IntRow w a3 len3 h) (hf : Fits h) (hc : len3 ≤ cap3 ∧ cap3 ≤ maxLen ∧ (a3 = none → cap3 = 0)) :
    Calls Tryd.prog 5 #[.slice a len cap, .string s, .slice a3 len3 cap3] w fun e w' => e = .returned (.bool true) ∧ Below w.heap.size w w' := by
  haveI := hB
  obtain ⟨xs, _, m1, r1⟩ := hs.steps
  have e := hr.1
  exact law_of (SF.mono (pf_ProofBack xs s h m1 hz (by omega)) fun r H' h => h.1) w _ (RL.three (.iv _ _ r1) (.iv _ _ (.lit _)) (.iv _ _ (ri_ints hr hc.1 hc.2.1)))
end Go.Proofs.YtghdacijcnmhlaaDoor
