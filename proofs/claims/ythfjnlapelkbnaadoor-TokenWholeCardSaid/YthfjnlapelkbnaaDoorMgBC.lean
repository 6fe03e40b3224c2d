import Derived.Test.YthfjnlapelkbnaaDoorMgBB
import Derived.Test.YthfjnlapelkbnaaDoorMgAQ
namespace Go.Proofs.YthfjnlapelkbnaaDoor
open Go.RowKit Go.Lib
set_option linter.unusedVariables false
set_option linter.unusedSimpArgs false
theorem tok_facts {l : List UInt8} {i st n : Nat} {t : Nat × List UInt8} (hL : LineIn l i st n) (ht : TokIn ((l.drop st).take n) t) : (l.drop (st + t.1)).take t.2.length = t.2 ∧ wordOk t.2 = true ∧ nlc l (st + t.1) = i ∧ st + t.1 + t.2.length ≤ st + n ∧ (st + t.1 + t.2.length < l.length → wordOk [l.getD (st + t.1 + t.2.length) 0] = false) := by
  have hm := line_len (l := l) (k := st) (n := n) hL.fit
  have hf := ht.fit
  rw [hm] at hf
  have htx := ht.txt
  rw [line_sub hf] at htx
  have hpos := ht.pos
  refine ⟨htx, ?_, ?_, by omega, fun hlt => ?_⟩
  · unfold wordOk
    have h1 : t.2.isEmpty = false := by cases h : t.2 with
      | nil => rw [h] at hpos; simp at hpos
      | cons _ _ => rfl
    rw [h1, List.all_eq_true.2]
    · rfl
    · intro b hb
      have h2 := ht.word
      rw [List.all_eq_true] at h2
      have h3 := h2 b hb
      unfold noSp at h3
      obtain ⟨j, hj⟩ := List.mem_iff_getElem?.1 hb
      have hjl : j < t.2.length := (List.getElem?_eq_some_iff.1 hj).1
      have h4 := hL.flat (t.1 + j) (by omega)
      rw [← htx, List.getElem?_take_of_lt hjl, List.getElem?_drop] at hj
      have h5 : l.getD (st + (t.1 + j)) 0 = b := by
        rw [List.getD_eq_getElem?_getD, show st + (t.1 + j) = st + t.1 + j by omega, hj]; rfl
      rw [h5] at h4
      have h6 : (b == 10) = false := by simpa using h4
      rw [h3, h6]; rfl
  · rw [nlc_flat t.1 (by have := hL.fit; omega) (fun j hj => hL.flat j (by omega)), hL.cnt]
  · rcases Nat.lt_or_ge (t.1 + t.2.length) n with h | h
    · have h7 := ht.next (by rw [hm]; exact h)
      rw [line_get h, ← Nat.add_assoc] at h7
      generalize l.getD (st + t.1 + t.2.length) 0 = b at *
      simp [wordOk, h7]
    · have e : t.1 + t.2.length = n := by omega
      have h8 := hL.stop (by omega)
      rw [show st + t.1 + t.2.length = st + n by omega, h8]
      rfl
theorem Wf8aca {A B : Prop} (h9 : B) (w : B → A := by (intro h9; (repeat intro K hK); refine ⟨?_⟩; (repeat (first | (first | (with_reducible first | refine AX_block ?_ | refine AX_skip ?_ | refine AX_exit ?_ | refine AX_ret ?_ | refine AX_ift ?_ | refine AX_iff ?_ | refine AX_seq_k (fun K hK => ?_) | refine ContX.use (by assumption) ?_) | simp only [thenX, inBlockX, if_true, if_false, reduceCtorEq]) | (first | ((with_reducible first | refine XOP tyOK ?_ | refine AOP tyOK ?_); simp (disch := omega) only [go_sem , beq_self_eq_true, bne_self_eq_false, eq_self, decide_true, Int.toNat_zero, Int.toNat_one, Int.toNat_natCast, hs1, hs2, hs3, hs4, hs5, hs6, hs7, hs8, hs9, hsa, hsb, hsc, hsd, hse, hsf, ba_toList, ba_size, ba_extract, byteAt_ba]; (with_reducible first | refine XRes_id ?_ | refine ADF_id ?_)) | (with_reducible first | refine XSK ?_ | refine ASK ?_)) | ((first | (with_reducible refine XRes_nil ?_) | (with_reducible refine ADF_nil ?_)); (first | refine hK _ ?_ | refine hK _ _ ?_); clear hK K) | ((first | (with_reducible refine AX_reg0 fun K hK => ?_) | (refine AX_drawG1 tyOK (by kernel_rfl) (by rfl) (by kernel_rfl) fun K hK => ?_)); simp only [go_sem]) | (first | (first | refine XTL (by rfl) hA ?_ | refine ATL tyOK (by rfl) hA ?_ | refine XTL (by rfl) hL1 ?_ | refine ATL tyOK (by rfl) hL1 ?_ | refine XTL (by rfl) hW ?_ | refine ATL tyOK (by rfl) hW ?_ | refine XTL (by rfl) hV ?_ | refine ATL tyOK (by rfl) hV ?_)))); refine Wk.o ?_; (repeat revert hK K); exact h9)) : A := w h9
set_option maxRecDepth 100000 in
set_option maxHeartbeats 4000000 in
theorem pf_TokenWhole (s : ByteArray) : PF Tryd.prog 5 [lt (.string s)] fun r H' => r = lt (.bool true) ∧ H' = [] := by
  refine SF.forgetAll ?_
  have hs1 := trivial; have hs2 := trivial; have hs3 := trivial; have hs4 := trivial; have hs5 := trivial; have hs6 := trivial; have hs7 := trivial; have hs8 := trivial; have hs9 := trivial; have hsa := trivial; have hsb := trivial; have hsc := trivial; have hsd := trivial; have hse := trivial; have hsf := trivial; have hW := trivial; have hV := trivial; have hA := pf_awake05
  obtain ⟨l, rfl⟩ : ∃ l, s = ba l := ⟨s.data.toList, (ba_of s).symm⟩
  by_cases hl : 3000 < l.length
  · have hs1 : decide ((3000 : Int) < (l.length : Int)) = true := decide_eq_true (by omega)
    have hL1 := trivial
    (refine SF_of_bodyX (aload tt) (aload_ok tyOK) Tryd.func5 rfl (by kernel_rfl) ?_; simp only [Tryd.ntmps5, List.length_cons, List.length_nil, Nat.reduceAdd, Nat.reduceSub, List.replicate_succ, List.replicate_zero, List.cons_append, List.nil_append])
    (refine Wk.o ?_; (repeat revert hK K); refine Wf8aca ?_; (repeat intro K hK); refine ⟨?_⟩)
    (simp only [bodyX]; refine ⟨_, by simp only [aresults, aresult, XS.as, Tryd.results5, aload, go_sem, Option.bind_some]; rfl, ?_⟩)
    exact ⟨ids_idB rfl, rfl, trivial⟩
  · have hs1 : decide ((3000 : Int) < (l.length : Int)) = false := decide_eq_false (by omega)
    obtain ⟨b1, b2, b3⟩ := lns_sum l.length 1 0 l (Nat.le_refl _)
    have hL1 := pf_Lines l (by omega)
    have hOK := lns_rows l
    have hn0 : nlc l 0 = 0 := rfl
    unfold iLn at hL1
    generalize lns 1 0 l = rs at *
    (refine SF_of_bodyX (aload tt) (aload_ok tyOK) Tryd.func5 rfl (by kernel_rfl) ?_; simp only [Tryd.ntmps5, List.length_cons, List.length_nil, Nat.reduceAdd, Nat.reduceSub, List.replicate_succ, List.replicate_zero, List.cons_append, List.nil_append])
    (refine Wk.o ?_; (repeat revert hK K); refine Wf8aca ?_; (repeat intro K hK); refine ⟨?_⟩)
    (refine AWH (σ := Nat × Nat) [16, 17, 18, 19, 7, 22, 23, 24, 25, 26, 27, 28, 31, 32, 33, 34, 35, 36, 37, 8, 38, 39, 40, 41, 42, 43, 44, 45, 46, 47, 48, 49, 50, 51, 52, 53, 54, 55, 56, 57, 58, 59, 60, 61, 62, 63, 64, 65, 66, 67, 68, 69, 70, 71, 72, 73, 74, 75, 76, 77, 78, 79, 80, 2, 81, 9, 82, 83, 84, 85, 88, 89, 90, 91, 92, 93, 86, 87, 94, 95, 96, 97, 98, 99, 100, 101, 102, 103, 104, 105, 106, 107, 108, 109, 110, 111, 112, 113, 114, 115, 29, 30, 20, 21] (fun (i, e) => [(6, lint i), (5, lint ((nlc l e + 1 : Nat) : Int)), (4, lint e)]) (fun (i, e) => []) (fun (i, e) => []) (fun (i, e) => i ≤ rs.length ∧ e ≤ l.length ∧ RowsOK l i e (rs.drop i)) (fun (i, e) => rs.length - i) (0, 0) (by first | exact ⟨Nat.zero_le _, Nat.zero_le _, hOK⟩) ?_; rintro ⟨i, e⟩ d fr hfr ⟨hi1, hi2, hi3⟩; simp only [updS, deadS, List.set_cons_succ, List.set_cons_zero, lint] at hfr; subst hfr; (try dsimp only))
    by_cases hi : i < rs.length
    · have hdc := List.drop_eq_getElem_cons hi
      have hgd : rs.getD i (0, 0, []) = rs[i] := by rw [List.getD_eq_getElem?_getD, List.getElem?_eq_getElem hi]; rfl
      have hT := b3 rs[i] (List.getElem_mem hi)
      rw [hdc] at hi3
      rcases hri : rs[i] with ⟨a, st, ts⟩
      rw [hri] at hgd hi3 hT
      obtain ⟨ha, hes, n, hL, hTk, hnext⟩ := hi3
      dsimp only at ha hes hL hTk hnext hT
      subst ha
      have hfit := hL.fit
      have hs1 : rowIV (rs.getD i (0, 0, [])) = .sl (fun j => .lit ((tkL ((i + 1 : Nat) : Int) st ts).getD j undef)) ts.length 3 := by rw [hgd]; rfl
      have hs2 : decide ((i : Int) < (rs.length : Int)) = true := decide_eq_true (by omega)
      (refine Wk.o ?_; (repeat revert hK K); refine Wf8aca ?_; (repeat intro K hK); refine ⟨?_⟩)
      (refine AWH (σ := Nat × Nat) [22, 23, 24, 25, 26, 27, 28, 31, 32, 33, 34, 35, 36, 37, 8, 38, 39, 40, 41, 42, 43, 44, 45, 46, 47, 48, 49, 50, 51, 52, 53, 54, 55, 56, 57, 58, 59, 60, 61, 62, 63, 64, 65, 66, 67, 68, 69, 70, 71, 72, 73, 74, 75, 76, 77, 78, 79, 80, 2, 81, 9, 82, 83, 84, 85, 88, 89, 90, 91, 92, 93, 86, 87, 94, 95, 96, 97, 98, 99, 100, 101, 102, 103, 104, 105, 106, 107, 108, 109, 110, 111, 112, 113, 114, 115, 29, 30] (fun (k, e2) => [(7, lint k), (5, lint ((nlc l e2 + 1 : Nat) : Int)), (4, lint e2)]) (fun (k, e2) => []) (fun (k, e2) => []) (fun (k, e2) => k ≤ ts.length ∧ e2 ≤ st + n ∧ TkOK ((l.drop st).take n) (e2 - st) (ts.drop k)) (fun (k, e2) => ts.length - k) (0, e) (by first | exact ⟨Nat.zero_le _, by omega, by rw [show e - st = 0 by omega]; exact hTk⟩) ?_; rintro ⟨k, e2⟩ d fr hfr ⟨hk1, hk2, hk3⟩; simp only [updS, deadS, List.set_cons_succ, List.set_cons_zero, lint] at hfr; subst hfr; (try dsimp only))
      by_cases hk : k < ts.length
      · have hs3 : decide ((k : Int) < (ts.length : Int)) = true := decide_eq_true (by omega)
        have hkc := List.drop_eq_getElem_cons hk
        rw [hkc] at hk3
        obtain ⟨e1, e2', e3⟩ := tkL_at (a := ((i + 1 : Nat) : Int)) (b := (st : Int)) hk
        have hgk : ts.getD k (0, []) = ts[k] := by rw [List.getD_eq_getElem?_getD, List.getElem?_eq_getElem hk]; rfl
        rw [hgk] at e2' e3
        rcases htk : ts[k] with ⟨q, tx⟩
        rw [htk] at e2' e3 hk3
        obtain ⟨hq1, hq2, hq3⟩ := hk3
        obtain ⟨f1, f2, f3, f4, f5⟩ := tok_facts hL hq2
        dsimp only at hq1 hq3 e2' e3 f1 f2 f3 f4 f5
        have hpos := hq2.pos
        dsimp only at hpos
        have hs5 := e1
        have hs6 := e2'
        have hs7 := e3
        have hsd : decide (((st : Int) + (q : Int)) < (e2 : Int)) = false := decide_eq_false (by omega)
        have hs4 : decide (((l.length : Int) - (tx.length : Int)) < ((st : Int) + (q : Int))) = false := decide_eq_false (by omega)
        have hs8 : ((st : Int) + (q : Int)).toNat = st + q := by omega
        have hs9 : (((st : Int) + (q : Int)) + (tx.length : Int)).toNat = st + q + tx.length := by omega
        have hsa : st + q + tx.length - (st + q) = tx.length := by omega
        have hsb := f1
        have hW := pf_WordG tx (by omega)
        rw [f2] at hW
        have f6 : nlc l (st + q + tx.length) = i := by rw [nlc_flat tx.length (by omega) (fun j hj => by rw [Nat.add_assoc]; exact hL.flat (q + j) (by omega)), f3]
        have hI3 : k + 1 ≤ ts.length ∧ st + q + tx.length ≤ st + n ∧ TkOK ((l.drop st).take n) (st + q + tx.length - st) (ts.drop (k + 1)) := ⟨by omega, f4, by rw [show st + q + tx.length - st = q + tx.length by omega]; exact hq3⟩
        (refine Wk.o ?_; (repeat revert hK K); refine Wf8aca ?_; (repeat intro K hK); refine ⟨?_⟩)
        (refine AWH (σ := Nat) [82, 83, 84, 85, 88, 89, 90, 91, 92, 93, 86, 87] (fun j => [(9, lint j), (5, lint ((nlc l j + 1 : Nat) : Int))]) (fun j => [some ⟨41, [lt (.int .i64 ((i + 1 : Nat) : Int)), lt (.int .i64 ((st : Int) + (q : Int))), lt (.string (ba tx))]⟩]) (fun j => []) (fun j => e2 ≤ j ∧ j ≤ st + q) (fun j => st + q - j) e2 (by first | exact ⟨Nat.le_refl _, by omega⟩) ?_; rintro j d fr hfr ⟨hj1, hj2⟩; simp only [updS, deadS, List.set_cons_succ, List.set_cons_zero, lint] at hfr; subst hfr; (try dsimp only))
        by_cases hj : j < st + q
        · have hse : decide ((j : Int) < (st : Int) + (q : Int)) = true := decide_eq_true (by omega)
          have hsf := nlc_succ (l := l) (a := j) (by omega)
          have hI4 : e2 ≤ j + 1 ∧ j + 1 ≤ st + q := ⟨by omega, by omega⟩
          have hnb : nlc l j ≤ j := Nat.le_trans List.count_le_length (by rw [List.length_take]; omega)
          have h10 := nl_int (l.getD j 0)
          by_cases hn : ((l.getD j 0).toNat : Int) = 10
          · rw [if_pos (by rw [decide_eq_true hn] at h10; simpa using h10)] at hsf
            (refine Wk.o ?_; (repeat revert hK K); refine Wf8aca ?_; (repeat intro K hK); refine ⟨?_⟩)
            exact whx_end (j + 1) hI4 (by (first | omega | (dsimp only; omega) | (simp only; omega))) rfl rfl (fun d => by first | ((simp (disch := omega) only [go_sem, lint , beq_self_eq_true, bne_self_eq_false, eq_self, decide_true, Int.toNat_zero, Int.toNat_one, Int.toNat_natCast, hs1, hs2, hs3, hs4, hs5, hs6, hs7, hs8, hs9, hsa, hsb, hsc, hsd, hse, hsf, ba_toList, ba_size, ba_extract, byteAt_ba]); done) | ((simp (disch := omega) only [go_sem, lint , beq_self_eq_true, bne_self_eq_false, eq_self, decide_true, Int.toNat_zero, Int.toNat_one, Int.toNat_natCast, hs1, hs2, hs3, hs4, hs5, hs6, hs7, hs8, hs9, hsa, hsb, hsc, hsd, hse, hsf, ba_toList, ba_size, ba_extract, byteAt_ba]); rfl))
          · rw [if_neg (by rw [decide_eq_false hn] at h10; simpa using h10), Nat.add_zero] at hsf
            (refine Wk.o ?_; (repeat revert hK K); refine Wf8aca ?_; (repeat intro K hK); refine ⟨?_⟩)
            exact whx_end (j + 1) hI4 (by (first | omega | (dsimp only; omega) | (simp only; omega))) rfl rfl (fun d => by first | ((simp (disch := omega) only [go_sem, lint , beq_self_eq_true, bne_self_eq_false, eq_self, decide_true, Int.toNat_zero, Int.toNat_one, Int.toNat_natCast, hs1, hs2, hs3, hs4, hs5, hs6, hs7, hs8, hs9, hsa, hsb, hsc, hsd, hse, hsf, ba_toList, ba_size, ba_extract, byteAt_ba]); done) | ((simp (disch := omega) only [go_sem, lint , beq_self_eq_true, bne_self_eq_false, eq_self, decide_true, Int.toNat_zero, Int.toNat_one, Int.toNat_natCast, hs1, hs2, hs3, hs4, hs5, hs6, hs7, hs8, hs9, hsa, hsb, hsc, hsd, hse, hsf, ba_toList, ba_size, ba_extract, byteAt_ba]); rfl))
        · obtain rfl : j = st + q := by omega
          have hse : decide (((st + q : Nat) : Int) < (st : Int) + (q : Int)) = false := decide_eq_false (by omega)
          rw [f3]
          by_cases hlt : st + q + tx.length < l.length
          · have hsf : decide ((st : Int) + (q : Int) + (tx.length : Int) < (l.length : Int)) = true := decide_eq_true (by omega)
            have hsc : ((st : Int) + (q : Int) + (tx.length : Int) + 1).toNat = st + q + tx.length + 1 := by omega
            have hs8 : st + q + tx.length + 1 - (st + q + tx.length) = 1 := by omega
            have hsa : (l.drop (st + q + tx.length)).take 1 = [l.getD (st + q + tx.length) 0] := by rw [drop_at hlt]; rfl
            have hV := pf_WordG [l.getD (st + q + tx.length) 0] (by show 1 ≤ 1000000; omega)
            rw [f5 hlt] at hV
            (refine Wk.o ?_; (repeat revert hK K); refine Wf8aca ?_; (repeat intro K hK); refine ⟨?_⟩)
            have hsd : (st : Int) + (q : Int) + (tx.length : Int) = ((st + q + tx.length : Nat) : Int) := by omega
            have hse := f6
            exact whx_ren [] (k + 1, st + q + tx.length) hI3 (by (first | omega | (dsimp only; omega) | (simp only; omega))) rfl (by decide) (by decide) (by (simp (disch := omega) only [go_sem, lint , beq_self_eq_true, bne_self_eq_false, eq_self, decide_true, Int.toNat_zero, Int.toNat_one, Int.toNat_natCast, hs1, hs2, hs3, hs4, hs5, hs6, hs7, hs8, hs9, hsa, hsb, hsc, hsd, hse, hsf, ba_toList, ba_size, ba_extract, byteAt_ba])) (by (simp (disch := omega) only [go_sem, lint , beq_self_eq_true, bne_self_eq_false, eq_self, decide_true, Int.toNat_zero, Int.toNat_one, Int.toNat_natCast, hs1, hs2, hs3, hs4, hs5, hs6, hs7, hs8, hs9, hsa, hsb, hsc, hsd, hse, hsf, ba_toList, ba_size, ba_extract, byteAt_ba])) (by (simp (disch := omega) only [go_sem, lint , beq_self_eq_true, bne_self_eq_false, eq_self, decide_true, Int.toNat_zero, Int.toNat_one, Int.toNat_natCast, hs1, hs2, hs3, hs4, hs5, hs6, hs7, hs8, hs9, hsa, hsb, hsc, hsd, hse, hsf, ba_toList, ba_size, ba_extract, byteAt_ba])) (fun d => by first | ((simp (disch := omega) only [go_sem, lint , beq_self_eq_true, bne_self_eq_false, eq_self, decide_true, Int.toNat_zero, Int.toNat_one, Int.toNat_natCast, hs1, hs2, hs3, hs4, hs5, hs6, hs7, hs8, hs9, hsa, hsb, hsc, hsd, hse, hsf, ba_toList, ba_size, ba_extract, byteAt_ba]); done) | ((simp (disch := omega) only [go_sem, lint , beq_self_eq_true, bne_self_eq_false, eq_self, decide_true, Int.toNat_zero, Int.toNat_one, Int.toNat_natCast, hs1, hs2, hs3, hs4, hs5, hs6, hs7, hs8, hs9, hsa, hsb, hsc, hsd, hse, hsf, ba_toList, ba_size, ba_extract, byteAt_ba]); rfl))
          · have hsf : decide ((st : Int) + (q : Int) + (tx.length : Int) < (l.length : Int)) = false := decide_eq_false (by omega)
            (refine Wk.o ?_; (repeat revert hK K); refine Wf8aca ?_; (repeat intro K hK); refine ⟨?_⟩)
            have hsd : (st : Int) + (q : Int) + (tx.length : Int) = ((st + q + tx.length : Nat) : Int) := by omega
            have hse := f6
            exact whx_ren [] (k + 1, st + q + tx.length) hI3 (by (first | omega | (dsimp only; omega) | (simp only; omega))) rfl (by decide) (by decide) (by (simp (disch := omega) only [go_sem, lint , beq_self_eq_true, bne_self_eq_false, eq_self, decide_true, Int.toNat_zero, Int.toNat_one, Int.toNat_natCast, hs1, hs2, hs3, hs4, hs5, hs6, hs7, hs8, hs9, hsa, hsb, hsc, hsd, hse, hsf, ba_toList, ba_size, ba_extract, byteAt_ba])) (by (simp (disch := omega) only [go_sem, lint , beq_self_eq_true, bne_self_eq_false, eq_self, decide_true, Int.toNat_zero, Int.toNat_one, Int.toNat_natCast, hs1, hs2, hs3, hs4, hs5, hs6, hs7, hs8, hs9, hsa, hsb, hsc, hsd, hse, hsf, ba_toList, ba_size, ba_extract, byteAt_ba])) (by (simp (disch := omega) only [go_sem, lint , beq_self_eq_true, bne_self_eq_false, eq_self, decide_true, Int.toNat_zero, Int.toNat_one, Int.toNat_natCast, hs1, hs2, hs3, hs4, hs5, hs6, hs7, hs8, hs9, hsa, hsb, hsc, hsd, hse, hsf, ba_toList, ba_size, ba_extract, byteAt_ba])) (fun d => by first | ((simp (disch := omega) only [go_sem, lint , beq_self_eq_true, bne_self_eq_false, eq_self, decide_true, Int.toNat_zero, Int.toNat_one, Int.toNat_natCast, hs1, hs2, hs3, hs4, hs5, hs6, hs7, hs8, hs9, hsa, hsb, hsc, hsd, hse, hsf, ba_toList, ba_size, ba_extract, byteAt_ba]); done) | ((simp (disch := omega) only [go_sem, lint , beq_self_eq_true, bne_self_eq_false, eq_self, decide_true, Int.toNat_zero, Int.toNat_one, Int.toNat_natCast, hs1, hs2, hs3, hs4, hs5, hs6, hs7, hs8, hs9, hsa, hsb, hsc, hsd, hse, hsf, ba_toList, ba_size, ba_extract, byteAt_ba]); rfl))
      · have hs3 : decide ((k : Int) < (ts.length : Int)) = false := decide_eq_false (by omega)
        have hI2 : i + 1 ≤ rs.length ∧ e2 ≤ l.length ∧ RowsOK l (i + 1) e2 (rs.drop (i + 1)) := ⟨by omega, by omega, hnext.le hk2⟩
        (refine Wk.o ?_; (repeat revert hK K); refine Wf8aca ?_; (repeat intro K hK); refine ⟨?_⟩)
        exact WEND (i + 1, e2) hI2 (by (first | omega | (dsimp only; omega) | (simp only; omega)))
    · have hs2 : decide ((i : Int) < (rs.length : Int)) = false := decide_eq_false (by omega)
      (refine Wk.o ?_; (repeat revert hK K); refine Wf8aca ?_; (repeat intro K hK); refine ⟨?_⟩)
      (simp only [bodyX]; refine ⟨_, by simp only [aresults, aresult, XS.as, Tryd.results5, aload, go_sem, Option.bind_some]; rfl, ?_⟩)
      exact ⟨ids_idB rfl, rfl, trivial⟩
end Go.Proofs.YthfjnlapelkbnaaDoor
namespace Go.Proofs.YthfjnlapelkbnaaDoor
open Go.RowKit
set_option linter.unusedVariables false
theorem tokenWhole_walk (w : World) (hB : BaseAt fun b => w.heap[b]?) (s : ByteArray) (hs : s.size ≤ maxLen) :
    Calls Tryd.prog 5 #[.string s] w fun e w' => e = .returned (.bool true) ∧ Below w.heap.size w w' :=
  haveI := hB
  law_of (SF.mono (pf_TokenWhole s) fun r H' h => h.1) w _ (RL.cons (.iv _ _ (.lit _)) (RL.nil _ _))
end Go.Proofs.YthfjnlapelkbnaaDoor
