import Derived.Test.YtghdacijcnmhlaaDoorMgBL
import Derived.Test.YtghdacijcnmhlaaDoorMgBN
import Derived.Test.YtghdacijcnmhlaaDoorMgBI
namespace Go.Proofs.YtghdacijcnmhlaaDoor
open Go.RowKit Go.Lib
set_option linter.unusedVariables false
set_option linter.unusedSimpArgs false
theorem mem_sum10 : ∀ (xs : List Nat) (x : Nat), x ∈ xs → x ≤ xs.sum
  | y :: xs, x, h => by
    rw [List.sum_cons]
    rcases List.mem_cons.1 h with rfl | h
    · omega
    · have := mem_sum10 xs x h; omega
theorem lnsT_ok10 {l : List UInt8} (hl : l.length ≤ 1000000) (hn : (lns 1 0 l).length ≤ 100000) : LsOK (lnsT l) := by
  have hs := lns_sum l.length 1 0 l (Nat.le_refl _)
  have hc := chain_rows _ _ _ (lns_rows l)
  refine ⟨by unfold lnsT; rw [List.length_map]; omega, fun T hT => ?_⟩
  have hm : ∀ t ∈ T, 0 ≤ t.2.1 ∧ t.2.1 + ((t.2.2.length : Nat) : Int) ≤ l.length := fun t ht => chain_in hc t (lnsT_all hT ht)
  have hg : ∀ j, T.getD j tok0 = tok0 ∨ T.getD j tok0 ∈ T := fun j => by
    by_cases hj : j < T.length
    · exact .inr (getP_mem hj)
    · exact .inl (by rw [List.getD_eq_getElem?_getD, List.getElem?_eq_none (by omega)]; rfl)
  have hTl : T.length ≤ l.length := by
    have h1 := lnsT_toks l
    have h2 := mem_sum10 _ _ (List.mem_map.2 ⟨T, hT, rfl⟩ : T.length ∈ (lnsT l).map List.length)
    omega
  refine ⟨by omega, fun j => ?_, fun j => ?_⟩
  · rcases hg j with h | h
    · rw [h]; simp [tok0]
    · have := hm _ h; omega
  · rcases hg j with h | h
    · rw [h]; simp [tok0]
    · have := hm _ h; omega
theorem lnsT_okS {l : List UInt8} (hl : l.length ≤ 100000) : LsOK (lnsT l) :=
  lnsT_ok10 (by omega) (by have hs := lns_sum l.length 1 0 l (Nat.le_refl _); omega)
def tp1 : List UInt8 := [53, 32, 49, 32, 45, 50, 32, 48, 32, 51, 32, 45, 52, 32, 48, 10, 53, 32, 100, 32, 49, 32, 50, 32, 48, 10]
theorem lns_p1 : lns 1 0 tp1 = [(1, 0, [(0, [53]), (2, [49]), (4, [45, 50]), (7, [48]), (9, [51]), (11, [45, 52]), (14, [48])]), (2, 16, [(0, [53]), (2, [100]), (4, [49]), (6, [50]), (8, [48])])] := by
  unfold tp1
  simp [lns, lnLen, noNl, lineTk, remark, hasPrefix, tk, isSp, noSp, List.takeWhile, List.dropWhile]
def tp2 : List UInt8 := [53, 32, 49, 32, 45, 50, 32, 48, 32, 51]
theorem lns_p2 : lns 1 0 tp2 = [(1, 0, [(0, [53]), (2, [49]), (4, [45, 50]), (7, [48]), (9, [51])])] := by
  unfold tp2
  simp [lns, lnLen, noNl, lineTk, remark, hasPrefix, tk, isSp, noSp, List.takeWhile, List.dropWhile]
def tp3 : List UInt8 := [53, 32, 49, 32, 49, 32, 48, 32, 48]
theorem lns_p3 : lns 1 0 tp3 = [(1, 0, [(0, [53]), (2, [49]), (4, [49]), (6, [48]), (8, [48])])] := by
  unfold tp3
  simp [lns, lnLen, noNl, lineTk, remark, hasPrefix, tk, isSp, noSp, List.takeWhile, List.dropWhile]
instance : DecidableEq Tok3 := inferInstanceAs (DecidableEq (_ × _ × _))
def p10 : List Stp := [⟨1, 5, [1, -2], [3, -4]⟩, ⟨2, 5, [], [1, 2]⟩]
theorem prp_1 : prp tp1 = (p10, 26, 0) := by unfold prp lnsT; rw [lns_p1]; decide +kernel
theorem prp_2 : prp tp2 = ([], 10, 4) := by unfold prp lnsT; rw [lns_p2]; decide +kernel
theorem prp_3 : prp tp3 = ([], 4, 21) := by unfold prp lnsT; rw [lns_p3]; decide +kernel
theorem pfB_1 : pfB p10 = tp1 := by decide +kernel
theorem p10_ok : ∀ s ∈ p10, stOk s := by decide +kernel
theorem spR_1 : spR [1, 2, -3, 4, -5] = [[-3, 4], [-5]] := by simp [spR, rowsOf, nn, List.dropWhile, List.takeWhile]
theorem spA_1 : spA [1, 2, -3, 4, -5] = [1, 2] := by decide +kernel
theorem p10_len : StLen p10 := ⟨by decide, fun k => by
  match k with
  | 0 => decide
  | 1 => decide
  | k + 2 => exact ⟨Nat.zero_le _, Nat.zero_le _⟩⟩
theorem p11_len : StLen [⟨1, 5, [1, -2], [3, -4]⟩] := ⟨by decide, fun k => by
  match k with
  | 0 => decide
  | k + 1 => exact ⟨Nat.zero_le _, Nat.zero_le _⟩⟩
theorem p12_len : StLen [⟨1, 0, [], []⟩] := ⟨by decide, fun k => by
  match k with
  | 0 => decide
  | k + 1 => exact ⟨Nat.zero_le _, Nat.zero_le _⟩⟩
section
variable {P : Program} {tt : TT} {m : Nat} {Q : Exit → XS → Prop} {fr : List AV} {H : AHeap} {M : MS} {l : List Oper}
theorem XRes_litSt (hT : TyOK P tt) {d : Option Tmp} {t n : Nat} {ps : Array (Nat × Operand)} {ty : TypeId} {pos : String} {after : Array Edge} {g : Option (Nat × Bool)} (hw : wantedS fr ⟨d, .buildSlice t n ps, ty, pos, after, g⟩ = some true)
    {e : TypeId} (ha : abuildSlice tt [] t n (ps.toList.map fun p => (p.1, AS.ev ⟨fr, H⟩ p.2)) = some (.osl 0 0 1 4, [some ⟨e, [lt (.int .i64 1), lt (.int .i64 0), lt (.slice none 0 0), lt (.slice none 0 0)]⟩]))
    (h : XRes P m Q (l, ⟨putL fr d (.iv (iSts [⟨1, 0, [], []⟩])), H, M⟩)) : XRes P m Q (⟨d, .buildSlice t n ps, ty, pos, after, g⟩ :: l, ⟨fr, H, M⟩) := by
  obtain ⟨len', sz', e1, e2⟩ := abuildSlice_at ha
  cases e1
  refine XRes_lit hT (iSts [⟨1, 0, [], []⟩]) hw (x := .osl H.length 0 1 4) (obj := ⟨e, [lt (.int .i64 1), lt (.int .i64 0), lt (.slice none 0 0), lt (.slice none 0 0)]⟩) (by simp only [aop]; exact e2 H) ?_ h
  refine .osl _ 0 1 4 _ (⟨e, [lt (.int .i64 1), lt (.int .i64 0), lt (.slice none 0 0), lt (.slice none 0 0)]⟩ : AObj) (fun j => [lt (.int .i64 1), lt (.int .i64 0), lt (.slice none 0 0), lt (.slice none 0 0)].getD j uD) (by decide) (only_mk (by simp) (by simp)) (fun j hj => ?_) fun j hj => ?_
  · match j, hj with | 0, _ | 1, _ | 2, _ | 3, _ => rfl
  · match j, hj with
    | 0, _ => exact .iv _
    | 1, _ => exact .iv _
    | 2, _ => exact .nil _ _
    | 3, _ => exact .nil _ _
end
theorem q10_P1 : PF Tryd.prog 8 [lt (.string (ba tp1))] fun r H' => r = .tup [.iv (.sl (stG p10) 2 4), lt (.int .i64 26), lt (.int .i64 0)] ∧ H' = [] := by
  have h := pf_prParse tp1 (by decide) (lnsT_okS (by decide))
  rw [prp_1] at h; exact h
theorem q10_P2 : PF Tryd.prog 8 [lt (.string (ba tp2))] fun r H' => r = .tup [.iv (iSts []), lt (.int .i64 10), lt (.int .i64 4)] ∧ H' = [] := by
  have h := pf_prParse tp2 (by decide) (lnsT_okS (by decide))
  rw [prp_2] at h; exact h
theorem q10_P3 : PF Tryd.prog 8 [lt (.string (ba tp3))] fun r H' => r = .tup [.iv (iSts []), lt (.int .i64 4), lt (.int .i64 21)] ∧ H' = [] := by
  have h := pf_prParse tp3 (by decide) (lnsT_okS (by decide))
  rw [prp_3] at h; exact h
theorem q10_Pr : PF Tryd.prog 14 [.iv (.sl (stG p10) 2 4)] fun r H' => r = .tup [lt (.string (ba tp1)), lt (.int .i64 0)] ∧ H' = [] := by
  have h := pf_prPrint p10 p10_len (fun _ => by rw [pfB_1]; decide)
  unfold prT at h
  rw [(ck_ok p10_ok).2, if_pos rfl, pfB_1] at h; exact h
theorem q10_C1 : PF Tryd.prog 12 [.iv (.sl (stG p10) 2 4)] fun r H' => r = .tup [lt (.int .i64 2), lt (.int .i64 0)] ∧ H' = [] := by
  have h := pf_prCheck p10 p10_len
  rw [(ck_ok p10_ok).2, (ck_ok p10_ok).1] at h; exact h
theorem q10_C2 : PF Tryd.prog 12 [.iv (iSts [⟨1, 0, [], []⟩])] fun r H' => r = .tup [lt (.int .i64 0), lt (.int .i64 2)] ∧ H' = [] := by
  have h := pf_prCheck [⟨1, 0, [], []⟩] p12_len
  rw [show ckB [⟨1, 0, [], []⟩] = 0 by decide +kernel, show ckE [⟨1, 0, [], []⟩] = 2 by decide +kernel] at h; exact h
theorem q10_Sp : PF Tryd.prog 16 [.iv (iInts [1, 2, -3, 4, -5])] fun r H' => r = .tup [.iv (iInts [1, 2]), .iv (iRows [[-3, 4], [-5]])] ∧ H' = [] := by
  have h := pf_prSplit [1, 2, -3, 4, -5] (by decide)
  rw [spA_1, spR_1] at h; exact h
theorem q10_S1 : PF Tryd.prog 18 [.iv (.sl (stG p10) 2 4), .iv (.sl (stG p10) 2 4)] fun r H' => r = lt (.bool true) ∧ H' = [] := by
  have h := pf_prSame p10 p10 p10_len p10_len
  rw [decide_eq_true (rfl : p10 = p10)] at h; exact h
theorem q10_S2 : PF Tryd.prog 18 [.iv (.sl (stG p10) 2 4), .iv (.sl (stG p10) 1 4)] fun r H' => r = lt (.bool false) ∧ H' = [] := by
  have h := pf_prSame p10 [⟨1, 5, [1, -2], [3, -4]⟩] p10_len p11_len
  rw [show decide (p10 = [⟨1, 5, [1, -2], [3, -4]⟩]) = false by decide +kernel] at h
  refine SF.args h fun G vs hr => ?_
  obtain ⟨u, us, rfl, h1, hr⟩ := hr.uncons
  obtain ⟨u2, us, rfl, h2, hr⟩ := hr.uncons
  refine RL.cons h1 (RL.cons (RA.congr h2 fun j hj => ?_) hr)
  match j, hj with | 0, _ | 1, _ | 2, _ | 3, _ => rfl
theorem q10_I (xs : List Int) (h : xs.length ≤ 1000000) : PF Tryd.prog 19 [.iv (iInts xs), .iv (iInts xs)] fun r H' => r = lt (.bool true) ∧ H' = [] := by
  have h := pf_sameInts xs xs h h
  rwa [decide_eq_true (rfl : xs = xs)] at h
set_option maxRecDepth 100000 in
set_option maxHeartbeats 4000000 in
theorem pf_awake10 : PF Tryd.prog 7 [] fun r H' => r = lt (.bool true) ∧ H' = [] := by
  refine SF.forgetAll ?_
  have hs4 := trivial
  have hs1 : (⟨#[53, 32, 49, 32, 45, 50, 32, 48, 32, 51, 32, 45, 52, 32, 48, 10, 53, 32, 100, 32, 49, 32, 50, 32, 48, 10]⟩ : ByteArray).toList = tp1 := ba_toList tp1
  have hs2 : stG p10 1 = .lit (.int .i64 5) := rfl
  have hs3 : stG p10 4 = .lit (.int .i64 2) := rfl
  have hP1 := q10_P1
  have hP2 := q10_P2
  have hP3 := q10_P3
  have hPr := q10_Pr
  have hC1 := q10_C1
  have hC2 := q10_C2
  have hSp := q10_Sp
  have hS1 := q10_S1
  have hS2 := q10_S2
  have hI1 := q10_I [1, 2] (by decide)
  have hI2 := q10_I [-3, 4] (by decide)
  have hI3 := q10_I [-5] (by decide)
  (refine SF_of_bodyX (aload tt) (aload_ok tyOK) Tryd.func7 rfl (by kernel_rfl) ?_; simp only [Tryd.ntmps7, List.length_cons, List.length_nil, Nat.reduceAdd, Nat.reduceSub, List.replicate_succ, List.replicate_zero, List.cons_append, List.nil_append])
  repeat (first | (first | (with_reducible first | refine AX_block ?_ | refine AX_skip ?_ | refine AX_exit ?_ | refine AX_ret ?_ | refine AX_ift ?_ | refine AX_iff ?_ | refine AX_seq_k (fun K hK => ?_) | refine ContX.use (by assumption) ?_) | simp only [thenX, inBlockX, if_true, if_false, reduceCtorEq]) | ((first | (refine XRes_litSt tyOK (by rfl) rfl ?_) | (refine XRes_litF tyOK (by rfl) rfl (by decide) rfl rfl ?_) | (refine ADF_litF tyOK (by rfl) rfl (by decide) rfl rfl ?_)); (try (simp only [List.map_cons, List.map_nil, intOf, putL, List.set_cons_succ, List.set_cons_zero]))) | (first | ((first | (with_reducible refine XRes_op tyOK ?_ ?_) | ((with_reducible first | refine ADF_op tyOK ?_ ?_ ?_ | refine ADX_op tyOK ?_ ?_ ?_); (focus rfl)) | (with_reducible refine ADR_alloc1 tyOK ?_ ?_) | ((with_reducible refine ADR_free1 tyOK ?_ ?_ ?_); (focus rfl)) | ((with_reducible refine ADR_free0 tyOK ?_ ?_ ?_); (focus rfl)) | ((with_reducible refine ADR_read1 tyOK ?_ ?_ ?_); (focus rfl)) | (with_reducible refine ADR_chg1 tyOK ?_ ?_)); (focus (first | (with_reducible rfl) | ((simp (disch := omega) only [go_sem]); done))); simp (disch := omega) only [go_sem , hs1, hs2, hs3, hs4, Int.toNat_zero, Int.toNat_one, Int.reduceToNat, List.length_nil, beq_self_eq_true, ba_toList, iFlat, intOf, iRows]; (first | (with_reducible refine XRes_id ?_) | (with_reducible refine ADF_id ?_) | (with_reducible refine ADR_id1 ?_) | (with_reducible refine ADX_id ?_))) | ((first | (with_reducible refine XRes_skip ?_ ?_) | (with_reducible refine ADF_skip (b := true) ?_ ?_) | (with_reducible refine ADX_skip ?_ ?_) | ((with_reducible refine ADR_skip1 ?_ ?_ ?_); (focus rfl))); (focus (first | rfl | ((simp (disch := omega) only [go_sem]); done))); (simp only [putL, List.set_cons_succ, List.set_cons_zero]))) | ((first | (with_reducible refine XRes_nil ?_) | (with_reducible refine ADF_nil ?_) | (with_reducible refine ADR_nil ?_) | (with_reducible refine ADX_nil ?_)); (first | refine hK _ ?_ | refine hK _ _ ?_); clear hK K) | ((first | (with_reducible refine AX_reg0 fun K hK => ?_) | (refine AX_drawG1 tyOK (by kernel_rfl) (by rfl) (by kernel_rfl) fun K hK => ?_) | (refine AX_drawT tyOK (by kernel_rfl) (by decide +kernel) fun K hK => ?_) | (refine AX_drawM1 (by kernel_rfl) (by rfl) (by decide +kernel) fun K hK => ?_) | (refine AX_drawA tyOK (by kernel_rfl) (by decide +kernel) fun K hK => ?_)); (first | simp only [go_sem, preN, effOp, runF, alM, mapOp, alD2, kdOf2, Bool.not_false, Bool.not_true, reduceCtorEq] | simp only [go_sem, preN, effOp, runF, alM, mapOp, Bool.not_false, Bool.not_true, reduceCtorEq] | simp only [go_sem, preN, effOp, runF, alD2, kdOf2, Bool.not_false, Bool.not_true, reduceCtorEq] | simp only [go_sem, alD2, kdOf2, Bool.not_false, Bool.not_true, reduceCtorEq] | simp only [go_sem, preN, effOp, runF, Bool.not_false, Bool.not_true, reduceCtorEq] | simp only [go_sem])) | (first | (first | refine XTL (by rfl) hP1 ?_ | refine ATL tyOK (by rfl) hP1 ?_ | refine XTL (by rfl) hP2 ?_ | refine ATL tyOK (by rfl) hP2 ?_ | refine XTL (by rfl) hP3 ?_ | refine ATL tyOK (by rfl) hP3 ?_ | refine XTL (by rfl) hPr ?_ | refine ATL tyOK (by rfl) hPr ?_ | refine XTL (by rfl) hC1 ?_ | refine ATL tyOK (by rfl) hC1 ?_ | refine XTL (by rfl) hC2 ?_ | refine ATL tyOK (by rfl) hC2 ?_ | refine XTL (by rfl) hSp ?_ | refine ATL tyOK (by rfl) hSp ?_ | refine XTL (by rfl) hS1 ?_ | refine ATL tyOK (by rfl) hS1 ?_ | refine XTL (by rfl) hS2 ?_ | refine ATL tyOK (by rfl) hS2 ?_ | refine XTL (by rfl) hI1 ?_ | refine ATL tyOK (by rfl) hI1 ?_ | refine XTL (by rfl) hI2 ?_ | refine ATL tyOK (by rfl) hI2 ?_ | refine XTL (by rfl) hI3 ?_ | refine ATL tyOK (by rfl) hI3 ?_)))
  (simp only [bodyX]; refine ⟨_, by simp only [aresults, aresult, XS.as, Tryd.results7, aload, go_sem, Option.bind_some]; rfl, ?_⟩)
  exact ⟨ids_idB rfl, rfl, trivial⟩
end Go.Proofs.YtghdacijcnmhlaaDoor
namespace Go.Proofs.YtghdacijcnmhlaaDoor
open Go.RowKit Go.Lib
set_option linter.unusedVariables false
set_option linter.unusedSimpArgs false
structure StMax (xs : List Stp) : Prop where
  len : xs.length ≤ maxLen
  row : ∀ k, (stAt xs k).L.length ≤ maxLen ∧ (stAt xs k).H.length ≤ maxLen
def fewP (xs : List Stp) : Prop := xs.length ≤ 200 ∧ ∀ k, k < xs.length → (stAt xs k).L.length ≤ 60 ∧ (stAt xs k).H.length ≤ 200
theorem fewP_len {xs : List Stp} (h : fewP xs) : StLen xs := ⟨by have := h.1; omega, fun k => by
  by_cases hk : k < xs.length
  · have := h.2 k hk; omega
  · have e : stAt xs k = st0 := by unfold stAt; rw [List.getD_eq_getElem?_getD, List.getElem?_eq_none (by omega)]; rfl
    rw [e]; exact ⟨Nat.zero_le _, Nat.zero_le _⟩⟩
theorem pfB_sum {xs : List Stp} (h : ∀ s ∈ xs, stOk s) : (pfB xs).length ≤ 10 * (xs.map fun s => s.L.length + s.H.length + 3).sum := by
  induction xs with
  | nil => simp [pfB]
  | cons s xs ih =>
    have h1 := stOk_len (h s (by simp))
    have h2 := ih fun t ht => h t (by simp [ht])
    have e : pfB (s :: xs) = stB s ++ pfB xs := rfl
    rw [e, List.length_append, List.map_cons, List.sum_cons]; omega
theorem fewP_sum : ∀ {xs : List Stp}, (∀ k, k < xs.length → (stAt xs k).L.length ≤ 60 ∧ (stAt xs k).H.length ≤ 200) → (xs.map fun s => s.L.length + s.H.length + 3).sum ≤ xs.length * 263
  | [], _ => Nat.le_refl _
  | s :: xs, h => by
    have h1 : s.L.length ≤ 60 ∧ s.H.length ≤ 200 := h 0 (by simp)
    have h2 := fewP_sum (xs := xs) fun k hk => h (k + 1) (by simpa using hk)
    rw [List.map_cons, List.sum_cons, List.length_cons]; omega
theorem fewP_txt {xs : List Stp} (h : fewP xs) (ho : ∀ s ∈ xs, stOk s) : (pfB xs).length ≤ 600000 := by
  have h1 := pfB_sum ho
  have h2 := fewP_sum h.2
  have := h.1
  omega
theorem prp_len {l : List UInt8} (hl : l.length ≤ 100000) : StLen (prp l).1 := by
  obtain ⟨h1, h2, _⟩ := prp_good l
  have h3 := (lnsT_okS hl).len
  refine ⟨by omega, fun k => ?_⟩
  by_cases hk : k < (prp l).1.length
  · obtain ⟨_, a, b, _⟩ := stOk_fit (h1 _ (List.getElem_mem hk))
    rw [stAt_get hk]; omega
  · have e : stAt (prp l).1 k = st0 := by unfold stAt; rw [List.getD_eq_getElem?_getD, List.getElem?_eq_none (by omega)]; rfl
    rw [e]; exact ⟨Nat.zero_le _, Nat.zero_le _⟩
theorem prp_txt {l : List UInt8} : (pfB (prp l).1).length ≤ 10 * l.length := by
  obtain ⟨h1, _, h2⟩ := prp_good l
  have := pfB_sum h1
  omega
theorem rowsOf_lens : ∀ (n : Nat) (l : List Int), l.length ≤ n → (rowsOf l).length ≤ l.length ∧ ∀ r ∈ rowsOf l, r.length ≤ l.length
  | n, [], _ => by rw [rowsOf_nil]; exact ⟨Nat.le_refl _, by simp⟩
  | 0, x :: l, h => by simp at h
  | n + 1, x :: l, h => by
    rw [rowsOf_cons]
    have h1 := (List.dropWhile_sublist nn (l := l)).length_le
    have h2 := (List.takeWhile_sublist nn (l := l)).length_le
    rw [List.length_cons] at h
    obtain ⟨a, b⟩ := rowsOf_lens n (l.dropWhile nn) (by omega)
    refine ⟨by rw [List.length_cons, List.length_cons]; omega, fun r hr => ?_⟩
    rcases List.mem_cons.1 hr with rfl | hr
    · rw [List.length_cons, List.length_cons]; omega
    · have := b r hr; rw [List.length_cons]; omega
theorem spR_len (h : List Int) : (spR h).length ≤ h.length ∧ ∀ k, ((spR h).getD k []).length ≤ h.length := by
  have h1 := (List.dropWhile_sublist nn (l := h)).length_le
  obtain ⟨a, b⟩ := rowsOf_lens _ (h.dropWhile nn) (Nat.le_refl _)
  refine ⟨by unfold spR; omega, fun k => ?_⟩
  by_cases hk : k < (spR h).length
  · rw [List.getD_eq_getElem?_getD, List.getElem?_eq_getElem hk]
    have e2 : (spR h)[k].length ≤ (h.dropWhile nn).length := b _ (List.getElem_mem hk)
    have e : (some (spR h)[k]).getD [] = (spR h)[k] := rfl
    rw [e]
    omega
  · rw [List.getD_eq_getElem?_getD, List.getElem?_eq_none (by omega)]; exact Nat.zero_le _
theorem spA_len (h : List Int) : (spA h).length ≤ h.length := (List.takeWhile_sublist nn (l := h)).length_le
theorem Wb954a {A B : Prop} (h9 : B) (w : B → A := by (intro h9; (repeat intro K hK); refine ⟨?_⟩; (repeat (first | (first | (with_reducible first | refine AX_block ?_ | refine AX_skip ?_ | refine AX_exit ?_ | refine AX_ret ?_ | refine AX_ift ?_ | refine AX_iff ?_ | refine AX_seq_k (fun K hK => ?_) | refine ContX.use (by assumption) ?_) | simp only [thenX, inBlockX, if_true, if_false, reduceCtorEq]) | (first | ((with_reducible refine XOP tyOK ?_); simp (disch := omega) only [go_sem , hs1, hs2, hs3, hs4, hs5, stG_0, stG_1, stG_2, stG_3, iInts, Int.toNat_zero, Int.toNat_one, Int.toNat_natCast, List.length_nil, ba_size, beq_self_eq_true]; (with_reducible refine XRes_id ?_)) | (with_reducible refine XSK ?_)) | ((with_reducible refine XRes_nil ?_); refine hK _ ?_; clear hK K) | ((with_reducible refine AX_reg0 fun K hK => ?_); simp only [go_sem]) | (first | (first | refine XTL (by rfl) hAw ?_ | refine XTL (by rfl) hP1 ?_ | refine XTL (by rfl) hP2 ?_ | refine XTL (by rfl) hS1 ?_ | refine XTL (by rfl) hF1 ?_ | refine XTL (by rfl) hF2 ?_ | refine XTL (by rfl) hC1 ?_ | refine XTL (by rfl) hC2 ?_ | refine XTL (by rfl) hT1 ?_ | refine XTL (by rfl) hT2 ?_ | refine XTL (by rfl) hD1 ?_ | refine XTL (by rfl) hD2 ?_ | refine XTL (by rfl) hS2 ?_ | refine XTL (by rfl) hI1 ?_ | refine XTL (by rfl) hI2 ?_)))); refine Wk.o ?_; (repeat revert hK K); exact h9)) : A := w h9
set_option maxRecDepth 100000 in
set_option maxHeartbeats 4000000 in
theorem pf_few10 (xs : List Stp) (hx : StMax xs) : PF Tryd.prog 11 [.iv (iSts xs)] fun r H' => ∃ b, r = lt (.bool b) ∧ (b = true ↔ fewP xs) ∧ H' = [] := by
  refine SF.forgetAll ?_
  have hs1 := trivial; have hs2 := trivial; have hs3 := trivial; have hs4 := trivial; have hs5 := trivial; have hAw := trivial; have hP1 := trivial; have hP2 := trivial; have hS1 := trivial; have hF1 := trivial; have hF2 := trivial; have hC1 := trivial; have hC2 := trivial; have hT1 := trivial; have hT2 := trivial; have hD1 := trivial; have hD2 := trivial; have hS2 := trivial; have hI1 := trivial; have hI2 := trivial
  have hxl := hx.len
  unfold maxLen at hxl
  unfold iSts
  by_cases hl : xs.length ≤ 200
  · have hs1 : decide ((200 : Int) < (xs.length : Int)) = false := decide_eq_false (by omega)
    (refine SF_of_bodyX (aload tt) (aload_ok tyOK) Tryd.func11 rfl (by kernel_rfl) ?_; simp only [Tryd.ntmps11, List.length_cons, List.length_nil, Nat.reduceAdd, Nat.reduceSub, List.replicate_succ, List.replicate_zero, List.cons_append, List.nil_append])
    (refine Wk.o ?_; (repeat revert hK K); refine Wb954a ?_; (repeat intro K hK); refine ⟨?_⟩)
    (refine AWH (σ := Nat) [7, 8, 9, 10, 13, 14, 15, 16, 17, 18, 19, 20, 21, 22, 23, 24, 25, 26, 27, 28, 2, 11, 12] (fun k => [(3, lint k)]) (fun k => []) (fun k => []) (fun k => k ≤ xs.length ∧ ∀ j, j < k → (stAt xs j).L.length ≤ 60 ∧ (stAt xs j).H.length ≤ 200) (fun k => xs.length - k) 0 (by first | exact ⟨Nat.zero_le _, fun j h => absurd h (by omega)⟩) ?_; rintro k d fr hfr ⟨hk, hj⟩; simp only [updS, deadS, List.set_cons_succ, List.set_cons_zero, lint] at hfr; subst hfr; (try dsimp only))
    by_cases hlt : k < xs.length
    · have hs2 : decide ((k : Int) < (xs.length : Int)) = true := decide_eq_true (by omega)
      obtain ⟨m1, m2⟩ := hx.row k
      unfold maxLen at m1 m2
      by_cases h1 : (stAt xs k).L.length ≤ 60
      · have hs3 : decide ((60 : Int) < ((stAt xs k).L.length : Int)) = false := decide_eq_false (by omega)
        by_cases h2 : (stAt xs k).H.length ≤ 200
        · have hs4 : decide ((200 : Int) < ((stAt xs k).H.length : Int)) = false := decide_eq_false (by omega)
          have hI : k + 1 ≤ xs.length ∧ ∀ j, j < k + 1 → (stAt xs j).L.length ≤ 60 ∧ (stAt xs j).H.length ≤ 200 := ⟨by omega, fun j h => by
            rcases Nat.lt_or_ge j k with h3 | h3
            · exact hj j h3
            · rw [show j = k by omega]; exact ⟨h1, h2⟩⟩
          (refine Wk.o ?_; (repeat revert hK K); refine Wb954a ?_; (repeat intro K hK); refine ⟨?_⟩)
          exact WEND (k + 1) hI (by (first | omega | (dsimp only; omega) | (simp only; omega)))
        · have hs4 : decide ((200 : Int) < ((stAt xs k).H.length : Int)) = true := decide_eq_true (by omega)
          (refine Wk.o ?_; (repeat revert hK K); refine Wb954a ?_; (repeat intro K hK); refine ⟨?_⟩)
          (simp only [bodyX]; refine ⟨_, by simp only [aresults, aresult, XS.as, Tryd.results11, aload, go_sem, Option.bind_some]; rfl, ?_⟩)
          exact ⟨.iv _, false, rfl, ⟨(fun h => by cases h), fun h => absurd (h.2 k hlt).2 h2⟩, trivial⟩
      · have hs3 : decide ((60 : Int) < ((stAt xs k).L.length : Int)) = true := decide_eq_true (by omega)
        (refine Wk.o ?_; (repeat revert hK K); refine Wb954a ?_; (repeat intro K hK); refine ⟨?_⟩)
        (simp only [bodyX]; refine ⟨_, by simp only [aresults, aresult, XS.as, Tryd.results11, aload, go_sem, Option.bind_some]; rfl, ?_⟩)
        exact ⟨.iv _, false, rfl, ⟨(fun h => by cases h), fun h => absurd (h.2 k hlt).1 h1⟩, trivial⟩
    · obtain rfl : k = xs.length := by omega
      have hs2 : decide ((xs.length : Int) < (xs.length : Int)) = false := decide_eq_false (by omega)
      (refine Wk.o ?_; (repeat revert hK K); refine Wb954a ?_; (repeat intro K hK); refine ⟨?_⟩)
      (simp only [bodyX]; refine ⟨_, by simp only [aresults, aresult, XS.as, Tryd.results11, aload, go_sem, Option.bind_some]; rfl, ?_⟩)
      exact ⟨.iv _, true, rfl, ⟨fun _ => ⟨hl, hj⟩, fun _ => rfl⟩, trivial⟩
  · have hs1 : decide ((200 : Int) < (xs.length : Int)) = true := decide_eq_true (by omega)
    (refine SF_of_bodyX (aload tt) (aload_ok tyOK) Tryd.func11 rfl (by kernel_rfl) ?_; simp only [Tryd.ntmps11, List.length_cons, List.length_nil, Nat.reduceAdd, Nat.reduceSub, List.replicate_succ, List.replicate_zero, List.cons_append, List.nil_append])
    (refine Wk.o ?_; (repeat revert hK K); refine Wb954a ?_; (repeat intro K hK); refine ⟨?_⟩)
    (simp only [bodyX]; refine ⟨_, by simp only [aresults, aresult, XS.as, Tryd.results11, aload, go_sem, Option.bind_some]; rfl, ?_⟩)
    exact ⟨.iv _, false, rfl, ⟨(fun h => by cases h), fun h => absurd h.1 hl⟩, trivial⟩
theorem pf_few10b (xs : List Stp) (hx : StMax xs) : ∃ b, (b = true ↔ fewP xs) ∧ PF Tryd.prog 11 [.iv (iSts xs)] fun r H' => r = lt (.bool b) ∧ H' = [] := by
  by_cases h : fewP xs
  · exact ⟨true, ⟨fun _ => h, fun _ => rfl⟩, (pf_few10 xs hx).mono fun r H' ⟨b, h1, h2, h3⟩ => by
      have : b = true := h2.2 h
      subst this; exact ⟨h1, h3⟩⟩
  · exact ⟨false, ⟨(fun h => by cases h), fun h2 => absurd h2 h⟩, (pf_few10 xs hx).mono fun r H' ⟨b, h1, h2, h3⟩ => by
      have : b = false := by cases b with | false => rfl | true => exact absurd (h2.1 rfl) h
      subst this; exact ⟨h1, h3⟩⟩
set_option maxRecDepth 100000 in
set_option maxHeartbeats 4000000 in
theorem pf_ProofReads (s : ByteArray) (hsz : s.size ≤ maxLen) : PF Tryd.prog 3 [lt (.string s)] fun r H' => r = lt (.bool true) ∧ H' = [] := by
  refine SF.forgetAll ?_
  have hs1 := trivial; have hs2 := trivial; have hs3 := trivial; have hs4 := trivial; have hs5 := trivial; have hAw := trivial; have hP1 := trivial; have hP2 := trivial; have hS1 := trivial; have hF1 := trivial; have hF2 := trivial; have hC1 := trivial; have hC2 := trivial; have hT1 := trivial; have hT2 := trivial; have hD1 := trivial; have hD2 := trivial; have hS2 := trivial; have hI1 := trivial; have hI2 := trivial
  have hAw := pf_awake10
  unfold maxLen at hsz
  by_cases h3 : s.size ≤ 3000
  · have hs1 : decide ((3000 : Int) < (s.size : Int)) = false := decide_eq_false (by omega)
    obtain ⟨l, rfl⟩ : ∃ l, s = ba l := ⟨s.data.toList, by apply ByteArray.ext; unfold ba; simp⟩
    have hl : l.length ≤ 3000 := by rwa [ba_size] at h3
    rw [ba_size] at hs1
    have hok := lnsT_okS (l := l) (by omega)
    have hP1 := pf_prParse l (by omega) hok
    have hP2 := pf_rpParse l (by omega) hok
    have hlen := prp_len (l := l) (by omega)
    have hS1 := pf_rpSame (prp l).1 (prp l).1 hlen hlen
    rw [decide_eq_true (rfl : (prp l).1 = (prp l).1)] at hS1
    generalize prp l = q at *
    (refine SF_of_bodyX (aload tt) (aload_ok tyOK) Tryd.func3 rfl (by kernel_rfl) ?_; simp only [Tryd.ntmps3, List.length_cons, List.length_nil, Nat.reduceAdd, Nat.reduceSub, List.replicate_succ, List.replicate_zero, List.cons_append, List.nil_append])
    (refine Wk.o ?_; (repeat revert hK K); refine Wb954a ?_; (repeat intro K hK); refine ⟨?_⟩)
    (simp only [bodyX]; refine ⟨_, by simp only [aresults, aresult, XS.as, Tryd.results3, aload, go_sem, Option.bind_some]; rfl, ?_⟩)
    exact ⟨ids_idB rfl, rfl, trivial⟩
  · have hs1 : decide ((3000 : Int) < (s.size : Int)) = true := decide_eq_true (by omega)
    (refine SF_of_bodyX (aload tt) (aload_ok tyOK) Tryd.func3 rfl (by kernel_rfl) ?_; simp only [Tryd.ntmps3, List.length_cons, List.length_nil, Nat.reduceAdd, Nat.reduceSub, List.replicate_succ, List.replicate_zero, List.cons_append, List.nil_append])
    (refine Wk.o ?_; (repeat revert hK K); refine Wb954a ?_; (repeat intro K hK); refine ⟨?_⟩)
    (simp only [bodyX]; refine ⟨_, by simp only [aresults, aresult, XS.as, Tryd.results3, aload, go_sem, Option.bind_some]; rfl, ?_⟩)
    exact ⟨ids_idB rfl, rfl, trivial⟩
end Go.Proofs.YtghdacijcnmhlaaDoor
namespace Go.Proofs.YtghdacijcnmhlaaDoor
open Go.RowKit Go.Lib
set_option linter.unusedVariables false
set_option linter.unusedSimpArgs false
theorem pf_chk1 (xs : List Stp) (k : Nat) (hk : k < xs.length) (ho : stOk (stAt xs k)) : PF Tryd.prog 12 [.iv (.sl (fun j => stG xs (k * 4 + j)) 1 4)] fun r H' => r = .tup [lt (.int .i64 1), lt (.int .i64 0)] ∧ H' = [] := by
  obtain ⟨_, a, b, _⟩ := stOk_fit ho
  have hl : StLen [stAt xs k] := ⟨by simp, fun j => by
    match j with
    | 0 => exact ⟨by show (stAt xs k).L.length ≤ _; omega, by show (stAt xs k).H.length ≤ _; omega⟩
    | j + 1 => exact ⟨Nat.zero_le _, Nat.zero_le _⟩⟩
  have hok : ∀ s ∈ [stAt xs k], stOk s := fun s hs => by rw [List.mem_singleton] at hs; subst hs; exact ho
  have h := pf_prCheck [stAt xs k] hl
  rw [(ck_ok hok).1, (ck_ok hok).2] at h
  refine SF.args h fun G vs hr => ?_
  obtain ⟨u, us, rfl, h1, hr⟩ := hr.uncons
  refine RL.cons (RA.congr h1 fun j hj => ?_) hr
  match j, hj with
  | 0, _ => exact stG_0 xs k
  | 1, _ => exact stG_1 xs k
  | 2, _ => exact stG_2 xs k
  | 3, _ => exact stG_3 xs k
theorem W9e69a {A B : Prop} (h9 : B) (w : B → A := by (intro h9; (repeat intro K hK); refine ⟨?_⟩; (repeat (first | (first | (with_reducible first | refine AX_block ?_ | refine AX_skip ?_ | refine AX_exit ?_ | refine AX_ret ?_ | refine AX_ift ?_ | refine AX_iff ?_ | refine AX_seq_k (fun K hK => ?_) | refine ContX.use (by assumption) ?_) | simp only [thenX, inBlockX, if_true, if_false, reduceCtorEq]) | (first | ((first | (with_reducible refine XRes_op tyOK ?_ ?_) | ((with_reducible first | refine ADF_op tyOK ?_ ?_ ?_ | refine ADX_op tyOK ?_ ?_ ?_); (focus rfl)) | (with_reducible refine ADR_alloc1 tyOK ?_ ?_) | ((with_reducible refine ADR_free1 tyOK ?_ ?_ ?_); (focus rfl)) | ((with_reducible refine ADR_free0 tyOK ?_ ?_ ?_); (focus rfl)) | ((with_reducible refine ADR_read1 tyOK ?_ ?_ ?_); (focus rfl)) | (with_reducible refine ADR_chg1 tyOK ?_ ?_)); (focus (first | (with_reducible rfl) | ((simp (disch := omega) only [go_sem]); done))); simp (disch := omega) only [go_sem , hs1, hs2, hs3, hs4, hs5, hs6, hs7, hs8, hs9, stG_0, stG_1, stG_2, stG_3, Int.toNat_zero, Int.toNat_one, Int.toNat_natCast, List.length_nil, ba_size, ba_app, beq_self_eq_true, bne_self_eq_false, List.length_append, List.length_cons]; (first | (with_reducible refine XRes_id ?_) | (with_reducible refine ADF_id ?_) | (with_reducible refine ADR_id1 ?_) | (with_reducible refine ADX_id ?_))) | ((first | (with_reducible refine XRes_skip ?_ ?_) | (with_reducible refine ADF_skip (b := true) ?_ ?_) | (with_reducible refine ADX_skip ?_ ?_) | ((with_reducible refine ADR_skip1 ?_ ?_ ?_); (focus rfl))); (focus (first | rfl | ((simp (disch := omega) only [go_sem]); done))); (simp only [putL, List.set_cons_succ, List.set_cons_zero]))) | ((first | (with_reducible refine XRes_nil ?_) | (with_reducible refine ADF_nil ?_) | (with_reducible refine ADR_nil ?_) | (with_reducible refine ADX_nil ?_)); (first | refine hK _ ?_ | refine hK _ _ ?_); clear hK K) | (first | (first | refine XTL (by rfl) hAw ?_ | refine ATL tyOK (by rfl) hAw ?_ | refine XTL (by rfl) hP1 ?_ | refine ATL tyOK (by rfl) hP1 ?_ | refine XTL (by rfl) hP2 ?_ | refine ATL tyOK (by rfl) hP2 ?_ | refine XTL (by rfl) hLn ?_ | refine ATL tyOK (by rfl) hLn ?_ | refine XTL (by rfl) hC1 ?_ | refine ATL tyOK (by rfl) hC1 ?_)) | ((with_reducible refine AX_reg0 fun K hK => ?_); simp only [go_sem]))); refine Wk.o ?_; (repeat revert hK K); exact h9)) : A := w h9
set_option maxRecDepth 100000 in
set_option maxHeartbeats 8000000 in
theorem pf_ProofPlaces (s t : ByteArray) (hsz : s.size ≤ maxLen) (htz : t.size ≤ maxLen) : PF Tryd.prog 6 [lt (.string s), lt (.string t)] fun r H' => r = lt (.bool true) ∧ H' = [] := by
  refine SF.forgetAll ?_
  have hs1 := trivial; have hs2 := trivial; have hs3 := trivial; have hs4 := trivial; have hs5 := trivial; have hs6 := trivial; have hs7 := trivial; have hs8 := trivial; have hs9 := trivial; have hAw := trivial; have hP1 := trivial; have hP2 := trivial; have hLn := trivial; have hC1 := trivial
  have hAw := pf_awake10
  unfold maxLen at hsz htz
  by_cases h3 : s.size ≤ 3000
  · by_cases h4 : t.size ≤ 300
    · obtain ⟨l, rfl⟩ : ∃ l, s = ba l := ⟨s.data.toList, by apply ByteArray.ext; unfold ba; simp⟩
      obtain ⟨b, rfl⟩ : ∃ b, t = ba b := ⟨t.data.toList, by apply ByteArray.ext; unfold ba; simp⟩
      rw [ba_size] at h3 h4 hsz htz
      have hs1 : decide ((3000 : Int) < (l.length : Int)) = false := decide_eq_false (by omega)
      have hs2 : decide ((300 : Int) < (b.length : Int)) = false := decide_eq_false (by omega)
      have hok := lnsT_okS (l := l) (by omega)
      have hP1 := pf_prParse l (by omega) hok
      have hlk : (l ++ 10 :: b).length ≤ 3301 := by rw [List.length_append, List.length_cons]; omega
      have hok2 := lnsT_okS (l := l ++ 10 :: b) (by omega)
      have hP2 := pf_prParse (l ++ 10 :: b) (by omega) hok2
      have hLn := pf_LinesT l (by omega)
      obtain ⟨g1, g2⟩ := prp_edge l
      obtain ⟨g3, g4, _⟩ := prp_good l
      have hLl := hok.len
      have happ := @prp_app l b
      have hs6 : (⟨#[10]⟩ : ByteArray) = ba [10] := rfl
      have hs7 : l ++ [10] ++ b = l ++ 10 :: b := by simp
      generalize prp (l ++ 10 :: b) = P2 at *
      generalize prp l = q at *
      obtain ⟨xs, at1, e⟩ := q
      dsimp only at *
      by_cases he : e = 0
      · subst he
        have hat : at1 = l.length := g1 rfl
        subst hat
        have hs3 : decide ((l.length : Int) < 0) = false := decide_eq_false (by omega)
        have hs4 : decide ((l.length : Int) < (l.length : Int)) = false := decide_eq_false (by omega)
        unfold iSts at hP1
        clear hP2 hLn
        have hP2 := trivial; have hLn := trivial
        (refine SF_of_bodyX (aload tt) (aload_ok tyOK) Tryd.func6 rfl (by kernel_rfl) ?_; simp only [Tryd.ntmps6, List.length_cons, List.length_nil, Nat.reduceAdd, Nat.reduceSub, List.replicate_succ, List.replicate_zero, List.cons_append, List.nil_append])
        (refine Wk.o ?_; (repeat revert hK K); refine W9e69a ?_; (repeat intro K hK); refine ⟨?_⟩)
        (refine AWH (σ := Nat) [50, 51, 52, 53, 57, 58, 59, 60, 61, 62, 56, 63, 64, 9, 10, 65, 66, 67, 68, 69, 70, 4, 54, 55] (fun k => [(8, lint k)]) (fun k => []) (fun k => []) (fun k => k ≤ xs.length) (fun k => xs.length - k) 0 (by first | exact Nat.zero_le _) ?_; rintro k d fr hfr hk; simp only [updS, deadS, List.set_cons_succ, List.set_cons_zero, lint] at hfr; subst hfr; (try dsimp only))
        by_cases hlt : k < xs.length
        · have hs5 : decide ((k : Int) < (xs.length : Int)) = true := decide_eq_true (by omega)
          have hC1 := pf_chk1 xs k hlt (by rw [stAt_get hlt]; exact g3 _ (List.getElem_mem hlt))
          have hs8 : (k + 1) - k = 1 := by omega
          (refine Wk.o ?_; (repeat revert hK K); refine W9e69a ?_; (repeat intro K hK); refine ⟨?_⟩)
          exact WEND (k + 1) (show k + 1 ≤ xs.length by omega) (by (first | omega | (dsimp only; omega) | (simp only; omega)))
        · have hs5 : decide ((k : Int) < (xs.length : Int)) = false := decide_eq_false (by omega)
          (refine Wk.o ?_; (repeat revert hK K); refine W9e69a ?_; (repeat intro K hK); refine ⟨?_⟩)
          (simp only [bodyX]; refine ⟨_, by simp only [aresults, aresult, XS.as, Tryd.results6, aload, go_sem, Option.bind_some]; rfl, ?_⟩)
          exact ⟨ids_idB rfl, rfl, trivial⟩
      · obtain ⟨rfl, ⟨p1, p2⟩, p3⟩ := g2 he
        have hP2e := happ he
        subst hP2e
        have hs3 : decide (at1 < 0) = false := decide_eq_false (by omega)
        have hs4 : decide ((l.length : Int) < at1) = false := decide_eq_false (by omega)
        have hs5 : (e == 0) = false := by simpa using he
        have hs8 : decide ((0 : Int) < ((lnsT l).length : Int)) = true := decide_eq_true (by omega)
        have hU : iLs (lnsT l) = .sl (fun j => iTokL ((lnsT l).getD j [])) (lnsT l).length 1 := rfl
        rw [hU] at hLn
        dsimp only at hP2
        unfold iSts at hP1 hP2
        generalize lnsT l = L at *
        (refine SF_of_bodyX (aload tt) (aload_ok tyOK) Tryd.func6 rfl (by kernel_rfl) ?_; simp only [Tryd.ntmps6, List.length_cons, List.length_nil, Nat.reduceAdd, Nat.reduceSub, List.replicate_succ, List.replicate_zero, List.cons_append, List.nil_append])
        (refine Wk.o ?_; (repeat revert hK K); refine W9e69a ?_; (repeat intro K hK); refine ⟨?_⟩)
        (simp only [bodyX]; refine ⟨_, by simp only [aresults, aresult, XS.as, Tryd.results6, aload, go_sem, Option.bind_some]; rfl, ?_⟩)
        exact ⟨ids_idB rfl, rfl, trivial⟩
    · obtain ⟨l, rfl⟩ : ∃ l, s = ba l := ⟨s.data.toList, by apply ByteArray.ext; unfold ba; simp⟩
      rw [ba_size] at h3
      have hs1 : decide ((3000 : Int) < (l.length : Int)) = false := decide_eq_false (by omega)
      have hs2 : decide ((300 : Int) < (t.size : Int)) = true := decide_eq_true (by omega)
      (refine SF_of_bodyX (aload tt) (aload_ok tyOK) Tryd.func6 rfl (by kernel_rfl) ?_; simp only [Tryd.ntmps6, List.length_cons, List.length_nil, Nat.reduceAdd, Nat.reduceSub, List.replicate_succ, List.replicate_zero, List.cons_append, List.nil_append])
      (refine Wk.o ?_; (repeat revert hK K); refine W9e69a ?_; (repeat intro K hK); refine ⟨?_⟩)
      (simp only [bodyX]; refine ⟨_, by simp only [aresults, aresult, XS.as, Tryd.results6, aload, go_sem, Option.bind_some]; rfl, ?_⟩)
      exact ⟨ids_idB rfl, rfl, trivial⟩
  · have hs1 : decide ((3000 : Int) < (s.size : Int)) = true := decide_eq_true (by omega)
    (refine SF_of_bodyX (aload tt) (aload_ok tyOK) Tryd.func6 rfl (by kernel_rfl) ?_; simp only [Tryd.ntmps6, List.length_cons, List.length_nil, Nat.reduceAdd, Nat.reduceSub, List.replicate_succ, List.replicate_zero, List.cons_append, List.nil_append])
    (refine Wk.o ?_; (repeat revert hK K); refine W9e69a ?_; (repeat intro K hK); refine ⟨?_⟩)
    (simp only [bodyX]; refine ⟨_, by simp only [aresults, aresult, XS.as, Tryd.results6, aload, go_sem, Option.bind_some]; rfl, ?_⟩)
    exact ⟨ids_idB rfl, rfl, trivial⟩
end Go.Proofs.YtghdacijcnmhlaaDoor
namespace Go.Proofs.YtghdacijcnmhlaaDoor
open Go.RowKit
set_option linter.unusedVariables false
theorem proofReads_walk (w : World) (hB : BaseAt fun b => w.heap[b]?) (s : ByteArray) (hs : s.size ≤ maxLen) :
    Calls Tryd.prog 3 #[.string s] w fun e w' => e = .returned (.bool true) ∧ Below w.heap.size w w' :=
  haveI := hB
  law_of (SF.mono (pf_ProofReads s hs) fun r H' h => h.1) w _ (RL.one (.iv _ _ (.lit _)))
theorem proofPlaces_walk (w : World) (hB : BaseAt fun b => w.heap[b]?) (s : ByteArray) (hs : s.size ≤ maxLen) (t : ByteArray) (ht : t.size ≤ maxLen) :
    Calls Tryd.prog 6 #[.string s, .string t] w fun e w' => e = .returned (.bool true) ∧ Below w.heap.size w w' :=
  haveI := hB
  law_of (SF.mono (pf_ProofPlaces s t hs ht) fun r H' h => h.1) w _ (RL.two (.iv _ _ (.lit _)) (.iv _ _ (.lit _)))
end Go.Proofs.YtghdacijcnmhlaaDoor
