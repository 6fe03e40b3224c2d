import Derived.Test.YtghdacijcnmhlaaDoorMgBL
import Derived.Test.YtghdacijcnmhlaaDoorMgBN
import Derived.Test.YtghdacijcnmhlaaDoorMgBI
import Derived.Test.YtghdacijcnmhlaaDoorMgBD
import Derived.Test.YtghdacijcnmhlaaDoorMgAW
import Derived.Deep.Fields
namespace Go.Proofs.YtghdacijcnmhlaaDoor
open Go.RowKit Go.Lib
set_option linter.unusedVariables false
set_option linter.unusedSimpArgs false
theorem mem_sum10 : ∀ (xs : List Nat) (x : Nat), x ∈ xs → x ≤ xs.sum
  | y :: xs, x, h => by
    rw [List.sum_cons]
    rcases List.mem_cons.1 h with rfl | h
    · omega
    · have := mem_sum10 xs x h; omega
theorem lnsT_ok10 {l : List UInt8} (hl : l.length ≤ 1000000) (hn : (lns 1 0 l).length ≤ 100000) : LsOK (lnsT l) := by
  have hs := lns_sum l.length 1 0 l (Nat.le_refl _)
  have hc := chain_rows _ _ _ (lns_rows l)
  refine ⟨by unfold lnsT; rw [List.length_map]; omega, fun T hT => ?_⟩
  have hm : ∀ t ∈ T, 0 ≤ t.2.1 ∧ t.2.1 + ((t.2.2.length : Nat) : Int) ≤ l.length := fun t ht => chain_in hc t (lnsT_all hT ht)
  have hg : ∀ j, T.getD j tok0 = tok0 ∨ T.getD j tok0 ∈ T := fun j => by
    by_cases hj : j < T.length
    · exact .inr (getP_mem hj)
    · exact .inl (by rw [List.getD_eq_getElem?_getD, List.getElem?_eq_none (by omega)]; rfl)
  have hTl : T.length ≤ l.length := by
    have h1 := lnsT_toks l
    have h2 := mem_sum10 _ _ (List.mem_map.2 ⟨T, hT, rfl⟩ : T.length ∈ (lnsT l).map List.length)
    omega
  refine ⟨by omega, fun j => ?_, fun j => ?_⟩
  · rcases hg j with h | h
    · rw [h]; simp [tok0]
    · have := hm _ h; omega
  · rcases hg j with h | h
    · rw [h]; simp [tok0]
    · have := hm _ h; omega
theorem lnsT_okS {l : List UInt8} (hl : l.length ≤ 100000) : LsOK (lnsT l) :=
  lnsT_ok10 (by omega) (by have hs := lns_sum l.length 1 0 l (Nat.le_refl _); omega)
def tp1 : List UInt8 := [53, 32, 49, 32, 45, 50, 32, 48, 32, 51, 32, 45, 52, 32, 48, 10, 53, 32, 100, 32, 49, 32, 50, 32, 48, 10]
theorem lns_p1 : lns 1 0 tp1 = [(1, 0, [(0, [53]), (2, [49]), (4, [45, 50]), (7, [48]), (9, [51]), (11, [45, 52]), (14, [48])]), (2, 16, [(0, [53]), (2, [100]), (4, [49]), (6, [50]), (8, [48])])] := by
  unfold tp1
  simp [lns, lnLen, noNl, lineTk, remark, hasPrefix, tk, isSp, noSp, List.takeWhile, List.dropWhile]
def tp2 : List UInt8 := [53, 32, 49, 32, 45, 50, 32, 48, 32, 51]
theorem lns_p2 : lns 1 0 tp2 = [(1, 0, [(0, [53]), (2, [49]), (4, [45, 50]), (7, [48]), (9, [51])])] := by
  unfold tp2
  simp [lns, lnLen, noNl, lineTk, remark, hasPrefix, tk, isSp, noSp, List.takeWhile, List.dropWhile]
def tp3 : List UInt8 := [53, 32, 49, 32, 49, 32, 48, 32, 48]
theorem lns_p3 : lns 1 0 tp3 = [(1, 0, [(0, [53]), (2, [49]), (4, [49]), (6, [48]), (8, [48])])] := by
  unfold tp3
  simp [lns, lnLen, noNl, lineTk, remark, hasPrefix, tk, isSp, noSp, List.takeWhile, List.dropWhile]
instance : DecidableEq Tok3 := inferInstanceAs (DecidableEq (_ × _ × _))
def p10 : List Stp := [⟨1, 5, [1, -2], [3, -4]⟩, ⟨2, 5, [], [1, 2]⟩]
theorem prp_1 : prp tp1 = (p10, 26, 0) := by unfold prp lnsT; rw [lns_p1]; decide +kernel
theorem prp_2 : prp tp2 = ([], 10, 4) := by unfold prp lnsT; rw [lns_p2]; decide +kernel
theorem prp_3 : prp tp3 = ([], 4, 21) := by unfold prp lnsT; rw [lns_p3]; decide +kernel
theorem pfB_1 : pfB p10 = tp1 := by decide +kernel
theorem p10_ok : ∀ s ∈ p10, stOk s := by decide +kernel
theorem spR_1 : spR [1, 2, -3, 4, -5] = [[-3, 4], [-5]] := by simp [spR, rowsOf, nn, List.dropWhile, List.takeWhile]
theorem spA_1 : spA [1, 2, -3, 4, -5] = [1, 2] := by decide +kernel
theorem p10_len : StLen p10 := ⟨by decide, fun k => by
  match k with
  | 0 => decide
  | 1 => decide
  | k + 2 => exact ⟨Nat.zero_le _, Nat.zero_le _⟩⟩
theorem p11_len : StLen [⟨1, 5, [1, -2], [3, -4]⟩] := ⟨by decide, fun k => by
  match k with
  | 0 => decide
  | k + 1 => exact ⟨Nat.zero_le _, Nat.zero_le _⟩⟩
theorem p12_len : StLen [⟨1, 0, [], []⟩] := ⟨by decide, fun k => by
  match k with
  | 0 => decide
  | k + 1 => exact ⟨Nat.zero_le _, Nat.zero_le _⟩⟩
section
variable {P : Program} {tt : TT} {m : Nat} {Q : Exit → XS → Prop} {fr : List AV} {H : AHeap} {M : MS} {l : List Oper}
theorem XRes_litSt (hT : TyOK P tt) {d : Option Tmp} {t n : Nat} {ps : Array (Nat × Operand)} {ty : TypeId} {pos : String} {after : Array Edge} {g : Option (Nat × Bool)} (hw : wantedS fr ⟨d, .buildSlice t n ps, ty, pos, after, g⟩ = some true)
    {e : TypeId} (ha : abuildSlice tt [] t n (ps.toList.map fun p => (p.1, AS.ev ⟨fr, H⟩ p.2)) = some (.osl 0 0 1 4, [some ⟨e, [lt (.int .i64 1), lt (.int .i64 0), lt (.slice none 0 0), lt (.slice none 0 0)]⟩]))
    (h : XRes P m Q (l, ⟨putL fr d (.iv (iSts [⟨1, 0, [], []⟩])), H, M⟩)) : XRes P m Q (⟨d, .buildSlice t n ps, ty, pos, after, g⟩ :: l, ⟨fr, H, M⟩) := by
  obtain ⟨len', sz', e1, e2⟩ := abuildSlice_at ha
  cases e1
  refine XRes_lit hT (iSts [⟨1, 0, [], []⟩]) hw (x := .osl H.length 0 1 4) (obj := ⟨e, [lt (.int .i64 1), lt (.int .i64 0), lt (.slice none 0 0), lt (.slice none 0 0)]⟩) (by simp only [aop]; exact e2 H) ?_ h
  refine .osl _ 0 1 4 _ (⟨e, [lt (.int .i64 1), lt (.int .i64 0), lt (.slice none 0 0), lt (.slice none 0 0)]⟩ : AObj) (fun j => [lt (.int .i64 1), lt (.int .i64 0), lt (.slice none 0 0), lt (.slice none 0 0)].getD j uD) (by decide) (only_mk (by simp) (by simp)) (fun j hj => ?_) fun j hj => ?_
  · match j, hj with | 0, _ | 1, _ | 2, _ | 3, _ => rfl
  · match j, hj with
    | 0, _ => exact .iv _
    | 1, _ => exact .iv _
    | 2, _ => exact .nil _ _
    | 3, _ => exact .nil _ _
end
theorem q10_P1 : PF Tryd.prog 8 [lt (.string (ba tp1))] fun r H' => r = .tup [.iv (.sl (stG p10) 2 4), lt (.int .i64 26), lt (.int .i64 0)] ∧ H' = [] := by
  have h := pf_prParse tp1 (by decide) (lnsT_okS (by decide))
  rw [prp_1] at h; exact h
theorem q10_P2 : PF Tryd.prog 8 [lt (.string (ba tp2))] fun r H' => r = .tup [.iv (iSts []), lt (.int .i64 10), lt (.int .i64 4)] ∧ H' = [] := by
  have h := pf_prParse tp2 (by decide) (lnsT_okS (by decide))
  rw [prp_2] at h; exact h
theorem q10_P3 : PF Tryd.prog 8 [lt (.string (ba tp3))] fun r H' => r = .tup [.iv (iSts []), lt (.int .i64 4), lt (.int .i64 21)] ∧ H' = [] := by
  have h := pf_prParse tp3 (by decide) (lnsT_okS (by decide))
  rw [prp_3] at h; exact h
theorem q10_Pr : PF Tryd.prog 14 [.iv (.sl (stG p10) 2 4)] fun r H' => r = .tup [lt (.string (ba tp1)), lt (.int .i64 0)] ∧ H' = [] := by
  have h := pf_prPrint p10 p10_len (fun _ => by rw [pfB_1]; decide)
  unfold prT at h
  rw [(ck_ok p10_ok).2, if_pos rfl, pfB_1] at h; exact h
theorem q10_C1 : PF Tryd.prog 12 [.iv (.sl (stG p10) 2 4)] fun r H' => r = .tup [lt (.int .i64 2), lt (.int .i64 0)] ∧ H' = [] := by
  have h := pf_prCheck p10 p10_len
  rw [(ck_ok p10_ok).2, (ck_ok p10_ok).1] at h; exact h
theorem q10_C2 : PF Tryd.prog 12 [.iv (iSts [⟨1, 0, [], []⟩])] fun r H' => r = .tup [lt (.int .i64 0), lt (.int .i64 2)] ∧ H' = [] := by
  have h := pf_prCheck [⟨1, 0, [], []⟩] p12_len
  rw [show ckB [⟨1, 0, [], []⟩] = 0 by decide +kernel, show ckE [⟨1, 0, [], []⟩] = 2 by decide +kernel] at h; exact h
theorem q10_Sp : PF Tryd.prog 16 [.iv (iInts [1, 2, -3, 4, -5])] fun r H' => r = .tup [.iv (iInts [1, 2]), .iv (iRows [[-3, 4], [-5]])] ∧ H' = [] := by
  have h := pf_prSplit [1, 2, -3, 4, -5] (by decide)
  rw [spA_1, spR_1] at h; exact h
theorem q10_S1 : PF Tryd.prog 18 [.iv (.sl (stG p10) 2 4), .iv (.sl (stG p10) 2 4)] fun r H' => r = lt (.bool true) ∧ H' = [] := by
  have h := pf_prSame p10 p10 p10_len p10_len
  rw [decide_eq_true (rfl : p10 = p10)] at h; exact h
theorem q10_S2 : PF Tryd.prog 18 [.iv (.sl (stG p10) 2 4), .iv (.sl (stG p10) 1 4)] fun r H' => r = lt (.bool false) ∧ H' = [] := by
  have h := pf_prSame p10 [⟨1, 5, [1, -2], [3, -4]⟩] p10_len p11_len
  rw [show decide (p10 = [⟨1, 5, [1, -2], [3, -4]⟩]) = false by decide +kernel] at h
  refine SF.args h fun G vs hr => ?_
  obtain ⟨u, us, rfl, h1, hr⟩ := hr.uncons
  obtain ⟨u2, us, rfl, h2, hr⟩ := hr.uncons
  refine RL.cons h1 (RL.cons (RA.congr h2 fun j hj => ?_) hr)
  match j, hj with | 0, _ | 1, _ | 2, _ | 3, _ => rfl
theorem q10_I (xs : List Int) (h : xs.length ≤ 1000000) : PF Tryd.prog 19 [.iv (iInts xs), .iv (iInts xs)] fun r H' => r = lt (.bool true) ∧ H' = [] := by
  have h := pf_sameInts xs xs h h
  rwa [decide_eq_true (rfl : xs = xs)] at h
set_option maxRecDepth 100000 in
set_option maxHeartbeats 4000000 in
theorem pf_awake10 : PF Tryd.prog 7 [] fun r H' => r = lt (.bool true) ∧ H' = [] := by
  refine SF.forgetAll ?_
  have hs4 := trivial
  have hs1 : (⟨#[53, 32, 49, 32, 45, 50, 32, 48, 32, 51, 32, 45, 52, 32, 48, 10, 53, 32, 100, 32, 49, 32, 50, 32, 48, 10]⟩ : ByteArray).toList = tp1 := ba_toList tp1
  have hs2 : stG p10 1 = .lit (.int .i64 5) := rfl
  have hs3 : stG p10 4 = .lit (.int .i64 2) := rfl
  have hP1 := q10_P1
  have hP2 := q10_P2
  have hP3 := q10_P3
  have hPr := q10_Pr
  have hC1 := q10_C1
  have hC2 := q10_C2
  have hSp := q10_Sp
  have hS1 := q10_S1
  have hS2 := q10_S2
  have hI1 := q10_I [1, 2] (by decide)
  have hI2 := q10_I [-3, 4] (by decide)
  have hI3 := q10_I [-5] (by decide)
  (refine SF_of_bodyX (aload tt) (aload_ok tyOK) Tryd.func7 rfl (by kernel_rfl) ?_; simp only [Tryd.ntmps7, List.length_cons, List.length_nil, Nat.reduceAdd, Nat.reduceSub, List.replicate_succ, List.replicate_zero, List.cons_append, List.nil_append])
  repeat (first | (first | (with_reducible first | refine AX_block ?_ | refine AX_skip ?_ | refine AX_exit ?_ | refine AX_ret ?_ | refine AX_ift ?_ | refine AX_iff ?_ | refine AX_seq_k (fun K hK => ?_) | refine ContX.use (by assumption) ?_) | simp only [thenX, inBlockX, if_true, if_false, reduceCtorEq]) | ((first | (refine XRes_litSt tyOK (by rfl) rfl ?_) | (refine XRes_litF tyOK (by rfl) rfl (by decide) rfl rfl ?_) | (refine ADF_litF tyOK (by rfl) rfl (by decide) rfl rfl ?_)); (try (simp only [List.map_cons, List.map_nil, intOf, putL, List.set_cons_succ, List.set_cons_zero]))) | (first | ((first | (with_reducible refine XRes_op tyOK ?_ ?_) | ((with_reducible first | refine ADF_op tyOK ?_ ?_ ?_ | refine ADX_op tyOK ?_ ?_ ?_); (focus rfl)) | (with_reducible refine ADR_alloc1 tyOK ?_ ?_) | ((with_reducible refine ADR_free1 tyOK ?_ ?_ ?_); (focus rfl)) | ((with_reducible refine ADR_free0 tyOK ?_ ?_ ?_); (focus rfl)) | ((with_reducible refine ADR_read1 tyOK ?_ ?_ ?_); (focus rfl)) | (with_reducible refine ADR_chg1 tyOK ?_ ?_)); (focus (first | (with_reducible rfl) | ((simp (disch := omega) only [go_sem]); done))); simp (disch := omega) only [go_sem , hs1, hs2, hs3, hs4, Int.toNat_zero, Int.toNat_one, Int.reduceToNat, List.length_nil, beq_self_eq_true, ba_toList, iFlat, intOf, iRows]; (first | (with_reducible refine XRes_id ?_) | (with_reducible refine ADF_id ?_) | (with_reducible refine ADR_id1 ?_) | (with_reducible refine ADX_id ?_))) | ((first | (with_reducible refine XRes_skip ?_ ?_) | (with_reducible refine ADF_skip (b := true) ?_ ?_) | (with_reducible refine ADX_skip ?_ ?_) | ((with_reducible refine ADR_skip1 ?_ ?_ ?_); (focus rfl))); (focus (first | rfl | ((simp (disch := omega) only [go_sem]); done))); (simp only [putL, List.set_cons_succ, List.set_cons_zero]))) | ((first | (with_reducible refine XRes_nil ?_) | (with_reducible refine ADF_nil ?_) | (with_reducible refine ADR_nil ?_) | (with_reducible refine ADX_nil ?_)); (first | refine hK _ ?_ | refine hK _ _ ?_); clear hK K) | ((first | (with_reducible refine AX_reg0 fun K hK => ?_) | (refine AX_drawG1 tyOK (by kernel_rfl) (by rfl) (by kernel_rfl) fun K hK => ?_) | (refine AX_drawT tyOK (by kernel_rfl) (by decide +kernel) fun K hK => ?_) | (refine AX_drawM1 (by kernel_rfl) (by rfl) (by decide +kernel) fun K hK => ?_) | (refine AX_drawA tyOK (by kernel_rfl) (by decide +kernel) fun K hK => ?_)); (first | simp only [go_sem, preN, effOp, runF, alM, mapOp, alD2, kdOf2, Bool.not_false, Bool.not_true, reduceCtorEq] | simp only [go_sem, preN, effOp, runF, alM, mapOp, Bool.not_false, Bool.not_true, reduceCtorEq] | simp only [go_sem, preN, effOp, runF, alD2, kdOf2, Bool.not_false, Bool.not_true, reduceCtorEq] | simp only [go_sem, alD2, kdOf2, Bool.not_false, Bool.not_true, reduceCtorEq] | simp only [go_sem, preN, effOp, runF, Bool.not_false, Bool.not_true, reduceCtorEq] | simp only [go_sem])) | (first | (first | refine XTL (by rfl) hP1 ?_ | refine ATL tyOK (by rfl) hP1 ?_ | refine XTL (by rfl) hP2 ?_ | refine ATL tyOK (by rfl) hP2 ?_ | refine XTL (by rfl) hP3 ?_ | refine ATL tyOK (by rfl) hP3 ?_ | refine XTL (by rfl) hPr ?_ | refine ATL tyOK (by rfl) hPr ?_ | refine XTL (by rfl) hC1 ?_ | refine ATL tyOK (by rfl) hC1 ?_ | refine XTL (by rfl) hC2 ?_ | refine ATL tyOK (by rfl) hC2 ?_ | refine XTL (by rfl) hSp ?_ | refine ATL tyOK (by rfl) hSp ?_ | refine XTL (by rfl) hS1 ?_ | refine ATL tyOK (by rfl) hS1 ?_ | refine XTL (by rfl) hS2 ?_ | refine ATL tyOK (by rfl) hS2 ?_ | refine XTL (by rfl) hI1 ?_ | refine ATL tyOK (by rfl) hI1 ?_ | refine XTL (by rfl) hI2 ?_ | refine ATL tyOK (by rfl) hI2 ?_ | refine XTL (by rfl) hI3 ?_ | refine ATL tyOK (by rfl) hI3 ?_)))
  (simp only [bodyX]; refine ⟨_, by simp only [aresults, aresult, XS.as, Tryd.results7, aload, go_sem, Option.bind_some]; rfl, ?_⟩)
  exact ⟨ids_idB rfl, rfl, trivial⟩
end Go.Proofs.YtghdacijcnmhlaaDoor
namespace Go.Proofs.YtghdacijcnmhlaaDoor
open Go.RowKit Go.Lib
set_option linter.unusedVariables false
set_option linter.unusedSimpArgs false
structure StMax (xs : List Stp) : Prop where
  len : xs.length ≤ maxLen
  row : ∀ k, (stAt xs k).L.length ≤ maxLen ∧ (stAt xs k).H.length ≤ maxLen
def fewP (xs : List Stp) : Prop := xs.length ≤ 200 ∧ ∀ k, k < xs.length → (stAt xs k).L.length ≤ 60 ∧ (stAt xs k).H.length ≤ 200
theorem fewP_len {xs : List Stp} (h : fewP xs) : StLen xs := ⟨by have := h.1; omega, fun k => by
  by_cases hk : k < xs.length
  · have := h.2 k hk; omega
  · have e : stAt xs k = st0 := by unfold stAt; rw [List.getD_eq_getElem?_getD, List.getElem?_eq_none (by omega)]; rfl
    rw [e]; exact ⟨Nat.zero_le _, Nat.zero_le _⟩⟩
theorem pfB_sum {xs : List Stp} (h : ∀ s ∈ xs, stOk s) : (pfB xs).length ≤ 10 * (xs.map fun s => s.L.length + s.H.length + 3).sum := by
  induction xs with
  | nil => simp [pfB]
  | cons s xs ih =>
    have h1 := stOk_len (h s (by simp))
    have h2 := ih fun t ht => h t (by simp [ht])
    have e : pfB (s :: xs) = stB s ++ pfB xs := rfl
    rw [e, List.length_append, List.map_cons, List.sum_cons]; omega
theorem fewP_sum : ∀ {xs : List Stp}, (∀ k, k < xs.length → (stAt xs k).L.length ≤ 60 ∧ (stAt xs k).H.length ≤ 200) → (xs.map fun s => s.L.length + s.H.length + 3).sum ≤ xs.length * 263
  | [], _ => Nat.le_refl _
  | s :: xs, h => by
    have h1 : s.L.length ≤ 60 ∧ s.H.length ≤ 200 := h 0 (by simp)
    have h2 := fewP_sum (xs := xs) fun k hk => h (k + 1) (by simpa using hk)
    rw [List.map_cons, List.sum_cons, List.length_cons]; omega
theorem fewP_txt {xs : List Stp} (h : fewP xs) (ho : ∀ s ∈ xs, stOk s) : (pfB xs).length ≤ 600000 := by
  have h1 := pfB_sum ho
  have h2 := fewP_sum h.2
  have := h.1
  omega
theorem rowsOf_lens : ∀ (n : Nat) (l : List Int), l.length ≤ n → (rowsOf l).length ≤ l.length ∧ ∀ r ∈ rowsOf l, r.length ≤ l.length
  | n, [], _ => by rw [rowsOf_nil]; exact ⟨Nat.le_refl _, by simp⟩
  | 0, x :: l, h => by simp at h
  | n + 1, x :: l, h => by
    rw [rowsOf_cons]
    have h1 := (List.dropWhile_sublist nn (l := l)).length_le
    have h2 := (List.takeWhile_sublist nn (l := l)).length_le
    rw [List.length_cons] at h
    obtain ⟨a, b⟩ := rowsOf_lens n (l.dropWhile nn) (by omega)
    refine ⟨by rw [List.length_cons, List.length_cons]; omega, fun r hr => ?_⟩
    rcases List.mem_cons.1 hr with rfl | hr
    · rw [List.length_cons, List.length_cons]; omega
    · have := b r hr; rw [List.length_cons]; omega
theorem spR_len (h : List Int) : (spR h).length ≤ h.length ∧ ∀ k, ((spR h).getD k []).length ≤ h.length := by
  have h1 := (List.dropWhile_sublist nn (l := h)).length_le
  obtain ⟨a, b⟩ := rowsOf_lens _ (h.dropWhile nn) (Nat.le_refl _)
  refine ⟨by unfold spR; omega, fun k => ?_⟩
  by_cases hk : k < (spR h).length
  · rw [List.getD_eq_getElem?_getD, List.getElem?_eq_getElem hk]
    have e2 : (spR h)[k].length ≤ (h.dropWhile nn).length := b _ (List.getElem_mem hk)
    have e : (some (spR h)[k]).getD [] = (spR h)[k] := rfl
    rw [e]
    omega
  · rw [List.getD_eq_getElem?_getD, List.getElem?_eq_none (by omega)]; exact Nat.zero_le _
theorem spA_len (h : List Int) : (spA h).length ≤ h.length := (List.takeWhile_sublist nn (l := h)).length_le
theorem Wb954a {A B : Prop} (h9 : B) (w : B → A := by (intro h9; (repeat intro K hK); refine ⟨?_⟩; (repeat (first | (first | (with_reducible first | refine AX_block ?_ | refine AX_skip ?_ | refine AX_exit ?_ | refine AX_ret ?_ | refine AX_ift ?_ | refine AX_iff ?_ | refine AX_seq_k (fun K hK => ?_) | refine ContX.use (by assumption) ?_) | simp only [thenX, inBlockX, if_true, if_false, reduceCtorEq]) | (first | ((with_reducible refine XOP tyOK ?_); simp (disch := omega) only [go_sem , hs1, hs2, hs3, hs4, hs5, stG_0, stG_1, stG_2, stG_3, iInts, Int.toNat_zero, Int.toNat_one, Int.toNat_natCast, List.length_nil, ba_size, beq_self_eq_true]; (with_reducible refine XRes_id ?_)) | (with_reducible refine XSK ?_)) | ((with_reducible refine XRes_nil ?_); refine hK _ ?_; clear hK K) | ((with_reducible refine AX_reg0 fun K hK => ?_); simp only [go_sem]) | (first | (first | refine XTL (by rfl) hAw ?_ | refine XTL (by rfl) hP1 ?_ | refine XTL (by rfl) hP2 ?_ | refine XTL (by rfl) hS1 ?_ | refine XTL (by rfl) hF1 ?_ | refine XTL (by rfl) hF2 ?_ | refine XTL (by rfl) hC1 ?_ | refine XTL (by rfl) hC2 ?_ | refine XTL (by rfl) hT1 ?_ | refine XTL (by rfl) hT2 ?_ | refine XTL (by rfl) hD1 ?_ | refine XTL (by rfl) hD2 ?_ | refine XTL (by rfl) hS2 ?_ | refine XTL (by rfl) hI1 ?_ | refine XTL (by rfl) hI2 ?_)))); refine Wk.o ?_; (repeat revert hK K); exact h9)) : A := w h9
set_option maxRecDepth 100000 in
set_option maxHeartbeats 4000000 in
theorem pf_few10 (xs : List Stp) (hx : StMax xs) : PF Tryd.prog 11 [.iv (iSts xs)] fun r H' => ∃ b, r = lt (.bool b) ∧ (b = true ↔ fewP xs) ∧ H' = [] := by
  refine SF.forgetAll ?_
  have hs1 := trivial; have hs2 := trivial; have hs3 := trivial; have hs4 := trivial; have hs5 := trivial; have hAw := trivial; have hP1 := trivial; have hP2 := trivial; have hS1 := trivial; have hF1 := trivial; have hF2 := trivial; have hC1 := trivial; have hC2 := trivial; have hT1 := trivial; have hT2 := trivial; have hD1 := trivial; have hD2 := trivial; have hS2 := trivial; have hI1 := trivial; have hI2 := trivial
  have hxl := hx.len
  unfold maxLen at hxl
  unfold iSts
  by_cases hl : xs.length ≤ 200
  · have hs1 : decide ((200 : Int) < (xs.length : Int)) = false := decide_eq_false (by omega)
    (refine SF_of_bodyX (aload tt) (aload_ok tyOK) Tryd.func11 rfl (by kernel_rfl) ?_; simp only [Tryd.ntmps11, List.length_cons, List.length_nil, Nat.reduceAdd, Nat.reduceSub, List.replicate_succ, List.replicate_zero, List.cons_append, List.nil_append])
    (refine Wk.o ?_; (repeat revert hK K); refine Wb954a ?_; (repeat intro K hK); refine ⟨?_⟩)
    (refine AWH (σ := Nat) [7, 8, 9, 10, 13, 14, 15, 16, 17, 18, 19, 20, 21, 22, 23, 24, 25, 26, 27, 28, 2, 11, 12] (fun k => [(3, lint k)]) (fun k => []) (fun k => []) (fun k => k ≤ xs.length ∧ ∀ j, j < k → (stAt xs j).L.length ≤ 60 ∧ (stAt xs j).H.length ≤ 200) (fun k => xs.length - k) 0 (by first | exact ⟨Nat.zero_le _, fun j h => absurd h (by omega)⟩) ?_; rintro k d fr hfr ⟨hk, hj⟩; simp only [updS, deadS, List.set_cons_succ, List.set_cons_zero, lint] at hfr; subst hfr; (try dsimp only))
    by_cases hlt : k < xs.length
    · have hs2 : decide ((k : Int) < (xs.length : Int)) = true := decide_eq_true (by omega)
      obtain ⟨m1, m2⟩ := hx.row k
      unfold maxLen at m1 m2
      by_cases h1 : (stAt xs k).L.length ≤ 60
      · have hs3 : decide ((60 : Int) < ((stAt xs k).L.length : Int)) = false := decide_eq_false (by omega)
        by_cases h2 : (stAt xs k).H.length ≤ 200
        · have hs4 : decide ((200 : Int) < ((stAt xs k).H.length : Int)) = false := decide_eq_false (by omega)
          have hI : k + 1 ≤ xs.length ∧ ∀ j, j < k + 1 → (stAt xs j).L.length ≤ 60 ∧ (stAt xs j).H.length ≤ 200 := ⟨by omega, fun j h => by
            rcases Nat.lt_or_ge j k with h3 | h3
            · exact hj j h3
            · rw [show j = k by omega]; exact ⟨h1, h2⟩⟩
          (refine Wk.o ?_; (repeat revert hK K); refine Wb954a ?_; (repeat intro K hK); refine ⟨?_⟩)
          exact WEND (k + 1) hI (by (first | omega | (dsimp only; omega) | (simp only; omega)))
        · have hs4 : decide ((200 : Int) < ((stAt xs k).H.length : Int)) = true := decide_eq_true (by omega)
          (refine Wk.o ?_; (repeat revert hK K); refine Wb954a ?_; (repeat intro K hK); refine ⟨?_⟩)
          (simp only [bodyX]; refine ⟨_, by simp only [aresults, aresult, XS.as, Tryd.results11, aload, go_sem, Option.bind_some]; rfl, ?_⟩)
          exact ⟨.iv _, false, rfl, ⟨(fun h => by cases h), fun h => absurd (h.2 k hlt).2 h2⟩, trivial⟩
      · have hs3 : decide ((60 : Int) < ((stAt xs k).L.length : Int)) = true := decide_eq_true (by omega)
        (refine Wk.o ?_; (repeat revert hK K); refine Wb954a ?_; (repeat intro K hK); refine ⟨?_⟩)
        (simp only [bodyX]; refine ⟨_, by simp only [aresults, aresult, XS.as, Tryd.results11, aload, go_sem, Option.bind_some]; rfl, ?_⟩)
        exact ⟨.iv _, false, rfl, ⟨(fun h => by cases h), fun h => absurd (h.2 k hlt).1 h1⟩, trivial⟩
    · obtain rfl : k = xs.length := by omega
      have hs2 : decide ((xs.length : Int) < (xs.length : Int)) = false := decide_eq_false (by omega)
      (refine Wk.o ?_; (repeat revert hK K); refine Wb954a ?_; (repeat intro K hK); refine ⟨?_⟩)
      (simp only [bodyX]; refine ⟨_, by simp only [aresults, aresult, XS.as, Tryd.results11, aload, go_sem, Option.bind_some]; rfl, ?_⟩)
      exact ⟨.iv _, true, rfl, ⟨fun _ => ⟨hl, hj⟩, fun _ => rfl⟩, trivial⟩
  · have hs1 : decide ((200 : Int) < (xs.length : Int)) = true := decide_eq_true (by omega)
    (refine SF_of_bodyX (aload tt) (aload_ok tyOK) Tryd.func11 rfl (by kernel_rfl) ?_; simp only [Tryd.ntmps11, List.length_cons, List.length_nil, Nat.reduceAdd, Nat.reduceSub, List.replicate_succ, List.replicate_zero, List.cons_append, List.nil_append])
    (refine Wk.o ?_; (repeat revert hK K); refine Wb954a ?_; (repeat intro K hK); refine ⟨?_⟩)
    (simp only [bodyX]; refine ⟨_, by simp only [aresults, aresult, XS.as, Tryd.results11, aload, go_sem, Option.bind_some]; rfl, ?_⟩)
    exact ⟨.iv _, false, rfl, ⟨(fun h => by cases h), fun h => absurd h.1 hl⟩, trivial⟩
theorem pf_few10b (xs : List Stp) (hx : StMax xs) : ∃ b, (b = true ↔ fewP xs) ∧ PF Tryd.prog 11 [.iv (iSts xs)] fun r H' => r = lt (.bool b) ∧ H' = [] := by
  by_cases h : fewP xs
  · exact ⟨true, ⟨fun _ => h, fun _ => rfl⟩, (pf_few10 xs hx).mono fun r H' ⟨b, h1, h2, h3⟩ => by
      have : b = true := h2.2 h
      subst this; exact ⟨h1, h3⟩⟩
  · exact ⟨false, ⟨(fun h => by cases h), fun h2 => absurd h2 h⟩, (pf_few10 xs hx).mono fun r H' ⟨b, h1, h2, h3⟩ => by
      have : b = false := by cases b with | false => rfl | true => exact absurd (h2.1 rfl) h
      subst this; exact ⟨h1, h3⟩⟩
set_option maxRecDepth 100000 in
set_option maxHeartbeats 8000000 in
theorem pf_ProofPrints (xs ys : List Stp) (h : List Int) (hx : StMax xs) (hy : StMax ys) (hh : h.length ≤ maxLen) : PF Tryd.prog 4 [.iv (iSts xs), .iv (iSts ys), .iv (iInts h)] fun r H' => r = lt (.bool true) ∧ H' = [] := by
  refine SF.forgetAll ?_
  have hs1 := trivial; have hs2 := trivial; have hs3 := trivial; have hs4 := trivial; have hs5 := trivial; have hAw := trivial; have hP1 := trivial; have hP2 := trivial; have hS1 := trivial; have hF1 := trivial; have hF2 := trivial; have hC1 := trivial; have hC2 := trivial; have hT1 := trivial; have hT2 := trivial; have hD1 := trivial; have hD2 := trivial; have hS2 := trivial; have hI1 := trivial; have hI2 := trivial
  have hAw := pf_awake10
  unfold maxLen at hh
  obtain ⟨b1, e1, hF1⟩ := pf_few10b xs hx
  obtain ⟨b2, e2, hF2⟩ := pf_few10b ys hy
  cases b1 with
  | false =>
    unfold iSts iInts at *
    (refine SF_of_bodyX (aload tt) (aload_ok tyOK) Tryd.func4 rfl (by kernel_rfl) ?_; simp only [Tryd.ntmps4, List.length_cons, List.length_nil, Nat.reduceAdd, Nat.reduceSub, List.replicate_succ, List.replicate_zero, List.cons_append, List.nil_append])
    (refine Wk.o ?_; (repeat revert hK K); refine Wb954a ?_; (repeat intro K hK); refine ⟨?_⟩)
    (simp only [bodyX]; refine ⟨_, by simp only [aresults, aresult, XS.as, Tryd.results4, aload, go_sem, Option.bind_some]; rfl, ?_⟩)
    exact ⟨ids_idB rfl, rfl, trivial⟩
  | true =>
    have f1 := e1.1 rfl
    cases b2 with
    | false =>
      unfold iSts iInts at *
      (refine SF_of_bodyX (aload tt) (aload_ok tyOK) Tryd.func4 rfl (by kernel_rfl) ?_; simp only [Tryd.ntmps4, List.length_cons, List.length_nil, Nat.reduceAdd, Nat.reduceSub, List.replicate_succ, List.replicate_zero, List.cons_append, List.nil_append])
      (refine Wk.o ?_; (repeat revert hK K); refine Wb954a ?_; (repeat intro K hK); refine ⟨?_⟩)
      (simp only [bodyX]; refine ⟨_, by simp only [aresults, aresult, XS.as, Tryd.results4, aload, go_sem, Option.bind_some]; rfl, ?_⟩)
      exact ⟨ids_idB rfl, rfl, trivial⟩
    | true =>
      have f2 := e2.1 rfl
      by_cases hl : h.length ≤ 200
      · have hs1 : decide ((200 : Int) < (h.length : Int)) = false := decide_eq_false (by omega)
        have l1 := fewP_len f1
        have l2 := fewP_len f2
        have hb : ckE xs = 0 → (pfB xs).length ≤ 1000000 := fun h => by have := fewP_txt f1 (ckE_zero.1 h); omega
        have hC1 := pf_prCheck xs l1
        have hC2 := pf_rpCheck xs l1
        have hT1 := pf_prPrint xs l1 hb
        have hT2 := pf_rpPrint xs l1 hb
        have hD1 := pf_prSplit h (by omega)
        have hD2 := pf_rpSplit h (by omega)
        have hS1 := pf_prSame xs ys l1 l2
        have hS2 := pf_rpSame xs ys l1 l2
        have hI1 := q10_I (spA h) (by have := spA_len h; omega)
        have hI2 := pf_rowsSelf6 (spR h) (by have := (spR_len h).1; omega) (fun k => by have := (spR_len h).2 k; omega)
        generalize decide (xs = ys) = bS at *
        generalize ckE xs = eE at *
        generalize ckB xs = eB at *
        generalize prT xs = eT at *
        unfold iSts at *
        rw [show iInts h = .sl (fun j => .lit (.int .i64 (h.getD j 0))) h.length 1 from rfl] at *
        generalize iInts (spA h) = vA at *
        generalize iRows (spR h) = vR at *
        cases bS with
        | false =>
          (refine SF_of_bodyX (aload tt) (aload_ok tyOK) Tryd.func4 rfl (by kernel_rfl) ?_; simp only [Tryd.ntmps4, List.length_cons, List.length_nil, Nat.reduceAdd, Nat.reduceSub, List.replicate_succ, List.replicate_zero, List.cons_append, List.nil_append])
          (refine Wk.o ?_; (repeat revert hK K); refine Wb954a ?_; (repeat intro K hK); refine ⟨?_⟩)
          (simp only [bodyX]; refine ⟨_, by simp only [aresults, aresult, XS.as, Tryd.results4, aload, go_sem, Option.bind_some]; rfl, ?_⟩)
          exact ⟨ids_idB rfl, rfl, trivial⟩
        | true =>
          (refine SF_of_bodyX (aload tt) (aload_ok tyOK) Tryd.func4 rfl (by kernel_rfl) ?_; simp only [Tryd.ntmps4, List.length_cons, List.length_nil, Nat.reduceAdd, Nat.reduceSub, List.replicate_succ, List.replicate_zero, List.cons_append, List.nil_append])
          (refine Wk.o ?_; (repeat revert hK K); refine Wb954a ?_; (repeat intro K hK); refine ⟨?_⟩)
          (simp only [bodyX]; refine ⟨_, by simp only [aresults, aresult, XS.as, Tryd.results4, aload, go_sem, Option.bind_some]; rfl, ?_⟩)
          exact ⟨ids_idB rfl, rfl, trivial⟩
      · have hs1 : decide ((200 : Int) < (h.length : Int)) = true := decide_eq_true (by omega)
        unfold iSts iInts at *
        (refine SF_of_bodyX (aload tt) (aload_ok tyOK) Tryd.func4 rfl (by kernel_rfl) ?_; simp only [Tryd.ntmps4, List.length_cons, List.length_nil, Nat.reduceAdd, Nat.reduceSub, List.replicate_succ, List.replicate_zero, List.cons_append, List.nil_append])
        (refine Wk.o ?_; (repeat revert hK K); refine Wb954a ?_; (repeat intro K hK); refine ⟨?_⟩)
        (simp only [bodyX]; refine ⟨_, by simp only [aresults, aresult, XS.as, Tryd.results4, aload, go_sem, Option.bind_some]; rfl, ?_⟩)
        exact ⟨ids_idB rfl, rfl, trivial⟩
end Go.Proofs.YtghdacijcnmhlaaDoor
namespace Go.Proofs.YtghdacijcnmhlaaDoor
open Go.RowKit Go.Lib
set_option linter.unusedVariables false
set_option linter.unusedSimpArgs false
end Go.Proofs.YtghdacijcnmhlaaDoor
namespace Go.Proofs.YtghdacijcnmhlaaDoor
open Go.ChangeShapes Go.WideShapes Go.ChangeAt Go.RowKit
open Go.Deep (oneCellFields)
set_option linter.unusedVariables false
instance : Inhabited Stp := ⟨st0⟩
def StepAt (w : World) (b k : Nat) (s : Stp) : Prop := ∃ (a1 : Option Addr) (l1 c1 : Nat) (a2 : Option Addr) (l2 c2 : Nat), w.cell? ⟨b, k, none⟩ = some (.int .i64 s.k) ∧ w.cell? ⟨b, k + 1, none⟩ = some (.int .i64 s.i) ∧ w.cell? ⟨b, k + 2, none⟩ = some (.slice a1 l1 c1) ∧ (IntRow w a1 l1 s.L ∧ l1 ≤ c1 ∧ c1 ≤ maxLen) ∧ w.cell? ⟨b, k + 3, none⟩ = some (.slice a2 l2 c2) ∧ (IntRow w a2 l2 s.H ∧ l2 ≤ c2 ∧ c2 ≤ maxLen)
def StepRow (w : World) (a : Option Addr) (len cap : Nat) : Prop := len ≤ cap ∧ cap ≤ maxLen ∧ (a = none → cap = 0) ∧ (0 < len → ∃ b off, a = some ⟨b, off, none⟩ ∧ ∀ i, i < len → ∃ s, StepAt w b (off + i * 4) s)
theorem open_steps {P : Program} {H : Type} {enc : TypeId × Value → H} {W : World} {base : Nat} {sp : Nat → Bool} {held : Bool} {t e T q : TypeId} {a : Option Addr} {len cap : Nat} {x : DataW H} {pl : List MemPlace} {f0 f1 f2 f3 : Field}
    (ht : P.underlying t = some (.slice e)) (he : P.underlying e = some (.struct #[f0, f1, f2, f3])) (hT : P.underlying T = some (.int .i64)) (hq : P.underlying q = some (.slice T)) (hcT : P.cellsOf T = 1)
    (hone : (oneCellFields P #[f0, f1, f2, f3] && decide (f0.type = T) && decide (f1.type = T) && decide (f2.type = q) && decide (f3.type = q)) = true) (hC : P.cellsOf e = 4)
    (h : DataW.Trod enc P W base sp held t (.slice a len cap) x pl) : StepRow W a len cap := by
  simp only [Bool.and_eq_true, decide_eq_true_eq] at hone
  obtain ⟨⟨⟨⟨h1, g0⟩, g1⟩, g2⟩, g3⟩ := hone
  obtain ⟨fuel, hf⟩ := h
  rcases Go.Deep.open_slice ht hf with ⟨hcs, _⟩ | ⟨y, l, c, m, n, D, Pl, hcs, _, hl, hm, hmm, _, hi⟩
  · simp [Value.cells] at hcs
    obtain ⟨rfl, rfl, rfl⟩ := hcs
    exact ⟨Nat.le_refl _, Nat.zero_le _, fun _ => rfl, fun h => by omega⟩
  · simp [Value.cells] at hcs
    obtain ⟨rfl, rfl, rfl⟩ := hcs
    have hz' : len ≤ m := by rw [hmm]; split <;> omega
    have hcell : ∀ i, i < len → ∃ (s : Stp) (a1 : Option Addr) (l1 c1 : Nat) (a2 : Option Addr) (l2 c2 : Nat), W.cell? (y.add (i * 4)) = some (.int .i64 s.k) ∧ W.cell? (y.add (i * 4 + 1)) = some (.int .i64 s.i) ∧ W.cell? (y.add (i * 4 + 2)) = some (.slice a1 l1 c1) ∧ (IntRow W a1 l1 s.L ∧ l1 ≤ c1 ∧ c1 ≤ maxLen) ∧ W.cell? (y.add (i * 4 + 3)) = some (.slice a2 l2 c2) ∧ (IntRow W a2 l2 s.H ∧ l2 ≤ c2 ∧ c2 ≤ maxLen) := by
      intro i hlt
      obtain ⟨cs', hc, htr⟩ := hi i (by omega)
      obtain ⟨_, hlen, hat⟩ := World.cells?_some hc
      rw [hC] at hlen hat
      obtain ⟨ys, n', _, _, _, hyl, hfs⟩ := DataW.trod_struct he htr
      have hone1 : ∀ (j : Nat) (f : Field), #[f0, f1, f2, f3][j]? = some f → ∃ (u : Value) (yy : _), W.cell? (y.add (i * 4 + j)) = some u ∧ DataW.trod enc P W base sp held n' f.type [u] = some yy := by
        intro j f hfj
        have hj : j < 4 := by have := (Array.getElem?_eq_some_iff.1 hfj).1; simpa using this
        obtain ⟨ho, hco⟩ := Go.Deep.hone_of h1 j _ hfj
        have hjc : j < cs'.length := by rw [hlen]; exact hj
        have h2 := hfs j _ hfj
        rw [ho, hco] at h2
        have h3 : (cs'.drop j).take 1 = [cs'[j]] := by rw [List.drop_eq_getElem_cons hjc]; rfl
        have hyj : j < ys.length := by rw [hyl]; simpa using hj
        rw [h3, List.getElem?_eq_getElem hyj] at h2
        have h4 := hat j hj
        rw [Go.Deep.add_add, List.getElem?_eq_getElem hjc] at h4
        exact ⟨cs'[j], ys[j], h4, h2⟩
      obtain ⟨u0, y0, k0, t0⟩ := hone1 0 f0 rfl
      obtain ⟨u1, y1, k1, t1⟩ := hone1 1 f1 rfl
      obtain ⟨u2, y2, k2, t2⟩ := hone1 2 f2 rfl
      obtain ⟨u3, y3, k3, t3⟩ := hone1 3 f3 rfl
      rw [g0] at t0; rw [g1] at t1; rw [g2] at t2; rw [g3] at t3
      obtain ⟨v0, hv0, _, hw0⟩ := DataW.trod_int hT t0
      obtain ⟨v1, hv1, _, hw1⟩ := DataW.trod_int hT t1
      simp only [List.cons.injEq, and_true] at hv0 hv1
      obtain ⟨a1, l1, c1, xs1, rfl, r1⟩ := row_of_trod hq hT hcT t2
      obtain ⟨a2, l2, c2, xs2, rfl, r2⟩ := row_of_trod hq hT hcT t3
      subst hv0 hv1
      exact ⟨⟨v0, v1, xs1, xs2⟩, a1, l1, c1, a2, l2, c2, k0, k1, k2, r1, k3, r2⟩
    refine ⟨hl, hm, (fun h => by cases h), fun hp => ?_⟩
    obtain ⟨b, off, spot⟩ := y
    obtain ⟨s0, _, _, _, _, _, _, hg0, _⟩ := hcell 0 hp
    have hspot : spot = none := by
      simpa [Addr.add] using World.cell?_spot hg0
    subst hspot
    refine ⟨b, off, rfl, fun i hi => ?_⟩
    obtain ⟨s, a1, l1, c1, a2, l2, c2, d0, d1, d2, d3, d4, d5⟩ := hcell i hi
    have hadd : ∀ n, Addr.add ⟨b, off, none⟩ n = ⟨b, off + n, none⟩ := fun n => by by_cases hn : n = 0 <;> simp [Addr.add, hn]
    rw [hadd] at d0
    rw [hadd, ← Nat.add_assoc] at d1 d2 d4
    exact ⟨s, a1, l1, c1, a2, l2, c2, d0, d1, d2, d3, d4, d5⟩
theorem StepRow.steps {W : World} {a : Option Addr} {len cap : Nat} (h : StepRow W a len cap) : ∃ xs : List Stp, xs.length = len ∧ StMax xs ∧ RI (fun b => W.heap[b]?) (iSts xs) (.slice a len cap) := by
  obtain ⟨h1, h2, h3, h4⟩ := h
  by_cases h0 : len = 0
  · subst h0
    refine ⟨[], rfl, ⟨Nat.zero_le _, fun k => ⟨Nat.zero_le _, Nat.zero_le _⟩⟩, ?_⟩
    cases a with
    | none => exact .nil _ _ _ h2
    | some ad => exact .empty _ _ _ _ h2
  · obtain ⟨b, off, rfl, hs⟩ := h4 (by omega)
    obtain ⟨g, hg⟩ := Go.Deep.choose_lt hs
    have hl : ((List.range len).map g).length = len := by simp
    have hat : ∀ k, k < len → stAt ((List.range len).map g) k = g k := fun k hk => by
      unfold stAt; rw [List.getD_eq_getElem?_getD, List.getElem?_map, List.getElem?_range hk]; rfl
    refine ⟨(List.range len).map g, hl, ⟨by rw [hl]; omega, fun k => ?_⟩, ?_⟩
    · by_cases hk : k < len
      · rw [hat k hk]
        obtain ⟨a1, l1, c1, a2, l2, c2, _, _, _, ⟨r1, p1, q1⟩, _, ⟨r2, p2, q2⟩⟩ := hg k hk
        have e1 := r1.1; have e2 := r2.1
        omega
      · have e : stAt ((List.range len).map g) k = st0 := by unfold stAt; rw [List.getD_eq_getElem?_getD, List.getElem?_eq_none (by rw [hl]; omega)]; rfl
        rw [e]; exact ⟨Nat.zero_le _, Nat.zero_le _⟩
    · obtain ⟨_, _, _, _, _, _, d0, _⟩ := hg 0 (by omega)
      obtain ⟨cs, t, fr, hb, _⟩ := cells_of_cell d0
      unfold iSts
      rw [hl]
      have key : ∀ j, j < len * 4 → ∃ v, cs[off + j]? = some v ∧ RI (fun b => W.heap[b]?) (stG ((List.range len).map g) j) v := fun j hj => by
        obtain ⟨k, r, rfl, hr⟩ : ∃ k r, j = k * 4 + r ∧ r < 4 := ⟨j / 4, j % 4, by omega, Nat.mod_lt _ (by decide)⟩
        have hk : k < len := by omega
        obtain ⟨a1, l1, c1, a2, l2, c2, e0, e1, e2, ⟨r1, p1, q1⟩, e3, ⟨r2, p2, q2⟩⟩ := hg k hk
        rw [cell_of_heap hb] at e0 e1 e2 e3
        rw [stG_j _ _ hr, hat k hk, ← Nat.add_assoc]
        match r, hr with
        | 0, _ => exact ⟨_, e0, .lit _⟩
        | 1, _ => exact ⟨_, e1, .lit _⟩
        | 2, _ => exact ⟨_, e2, ri_ints r1 p1 q1⟩
        | 3, _ => exact ⟨_, e3, ri_ints r2 p2 q2⟩
      obtain ⟨vs, hv⟩ := Go.Deep.choose_lt key
      exact .sl _ _ _ b off cap cs t fr vs hb (fun j hj => (hv j hj).1) (fun j hj => (hv j hj).2) h1 h2
end Go.Proofs.YtghdacijcnmhlaaDoor
