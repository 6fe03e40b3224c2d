import Derived.Test.YtdaenbgjafalcaaDoorMgAX
import Derived.Test.YtdaenbgjafalcaaDoorMgBB
import Derived.Test.YtdaenbgjafalcaaDoorMgAS
import Derived.Test.YtdaenbgjafalcaaDoorMgBF
import Derived.Test.YtdaenbgjafalcaaDoorMgBA
import Derived.Test.YtdaenbgjafalcaaDoorMgBC
namespace Go.Proofs.YtdaenbgjafalcaaDoor
open Go.RowKit Go.Lib
set_option linter.unusedSimpArgs false
theorem allT_cons (r : Nat × Nat × List (Nat × List UInt8)) (rs : List (Nat × Nat × List (Nat × List UInt8))) : allT (r :: rs) = (r.2.2.map fun t => ((r.1 : Int), (r.2.1 : Int) + t.1, t.2)) ++ allT rs := rfl
structure WordB (w : List UInt8) : Prop where
  ne : w ≠ []
  ok : ∀ b ∈ w, isSp b = false ∧ b ≠ 10 ∧ b ≠ 99
theorem tw_all {r : List UInt8} (h : ∀ b ∈ r, isSp b = false) (rest : List UInt8) : (r ++ 32 :: rest).takeWhile noSp = r ∧ (r ++ 32 :: rest).dropWhile noSp = 32 :: rest := by
  induction r with
  | nil => exact ⟨rfl, rfl⟩
  | cons b r ih =>
    have hb : noSp b = true := by unfold noSp; rw [h b (by simp)]; rfl
    obtain ⟨h1, h2⟩ := ih fun c hc => h c (by simp [hc])
    simp only [List.cons_append, List.takeWhile_cons, List.dropWhile_cons, hb, if_true, h1, h2]
    exact ⟨trivial, trivial⟩
theorem tw_all0 {r : List UInt8} (h : ∀ b ∈ r, isSp b = false) : r.takeWhile noSp = r ∧ r.dropWhile noSp = [] := by
  induction r with
  | nil => exact ⟨rfl, rfl⟩
  | cons b r ih =>
    have hb : noSp b = true := by unfold noSp; rw [h b (by simp)]; rfl
    obtain ⟨h1, h2⟩ := ih fun c hc => h c (by simp [hc])
    simp only [List.takeWhile_cons, List.dropWhile_cons, hb, if_true, h1, h2]
    exact ⟨trivial, trivial⟩
theorem tk_wsp (k : Nat) {w : List UInt8} (hne : w ≠ []) (hw : ∀ b ∈ w, isSp b = false) (rest : List UInt8) : ∃ k2, tk k (w ++ 32 :: rest) = (k, w) :: tk k2 rest := by
  cases w with
  | nil => exact absurd rfl hne
  | cons c r =>
    obtain ⟨h1, h2⟩ := tw_all (r := r) (fun b hb => hw b (by simp [hb])) rest
    rw [List.cons_append, tk_word (hw c (by simp)), h1, h2, tk_sp (by decide)]
    exact ⟨_, rfl⟩
theorem tk_wend (k : Nat) {w : List UInt8} (hne : w ≠ []) (hw : ∀ b ∈ w, isSp b = false) : tk k w = [(k, w)] := by
  cases w with
  | nil => exact absurd rfl hne
  | cons c r =>
    obtain ⟨h1, h2⟩ := tw_all0 (r := r) (fun b hb => hw b (by simp [hb]))
    rw [tk_word (hw c (by simp)), h1, h2, tk_nil]
theorem dg_ok {b : UInt8} (h : isDg b = true ∨ b = 45) : isSp b = false ∧ b ≠ 10 ∧ b ≠ 99 := by
  rcases h with h | rfl
  · have h1 : 48 ≤ b.toNat ∧ b.toNat ≤ 57 := of_decide_eq_true h
    have hne : ∀ c : UInt8, c.toNat < 48 ∨ 57 < c.toNat → b ≠ c := fun c hc e => by subst e; omega
    refine ⟨?_, hne 10 (.inl (by decide)), hne 99 (.inr (by decide))⟩
    have a1 := hne 32 (.inl (by decide)); have a2 := hne 9 (.inl (by decide)); have a3 := hne 13 (.inl (by decide))
    unfold isSp
    rw [beq_eq_false_iff_ne.2 a1, beq_eq_false_iff_ne.2 a2, beq_eq_false_iff_ne.2 a3]; rfl
  · decide
theorem numOk_word {l : List UInt8} (h : numOk l = true) : WordB l := by
  simp only [numOk, Bool.and_eq_true, Bool.not_eq_true', List.isEmpty_eq_false_iff] at h
  obtain ⟨⟨⟨h1, h2⟩, h3⟩, h4⟩ := h
  rw [List.all_eq_true] at h4
  cases l with
  | nil => exact absurd rfl h1
  | cons c r =>
    refine ⟨by simp, fun b hb => dg_ok ?_⟩
    by_cases hc : c = 45
    · subst hc
      rw [magOf_minus] at h4
      rcases List.mem_cons.1 hb with rfl | hb
      · exact .inr rfl
      · exact .inl (h4 b hb)
    · rw [magOf_plain hc] at h4
      exact .inl (h4 b hb)
theorem itoa_word (x : Int) : WordB (itoa x) := numOk_word (itoa_num x).1
theorem not_remark {b : UInt8} {r : List UInt8} (h : b ≠ 99) : remark (b :: r) = false := by
  unfold remark
  have h1 : ((b :: r) == [99]) = false := by simp [h]
  have h2 : [99, 32].isPrefixOf (b :: r) = false := by simp [List.isPrefixOf, Ne.symm h]
  rw [h1, h2]; rfl
theorem line_tk {m : List UInt8} (h : ∃ b r, m = b :: r ∧ b ≠ 99) : lineTk m = tk 0 m := by
  obtain ⟨b, r, rfl, h⟩ := h
  unfold lineTk; rw [not_remark h]; rfl
theorem lnl_at {m : List UInt8} (h : ∀ b ∈ m, b ≠ 10) (rest : List UInt8) : lnLen (m ++ 10 :: rest) = m.length := by
  unfold lnLen
  congr 1
  induction m with
  | nil => rfl
  | cons b m ih =>
    have hb : noNl b = true := by unfold noNl; simp [h b (by simp)]
    rw [List.cons_append, List.takeWhile_cons, if_pos hb, ih fun c hc => h c (by simp [hc])]
theorem lns_line (ln k : Nat) {m : List UInt8} (h : ∀ b ∈ m, b ≠ 10) (rest : List UInt8) : lns ln k (m ++ 10 :: rest) = (ln, k, lineTk m) :: lns (ln + 1) (k + (m.length + 1)) rest := by
  have hl := lnl_at h rest
  obtain ⟨c, r, e⟩ : ∃ c r, m ++ 10 :: rest = c :: r := by cases m with | nil => exact ⟨_, _, rfl⟩ | cons c m => exact ⟨_, _, rfl⟩
  have ht : (m ++ 10 :: rest).take m.length = m := List.take_left
  have hd : (m ++ 10 :: rest).drop (m.length + 1) = rest := by rw [List.drop_append]; simp
  rw [e] at hl ht hd ⊢
  rw [lns, hl, ht, hd]
theorem numR_itoa {x lo hi : Int} (h : lo ≤ x ∧ x ≤ hi) (hf : -9223372036854775808 ≤ x ∧ x ≤ 9223372036854775807) : numR (itoa x) lo hi = (x, 0) := by
  obtain ⟨h1, h2⟩ := itoa_num x
  unfold numR
  rw [h1, h2, if_neg (by simp), if_pos ⟨hf.1, hf.2, h.1, h.2⟩]
def ChainT (n : Nat) : Nat → List Tok3 → Prop
  | _, [] => True
  | e, t :: ts => ∃ p : Nat, t.2.1 = (p : Int) ∧ e ≤ p ∧ 0 < t.2.2.length ∧ p + t.2.2.length ≤ n ∧ ChainT n (p + t.2.2.length) ts
theorem ChainT.le {n e e' : Nat} {T : List Tok3} (h : ChainT n e T) (he : e' ≤ e) : ChainT n e' T := by
  cases T with
  | nil => trivial
  | cons t ts => obtain ⟨p, h1, h2, h3⟩ := h; exact ⟨p, h1, by omega, h3⟩
theorem chain_row {l : List UInt8} {i st n : Nat} (hL : LineIn l i st n) (ln : Int) {rest : List Tok3} (hr : ChainT l.length (st + n) rest) : ∀ (ts : List (Nat × List UInt8)) (p : Nat), p ≤ n → TkOK ((l.drop st).take n) p ts → ChainT l.length (st + p) ((ts.map fun t => (ln, (st : Int) + t.1, t.2)) ++ rest)
  | [], p, hp, _ => hr.le (by omega)
  | t :: ts, p, hp, h => by
    obtain ⟨h1, h2, h3⟩ := h
    have hf := h2.fit
    have hm : ((l.drop st).take n).length ≤ n := by rw [List.length_take]; omega
    have := hL.fit
    refine ⟨st + t.1, by push_cast; rfl, by omega, h2.pos, by dsimp only; omega, ?_⟩
    have ih := chain_row hL ln hr ts (t.1 + t.2.length) (by omega) h3
    rw [Nat.add_assoc]; exact ih
theorem chain_rows {l : List UInt8} : ∀ (rs : List (Nat × Nat × List (Nat × List UInt8))) (i e : Nat), RowsOK l i e rs → ChainT l.length e (allT rs)
  | [], i, e, _ => trivial
  | r :: rs, i, e, h => by
    obtain ⟨h1, h2, n, h3, h4, h5⟩ := h
    have ih := chain_rows rs (i + 1) (r.2.1 + n) h5
    have := chain_row h3 r.1 ih r.2.2 0 (Nat.zero_le _) h4
    rw [allT_cons]
    exact ChainT.le this (by omega)
theorem ChainT.get {n : Nat} : ∀ {T : List Tok3} {e j : Nat}, ChainT n e T → j < T.length → ∃ p : Nat, (T.getD j tok0).2.1 = (p : Int) ∧ e ≤ p ∧ 0 < (T.getD j tok0).2.2.length ∧ p + (T.getD j tok0).2.2.length ≤ n
  | [], e, j, _, hj => by simp at hj
  | t :: ts, e, 0, ⟨p, h1, h2, h3, h4, h5⟩, _ => ⟨p, h1, h2, h3, h4⟩
  | t :: ts, e, j + 1, ⟨p, h1, h2, h3, h4, h5⟩, hj => by
    obtain ⟨q, g1, g2, g3⟩ := h5.get (j := j) (by simpa using hj)
    exact ⟨q, g1, by omega, g3⟩
theorem ChainT.lt {n : Nat} : ∀ {T : List Tok3} {e i j : Nat}, ChainT n e T → i < j → j < T.length → (T.getD i tok0).2.1 < (T.getD j tok0).2.1
  | [], e, i, j, _, _, hj => by simp at hj
  | t :: ts, e, 0, j + 1, ⟨p, h1, h2, h3, h4, h5⟩, _, hj => by
    obtain ⟨q, g1, g2, g3⟩ := h5.get (j := j) (by simpa using hj)
    show t.2.1 < (ts.getD j tok0).2.1
    rw [h1, g1]; omega
  | t :: ts, e, i + 1, j + 1, ⟨p, h1, h2, h3, h4, h5⟩, hij, hj => h5.lt (i := i) (j := j) (by omega) (by simpa using hj)
end Go.Proofs.YtdaenbgjafalcaaDoor
namespace Go.Proofs.YtdaenbgjafalcaaDoor
open Go.RowKit Go.Lib
set_option linter.unusedVariables false
set_option linter.unusedSimpArgs false
def lnsT (l : List UInt8) : List (List Tok3) := (lns 1 0 l).map rowT
theorem pf_LinesT (l : List UInt8) (hl : l.length ≤ 1000000) : PF Tryd.prog 16 [lt (.string (ba l))] fun r H' => r = .iv (iLs (lnsT l)) ∧ H' = [] := by
  have h := pf_Lines l hl
  rwa [iLn_ls] at h
structure LsOK (L : List (List Tok3)) : Prop where
  len : L.length ≤ 100000
  tok : ∀ T ∈ L, TokOK T
theorem TokOK.nil : TokOK [] := ⟨by simp, fun j => by simp [tok0], fun j => by simp [tok0]⟩
theorem LsOK.get {L : List (List Tok3)} (h : LsOK L) (i : Nat) : TokOK (L.getD i []) := by
  by_cases hi : i < L.length
  · rw [List.getD_eq_getElem?_getD, List.getElem?_eq_getElem hi]; exact h.tok _ (List.getElem_mem hi)
  · rw [List.getD_eq_getElem?_getD, List.getElem?_eq_none (by omega)]; exact TokOK.nil
theorem LsOK.drop {L : List (List Tok3)} (h : LsOK L) (k : Nat) : LsOK (L.drop k) := ⟨by rw [List.length_drop]; have := h.len; omega, fun T hT => h.tok T (List.mem_of_mem_drop hT)⟩
theorem LsOK.nil : LsOK [] := ⟨by simp, by simp⟩
theorem nxt_at {L : List (List Tok3)} : ∀ {i : Nat}, (∀ j, j < i → (L.getD j []).length = 0) → i < L.length → (L.getD i []).length ≠ 0 → nxt L = (L.getD i [], L.drop (i + 1)) := by
  induction L with
  | nil => intro i _ h; simp at h
  | cons x L ih =>
    intro i h1 h2 h3
    cases i with
    | zero => unfold nxt; rw [if_neg (by simpa using h3)]; rfl
    | succ i =>
      have h0 := h1 0 (by omega)
      unfold nxt
      rw [if_pos (by simpa using h0)]
      exact ih (fun j hj => by simpa using h1 (j + 1) (by omega)) (by simpa using h2) (by simpa using h3)
theorem nxt_no {L : List (List Tok3)} (h : ∀ j, j < L.length → (L.getD j []).length = 0) : nxt L = ([], []) := by
  induction L with
  | nil => rfl
  | cons x L ih =>
    unfold nxt
    rw [if_pos (by simpa using h 0 (by simp))]
    exact ih fun j hj => by simpa using h (j + 1) (by simpa using hj)
theorem nxt_ok {L : List (List Tok3)} (h : LsOK L) : TokOK (nxt L).1 ∧ LsOK (nxt L).2 := by
  by_cases h1 : ∃ i, i < L.length ∧ (L.getD i []).length ≠ 0
  · have h2 : ∀ n, (∃ i, i < n ∧ i < L.length ∧ (L.getD i []).length ≠ 0) → ∃ i, i < L.length ∧ (L.getD i []).length ≠ 0 ∧ ∀ j, j < i → (L.getD j []).length = 0 := by
      intro n
      induction n with
      | zero => rintro ⟨i, h, _⟩; omega
      | succ n ih =>
        rintro ⟨i, h3, h4, h5⟩
        by_cases h6 : ∃ i, i < n ∧ i < L.length ∧ (L.getD i []).length ≠ 0
        · exact ih h6
        · have e : i = n := by
            rcases Nat.lt_or_ge i n with h7 | h7
            · exact absurd ⟨i, h7, h4, h5⟩ h6
            · omega
          subst e
          exact ⟨i, h4, h5, fun j hj => Classical.byContradiction fun h8 => h6 ⟨j, hj, by omega, h8⟩⟩
    obtain ⟨i, h3, h4, h5⟩ := h2 L.length (by obtain ⟨i, h3, h4⟩ := h1; exact ⟨i, h3, h3, h4⟩)
    rw [nxt_at h5 h3 h4]
    exact ⟨h.get i, h.drop _⟩
  · rw [nxt_no fun j hj => Classical.byContradiction fun h2 => h1 ⟨j, hj, h2⟩]
    exact ⟨TokOK.nil, LsOK.nil⟩
theorem Snap.duo {H : AHeap} {x y x' y' : AV} (h : Snap H x x') (k : Snap H y y') : Snap H (.tup [x, y]) (.tup [x', y']) := .tup _ _ rfl fun i a b e1 e2 => by
  match i with
  | 0 => simp at e1 e2; subst e1 e2; exact h
  | 1 => simp at e1 e2; subst e1 e2; exact k
  | i + 2 => simp at e1
theorem W1dc5a {A B : Prop} (h9 : B) (w : B → A := by (intro h9; (repeat intro K hK); refine ⟨?_⟩; (repeat (first | (first | (with_reducible first | refine AX_block ?_ | refine AX_skip ?_ | refine AX_exit ?_ | refine AX_ret ?_ | refine AX_ift ?_ | refine AX_iff ?_ | refine AX_seq_k (fun K hK => ?_) | refine ContX.use (by assumption) ?_) | simp only [thenX, inBlockX, if_true, if_false, reduceCtorEq]) | (first | ((first | (with_reducible refine XRes_op tyOK ?_ ?_) | ((with_reducible first | refine ADF_op tyOK ?_ ?_ ?_ | refine ADX_op tyOK ?_ ?_ ?_); (focus rfl)) | (with_reducible refine ADR_alloc1 tyOK ?_ ?_) | ((with_reducible refine ADR_free1 tyOK ?_ ?_ ?_); (focus rfl)) | ((with_reducible refine ADR_free0 tyOK ?_ ?_ ?_); (focus rfl)) | ((with_reducible refine ADR_read1 tyOK ?_ ?_ ?_); (focus rfl)) | (with_reducible refine ADR_chg1 tyOK ?_ ?_)); (focus (first | (with_reducible rfl) | ((simp (disch := omega) only [go_sem]); done))); simp (disch := omega) only [go_sem , hs1, hs2, hs3, hs4, hs5, hs6, Int.toNat_zero, Int.toNat_one, Int.toNat_natCast]; (first | (with_reducible refine XRes_id ?_) | (with_reducible refine ADF_id ?_) | (with_reducible refine ADR_id1 ?_) | (with_reducible refine ADX_id ?_))) | ((first | (with_reducible refine XRes_skip ?_ ?_) | (with_reducible refine ADF_skip (b := true) ?_ ?_) | (with_reducible refine ADX_skip ?_ ?_) | ((with_reducible refine ADR_skip1 ?_ ?_ ?_); (focus rfl))); (focus (first | rfl | ((simp (disch := omega) only [go_sem]); done))); (simp only [putL, List.set_cons_succ, List.set_cons_zero]))) | ((first | (with_reducible refine XRes_nil ?_) | (with_reducible refine ADF_nil ?_) | (with_reducible refine ADR_nil ?_) | (with_reducible refine ADX_nil ?_)); (first | refine hK _ ?_ | refine hK _ _ ?_); clear hK K) | (first | (first | refine XTL (by rfl) hF1 ?_ | refine ATL tyOK (by rfl) hF1 ?_ | refine XTL (by rfl) hF2 ?_ | refine ATL tyOK (by rfl) hF2 ?_)) | ((with_reducible refine AX_reg0 fun K hK => ?_); simp only [go_sem]) | ((refine AX_drawG1 tyOK (by kernel_rfl) (by rfl) (by kernel_rfl) fun K hK => ?_); (first | simp only [go_sem, preN, effOp, runF, alM, mapOp, alD2, kdOf2, Bool.not_false, Bool.not_true, reduceCtorEq] | simp only [go_sem, preN, effOp, runF, alM, mapOp, Bool.not_false, Bool.not_true, reduceCtorEq] | simp only [go_sem, preN, effOp, runF, alD2, kdOf2, Bool.not_false, Bool.not_true, reduceCtorEq] | simp only [go_sem, alD2, kdOf2, Bool.not_false, Bool.not_true, reduceCtorEq] | simp only [go_sem, preN, effOp, runF, Bool.not_false, Bool.not_true, reduceCtorEq] | simp only [go_sem])))); refine Wk.o ?_; (repeat revert hK K); exact h9)) : A := w h9
set_option maxRecDepth 100000 in
set_option maxHeartbeats 4000000 in
theorem pf_next (L : List (List Tok3)) (hL : LsOK L) : PF Tryd.prog 41 [.iv (iLs L)] fun r H' => r = .tup [.iv (iTokL (nxt L).1), .iv (iLs (nxt L).2)] ∧ H' = [] := by
  refine SF.frozen ?_
  have hs1 := trivial; have hs2 := trivial; have hs3 := trivial; have hs4 := trivial; have hs5 := trivial; have hs6 := trivial; have hF1 := trivial; have hF2 := trivial
  have hlen := hL.len
  unfold iLs
  (refine SF_of_bodyX (aload tt) (aload_ok tyOK) Tryd.func41 rfl (by kernel_rfl) ?_; simp only [Tryd.ntmps41, List.length_cons, List.length_nil, Nat.reduceAdd, Nat.reduceSub, List.replicate_succ, List.replicate_zero, List.cons_append, List.nil_append])
  (repeat (first | (first | (with_reducible first | refine AX_block ?_ | refine AX_skip ?_ | refine AX_exit ?_ | refine AX_ret ?_ | refine AX_ift ?_ | refine AX_iff ?_ | refine AX_seq_k (fun K hK => ?_) | refine ContX.use (by assumption) ?_) | simp only [thenX, inBlockX, if_true, if_false, reduceCtorEq]) | (first | ((first | (with_reducible refine XRes_op tyOK ?_ ?_) | ((with_reducible first | refine ADF_op tyOK ?_ ?_ ?_ | refine ADX_op tyOK ?_ ?_ ?_); (focus rfl)) | (with_reducible refine ADR_alloc1 tyOK ?_ ?_) | ((with_reducible refine ADR_free1 tyOK ?_ ?_ ?_); (focus rfl)) | ((with_reducible refine ADR_free0 tyOK ?_ ?_ ?_); (focus rfl)) | ((with_reducible refine ADR_read1 tyOK ?_ ?_ ?_); (focus rfl)) | (with_reducible refine ADR_chg1 tyOK ?_ ?_)); (focus (first | (with_reducible rfl) | ((simp (disch := omega) only [go_sem]); done))); simp (disch := omega) only [go_sem , hs1, hs2, hs3, hs4, hs5, hs6, Int.toNat_zero, Int.toNat_one, Int.toNat_natCast]; (first | (with_reducible refine XRes_id ?_) | (with_reducible refine ADF_id ?_) | (with_reducible refine ADR_id1 ?_) | (with_reducible refine ADX_id ?_))) | ((first | (with_reducible refine XRes_skip ?_ ?_) | (with_reducible refine ADF_skip (b := true) ?_ ?_) | (with_reducible refine ADX_skip ?_ ?_) | ((with_reducible refine ADR_skip1 ?_ ?_ ?_); (focus rfl))); (focus (first | rfl | ((simp (disch := omega) only [go_sem]); done))); (simp only [putL, List.set_cons_succ, List.set_cons_zero]))) | ((first | (with_reducible refine XRes_nil ?_) | (with_reducible refine ADF_nil ?_) | (with_reducible refine ADR_nil ?_) | (with_reducible refine ADX_nil ?_)); (first | refine hK _ ?_ | refine hK _ _ ?_); clear hK K) | ((first | (with_reducible refine AX_reg0 fun K hK => ?_) | (refine AX_drawG1 tyOK (by kernel_rfl) (by rfl) (by kernel_rfl) fun K hK => ?_) | (refine AX_drawT tyOK (by kernel_rfl) (by decide +kernel) fun K hK => ?_) | (refine AX_drawM1 (by kernel_rfl) (by rfl) (by decide +kernel) fun K hK => ?_) | (refine AX_drawA tyOK (by kernel_rfl) (by decide +kernel) fun K hK => ?_)); (first | simp only [go_sem, preN, effOp, runF, alM, mapOp, alD2, kdOf2, Bool.not_false, Bool.not_true, reduceCtorEq] | simp only [go_sem, preN, effOp, runF, alM, mapOp, Bool.not_false, Bool.not_true, reduceCtorEq] | simp only [go_sem, preN, effOp, runF, alD2, kdOf2, Bool.not_false, Bool.not_true, reduceCtorEq] | simp only [go_sem, alD2, kdOf2, Bool.not_false, Bool.not_true, reduceCtorEq] | simp only [go_sem, preN, effOp, runF, Bool.not_false, Bool.not_true, reduceCtorEq] | simp only [go_sem])) | (first | (first | refine XTL (by rfl) hF1 ?_ | refine ATL tyOK (by rfl) hF1 ?_ | refine XTL (by rfl) hF2 ?_ | refine ATL tyOK (by rfl) hF2 ?_))))
  (refine AWH (σ := Nat) [9, 10, 11, 12, 4, 5, 13, 14, 15, 16, 17, 18, 19, 20, 2, 3, 21] (fun i => [(8, lint i)]) (fun i => []) (fun i => []) (fun i => i ≤ L.length ∧ ∀ j, j < i → (L.getD j []).length = 0) (fun i => L.length - i) 0 (by first | exact ⟨Nat.zero_le _, fun j h => absurd h (by omega)⟩) ?_; rintro i d fr hfr ⟨hi, hj⟩; simp only [updS, deadS, List.set_cons_succ, List.set_cons_zero, lint] at hfr; subst hfr; (try dsimp only))
  by_cases hlt : i < L.length
  · have hs1 : iTokL (L.getD i []) = .sl (fun j => .lit ((tokL (L.getD i [])).getD j undef)) (L.getD i []).length 3 := rfl
    have htl := (hL.get i).len
    by_cases h0 : (L.getD i []).length = 0
    · have hs2 : decide ((0 : Int) < ((L.getD i []).length : Int)) = false := decide_eq_false (by omega)
      (refine Wk.o ?_; (repeat revert hK K); refine W1dc5a ?_; (repeat intro K hK); refine ⟨?_⟩)
      exact whx_end (i + 1) ⟨by omega, fun j h1 => by
        rcases Nat.lt_or_ge j i with h3 | h3
        · exact hj j h3
        · rw [show j = i by omega]; exact h0⟩ (by (first | omega | (dsimp only; omega) | (simp only; omega))) rfl (by first | rfl | (simp (disch := omega) only [go_sem, lint])) (fun d => by first | ((simp only [deadS, updS, List.set_cons_succ, List.set_cons_zero, lint, List.length_nil, List.length_cons]); done) | ((simp only [deadS, updS, List.set_cons_succ, List.set_cons_zero, lint, List.length_nil, List.length_cons]); rfl) | rfl)
    · have hs2 : decide ((0 : Int) < ((L.getD i []).length : Int)) = true := decide_eq_true (by omega)
      have hn := nxt_at hj hlt h0
      have hs3 : ((i : Int) + 1).toNat = i + 1 := by omega
      have hd : (L.drop (i + 1)).length = L.length - (i + 1) := List.length_drop
      have ht := ls_tail L (i + 1)
      (refine Wk.o ?_; (repeat revert hK K); refine W1dc5a ?_; (repeat intro K hK); refine ⟨?_⟩)
      (simp only [bodyX]; refine ⟨_, by simp only [aresults, aresult, XS.as, Tryd.results41, aload, go_sem, Option.bind_some]; rfl, ?_⟩)
      refine ⟨_, Snap.duo (.same _ (.iv _)) (.same _ (.iv _)), ?_, trivial⟩
      rw [hn]
      dsimp only
      rw [hd, ← ht]
      rfl
  · obtain rfl : i = L.length := by omega
    have hn := nxt_no hj
    (refine Wk.o ?_; (repeat revert hK K); refine W1dc5a ?_; (repeat intro K hK); refine ⟨?_⟩)
    (simp only [bodyX]; refine ⟨_, by simp only [aresults, aresult, XS.as, Tryd.results41, aload, go_sem, Option.bind_some]; rfl, ?_⟩)
    exact ⟨_, Snap.duo (.iv _ _ (.nil _ _)) (.iv _ _ (.nil _ _)), by rw [hn]; rfl, trivial⟩
set_option maxRecDepth 100000 in
set_option maxHeartbeats 4000000 in
theorem pf_four1 (n : Int) : PF Tryd.prog 63 [lt (.int .i64 n)] fun r H' => r = .iv (iInts [n, n, n, n]) ∧ H' = [] := by
  refine SF.forgetAll ?_
  have hs1 := trivial; have hs2 := trivial; have hs3 := trivial; have hs4 := trivial; have hs5 := trivial; have hs6 := trivial; have hF1 := trivial; have hF2 := trivial
  (refine SF_of_bodyX (aload tt) (aload_ok tyOK) Tryd.func63 rfl (by kernel_rfl) ?_; simp only [Tryd.ntmps63, List.length_cons, List.length_nil, Nat.reduceAdd, Nat.reduceSub, List.replicate_succ, List.replicate_zero, List.cons_append, List.nil_append])
  repeat (first | (first | (with_reducible first | refine AX_block ?_ | refine AX_skip ?_ | refine AX_exit ?_ | refine AX_ret ?_ | refine AX_ift ?_ | refine AX_iff ?_ | refine AX_seq_k (fun K hK => ?_) | refine ContX.use (by assumption) ?_) | simp only [thenX, inBlockX, if_true, if_false, reduceCtorEq]) | ((first | (refine XRes_litF tyOK (by rfl) rfl (by decide) rfl rfl ?_) | (refine ADF_litF tyOK (by rfl) rfl (by decide) rfl rfl ?_)); (simp only [List.map_cons, List.map_nil, intOf, putL, List.set_cons_succ, List.set_cons_zero])) | (first | ((first | (with_reducible refine XRes_op tyOK ?_ ?_) | ((with_reducible first | refine ADF_op tyOK ?_ ?_ ?_ | refine ADX_op tyOK ?_ ?_ ?_); (focus rfl)) | (with_reducible refine ADR_alloc1 tyOK ?_ ?_) | ((with_reducible refine ADR_free1 tyOK ?_ ?_ ?_); (focus rfl)) | ((with_reducible refine ADR_free0 tyOK ?_ ?_ ?_); (focus rfl)) | ((with_reducible refine ADR_read1 tyOK ?_ ?_ ?_); (focus rfl)) | (with_reducible refine ADR_chg1 tyOK ?_ ?_)); (focus (first | (with_reducible rfl) | ((simp (disch := omega) only [go_sem]); done))); simp (disch := omega) only [go_sem , hs1, hs2, hs3, hs4, hs5, hs6, Int.toNat_zero, Int.toNat_one, Int.toNat_natCast]; (first | (with_reducible refine XRes_id ?_) | (with_reducible refine ADF_id ?_) | (with_reducible refine ADR_id1 ?_) | (with_reducible refine ADX_id ?_))) | ((first | (with_reducible refine XRes_skip ?_ ?_) | (with_reducible refine ADF_skip (b := true) ?_ ?_) | (with_reducible refine ADX_skip ?_ ?_) | ((with_reducible refine ADR_skip1 ?_ ?_ ?_); (focus rfl))); (focus (first | rfl | ((simp (disch := omega) only [go_sem]); done))); (simp only [putL, List.set_cons_succ, List.set_cons_zero]))) | ((first | (with_reducible refine XRes_nil ?_) | (with_reducible refine ADF_nil ?_) | (with_reducible refine ADR_nil ?_) | (with_reducible refine ADX_nil ?_)); (first | refine hK _ ?_ | refine hK _ _ ?_); clear hK K) | ((first | (with_reducible refine AX_reg0 fun K hK => ?_) | (refine AX_drawG1 tyOK (by kernel_rfl) (by rfl) (by kernel_rfl) fun K hK => ?_) | (refine AX_drawT tyOK (by kernel_rfl) (by decide +kernel) fun K hK => ?_) | (refine AX_drawM1 (by kernel_rfl) (by rfl) (by decide +kernel) fun K hK => ?_) | (refine AX_drawA tyOK (by kernel_rfl) (by decide +kernel) fun K hK => ?_)); (first | simp only [go_sem, preN, effOp, runF, alM, mapOp, alD2, kdOf2, Bool.not_false, Bool.not_true, reduceCtorEq] | simp only [go_sem, preN, effOp, runF, alM, mapOp, Bool.not_false, Bool.not_true, reduceCtorEq] | simp only [go_sem, preN, effOp, runF, alD2, kdOf2, Bool.not_false, Bool.not_true, reduceCtorEq] | simp only [go_sem, alD2, kdOf2, Bool.not_false, Bool.not_true, reduceCtorEq] | simp only [go_sem, preN, effOp, runF, Bool.not_false, Bool.not_true, reduceCtorEq] | simp only [go_sem])))
  (simp only [bodyX]; refine ⟨_, by simp only [aresults, aresult, XS.as, Tryd.results63, aload, go_sem, Option.bind_some]; rfl, ?_⟩)
  exact ⟨.iv _, rfl, trivial⟩
set_option maxRecDepth 100000 in
set_option maxHeartbeats 4000000 in
theorem pf_four : PF Tryd.prog 40 [] fun r H' => r = .tup [.iv (iInts lo4), .iv (iInts hi4)] ∧ H' = [] := by
  refine SF.forgetAll ?_
  have hs1 := trivial; have hs2 := trivial; have hs3 := trivial; have hs4 := trivial; have hs5 := trivial; have hs6 := trivial; have hF1 := trivial; have hF2 := trivial
  have hS1 := PF.tells (H := []) (fun a ha => by simp only [List.mem_cons, List.not_mem_nil, or_false] at ha; subst ha; exact .iv _) (fun _ => rfl) (pf_four1 0)
  have hS2 := PF.tells (H := []) (fun a ha => by simp only [List.mem_cons, List.not_mem_nil, or_false] at ha; subst ha; exact .iv _) (fun _ => rfl) (pf_four1 1000000)
  (refine SF_of_bodyX (aload tt) (aload_ok tyOK) Tryd.func40 rfl (by kernel_rfl) ?_; simp only [Tryd.ntmps40, List.length_cons, List.length_nil, Nat.reduceAdd, Nat.reduceSub, List.replicate_succ, List.replicate_zero, List.cons_append, List.nil_append])
  repeat (first | (first | (with_reducible first | refine AX_block ?_ | refine AX_skip ?_ | refine AX_exit ?_ | refine AX_ret ?_ | refine AX_ift ?_ | refine AX_iff ?_ | refine AX_seq_k (fun K hK => ?_) | refine ContX.use (by assumption) ?_) | simp only [thenX, inBlockX, if_true, if_false, reduceCtorEq]) | (first | ((first | (with_reducible refine XRes_op tyOK ?_ ?_) | ((with_reducible first | refine ADF_op tyOK ?_ ?_ ?_ | refine ADX_op tyOK ?_ ?_ ?_); (focus rfl)) | (with_reducible refine ADR_alloc1 tyOK ?_ ?_) | ((with_reducible refine ADR_free1 tyOK ?_ ?_ ?_); (focus rfl)) | ((with_reducible refine ADR_free0 tyOK ?_ ?_ ?_); (focus rfl)) | ((with_reducible refine ADR_read1 tyOK ?_ ?_ ?_); (focus rfl)) | (with_reducible refine ADR_chg1 tyOK ?_ ?_)); (focus (first | (with_reducible rfl) | ((simp (disch := omega) only [go_sem]); done))); simp (disch := omega) only [go_sem , hs1, hs2, hs3, hs4, hs5, hs6, Int.toNat_zero, Int.toNat_one, Int.toNat_natCast]; (first | (with_reducible refine XRes_id ?_) | (with_reducible refine ADF_id ?_) | (with_reducible refine ADR_id1 ?_) | (with_reducible refine ADX_id ?_))) | ((first | (with_reducible refine XRes_skip ?_ ?_) | (with_reducible refine ADF_skip (b := true) ?_ ?_) | (with_reducible refine ADX_skip ?_ ?_) | ((with_reducible refine ADR_skip1 ?_ ?_ ?_); (focus rfl))); (focus (first | rfl | ((simp (disch := omega) only [go_sem]); done))); (simp only [putL, List.set_cons_succ, List.set_cons_zero]))) | ((first | (with_reducible refine XRes_nil ?_) | (with_reducible refine ADF_nil ?_) | (with_reducible refine ADR_nil ?_) | (with_reducible refine ADX_nil ?_)); (first | refine hK _ ?_ | refine hK _ _ ?_); clear hK K) | ((first | (with_reducible refine AX_reg0 fun K hK => ?_) | (refine AX_drawG1 tyOK (by kernel_rfl) (by rfl) (by kernel_rfl) fun K hK => ?_) | (refine AX_drawT tyOK (by kernel_rfl) (by decide +kernel) fun K hK => ?_) | (refine AX_drawM1 (by kernel_rfl) (by rfl) (by decide +kernel) fun K hK => ?_) | (refine AX_drawA tyOK (by kernel_rfl) (by decide +kernel) fun K hK => ?_)); (first | simp only [go_sem, preN, effOp, runF, alM, mapOp, alD2, kdOf2, Bool.not_false, Bool.not_true, reduceCtorEq] | simp only [go_sem, preN, effOp, runF, alM, mapOp, Bool.not_false, Bool.not_true, reduceCtorEq] | simp only [go_sem, preN, effOp, runF, alD2, kdOf2, Bool.not_false, Bool.not_true, reduceCtorEq] | simp only [go_sem, alD2, kdOf2, Bool.not_false, Bool.not_true, reduceCtorEq] | simp only [go_sem, preN, effOp, runF, Bool.not_false, Bool.not_true, reduceCtorEq] | simp only [go_sem])) | ((refine XRes_slot (by rfl) rfl hS1 ?_); (rintro r H' ⟨rfl, rfl⟩); (simp only [putL, List.set_cons_succ, List.set_cons_zero])) | ((refine XRes_slot (by rfl) rfl hS2 ?_); (rintro r H' ⟨rfl, rfl⟩); (simp only [putL, List.set_cons_succ, List.set_cons_zero])))
  (simp only [bodyX]; refine ⟨_, by simp only [aresults, aresult, XS.as, Tryd.results40, aload, go_sem, Option.bind_some]; rfl, ?_⟩)
  exact ⟨ids_idB rfl, rfl, trivial⟩
end Go.Proofs.YtdaenbgjafalcaaDoor
namespace Go.Proofs.YtdaenbgjafalcaaDoor
open Go.RowKit
set_option linter.unusedVariables false
set_option linter.unusedSimpArgs false
set_option maxRecDepth 100000 in
set_option maxHeartbeats 1000000 in
theorem pf_within (n lo hi : Int) : PF Tryd.prog 56 [lt (.int .i64 n), lt (.int .i64 lo), lt (.int .i64 hi)] fun r H' => r = lt (.bool (decide (lo ≤ n ∧ n ≤ hi))) ∧ H' = [] := by
  refine SF.forgetAll ?_
  (refine SF_of_bodyX (aload tt) (aload_ok tyOK) Tryd.func56 rfl (by kernel_rfl) ?_; simp only [Tryd.ntmps56, List.length_cons, List.length_nil, Nat.reduceAdd, Nat.reduceSub, List.replicate_succ, List.replicate_zero, List.cons_append, List.nil_append])
  (repeat' (first | (first | (with_reducible first | refine AX_block ?_ | refine AX_skip ?_ | refine AX_exit ?_ | refine AX_ret ?_ | refine AX_ift ?_ | refine AX_iff ?_ | refine AX_seq_k (fun K hK => ?_) | refine ContX.use (by assumption) ?_) | simp only [thenX, inBlockX, if_true, if_false, reduceCtorEq]) | (first | ((with_reducible first | refine XOP tyOK ?_ | refine AOP tyOK ?_); simp (disch := omega) only [go_sem , flatR_s, flatR_k, flatR_n, flatR_r]; (with_reducible first | refine XRes_id ?_ | refine ADF_id ?_)) | (with_reducible first | refine XSK ?_ | refine ASK ?_)) | ((first | (with_reducible refine XRes_nil ?_) | (with_reducible refine ADF_nil ?_)); (first | refine hK _ ?_ | refine hK _ _ ?_); clear hK K) | ((first | (with_reducible refine AX_reg0 fun K hK => ?_) | (refine AX_drawG1 tyOK (by kernel_rfl) (by rfl) (by kernel_rfl) fun K hK => ?_)); simp only [go_sem]) | (first | ((refine XRes_slot (by rfl) rfl (PF.tells (idsA rfl) (fun _ => rfl) (pf_within _ _ _)) ?_); rintro r H' ⟨rfl, rfl⟩; (simp only [putL, List.set_cons_succ, List.set_cons_zero])) | (first | refine XTL (by rfl) (pf_rises _ _) ?_ | refine ATL tyOK (by rfl) (pf_rises _ _) ?_)) | ((first | (refine XRes_splitG (by rfl) (fun hc => ?_) (fun hc => ?_)) | (refine ADF_splitG (by rfl) (fun hc => ?_) (fun hc => ?_))) <;> (try simp only [eqRes, List.cons_beq_cons, Bool.and_eq_true, Bool.not_eq_true, Bool.and_eq_false_iff, decide_eq_true_eq, decide_eq_false_iff_not, bne_iff_ne, beq_iff_eq, bne_eq_false_iff_eq, beq_eq_false_iff_ne, Bool.not_eq_true', Bool.not_eq_false', ne_eq, Int.not_lt, Int.not_le, Decidable.not_not] at hc) <;> simp only [List.set_cons_succ, List.set_cons_zero]) | (first | ((with_reducible refine AX_if_t ?_ ?_); focus (simp (disch := omega) only [go_sem , flatR_s, flatR_k, flatR_n, flatR_r]; done)) | ((with_reducible refine AX_if_f ?_ ?_); focus (simp (disch := omega) only [go_sem , flatR_s, flatR_k, flatR_n, flatR_r]; done)) | (refine AX_cond _ (by rfl) (fun hc => ?_) (fun hc => ?_) <;> (try simp only [eqRes, List.cons_beq_cons, Bool.and_eq_true, Bool.not_eq_true, Bool.and_eq_false_iff, decide_eq_true_eq, decide_eq_false_iff_not, bne_iff_ne, beq_iff_eq, bne_eq_false_iff_eq, beq_eq_false_iff_ne, Bool.not_eq_true', Bool.not_eq_false', ne_eq, Int.not_lt, Int.not_le, Decidable.not_not] at hc)))))
  all_goals
    (simp only [bodyX]; refine ⟨_, by simp only [aresults, aresult, XS.as, Tryd.results56, aload, go_sem, Option.bind_some]; rfl, ?_⟩)
    exact ⟨.iv _, (by first | rw [decide_eq_false (by omega)] | simp [hc]), trivial⟩
set_option maxRecDepth 100000 in
set_option maxHeartbeats 1000000 in
theorem pf_rises (x y : Rw) : PF Tryd.prog 57 [rwA x, rwA y] fun r H' => r = lt (.bool (decide (rises x y))) ∧ H' = [] := by
  refine SF.forgetAll ?_
  (refine SF_of_bodyX (aload tt) (aload_ok tyOK) Tryd.func57 rfl (by kernel_rfl) ?_; simp only [Tryd.ntmps57, List.length_cons, List.length_nil, Nat.reduceAdd, Nat.reduceSub, List.replicate_succ, List.replicate_zero, List.cons_append, List.nil_append])
  (repeat' (first | (first | (with_reducible first | refine AX_block ?_ | refine AX_skip ?_ | refine AX_exit ?_ | refine AX_ret ?_ | refine AX_ift ?_ | refine AX_iff ?_ | refine AX_seq_k (fun K hK => ?_) | refine ContX.use (by assumption) ?_) | simp only [thenX, inBlockX, if_true, if_false, reduceCtorEq]) | (first | ((with_reducible first | refine XOP tyOK ?_ | refine AOP tyOK ?_); simp (disch := omega) only [go_sem , flatR_s, flatR_k, flatR_n, flatR_r]; (with_reducible first | refine XRes_id ?_ | refine ADF_id ?_)) | (with_reducible first | refine XSK ?_ | refine ASK ?_)) | ((first | (with_reducible refine XRes_nil ?_) | (with_reducible refine ADF_nil ?_)); (first | refine hK _ ?_ | refine hK _ _ ?_); clear hK K) | ((first | (with_reducible refine AX_reg0 fun K hK => ?_) | (refine AX_drawG1 tyOK (by kernel_rfl) (by rfl) (by kernel_rfl) fun K hK => ?_)); simp only [go_sem]) | (first | ((refine XRes_slot (by rfl) rfl (PF.tells (idsA rfl) (fun _ => rfl) (pf_within _ _ _)) ?_); rintro r H' ⟨rfl, rfl⟩; (simp only [putL, List.set_cons_succ, List.set_cons_zero])) | (first | refine XTL (by rfl) (pf_rises _ _) ?_ | refine ATL tyOK (by rfl) (pf_rises _ _) ?_)) | ((first | (refine XRes_splitG (by rfl) (fun hc => ?_) (fun hc => ?_)) | (refine ADF_splitG (by rfl) (fun hc => ?_) (fun hc => ?_))) <;> (try simp only [eqRes, List.cons_beq_cons, Bool.and_eq_true, Bool.not_eq_true, Bool.and_eq_false_iff, decide_eq_true_eq, decide_eq_false_iff_not, bne_iff_ne, beq_iff_eq, bne_eq_false_iff_eq, beq_eq_false_iff_ne, Bool.not_eq_true', Bool.not_eq_false', ne_eq, Int.not_lt, Int.not_le, Decidable.not_not] at hc) <;> simp only [List.set_cons_succ, List.set_cons_zero]) | (first | ((with_reducible refine AX_if_t ?_ ?_); focus (simp (disch := omega) only [go_sem , flatR_s, flatR_k, flatR_n, flatR_r]; done)) | ((with_reducible refine AX_if_f ?_ ?_); focus (simp (disch := omega) only [go_sem , flatR_s, flatR_k, flatR_n, flatR_r]; done)) | (refine AX_cond _ (by rfl) (fun hc => ?_) (fun hc => ?_) <;> (try simp only [eqRes, List.cons_beq_cons, Bool.and_eq_true, Bool.not_eq_true, Bool.and_eq_false_iff, decide_eq_true_eq, decide_eq_false_iff_not, bne_iff_ne, beq_iff_eq, bne_eq_false_iff_eq, beq_eq_false_iff_ne, Bool.not_eq_true', Bool.not_eq_false', ne_eq, Int.not_lt, Int.not_le, Decidable.not_not] at hc)))))
  all_goals
    (simp only [bodyX]; refine ⟨_, by simp only [aresults, aresult, XS.as, Tryd.results57, aload, go_sem, Option.bind_some]; rfl, ?_⟩)
    exact ⟨.iv _, (by unfold rises; congr 2; first | (rw [decide_eq_false (by omega)]; done) | (rw [decide_eq_true (by omega)]; done) | (simp [*]; done)), trivial⟩
theorem obAt_at {o : Ob} {i : Nat} (hh : obHead o) (hp : ∀ j, j < i → obErr o j = 0) (hi : i < o.R.length) (c : Int) (hc : c ≠ 0) (he : obErr o i = c) : obAt o = i ∧ obE o = c := by
  have h1 : obBad o = i := fb_at hp (by rw [he]; exact hc) hi
  unfold obAt obE
  rw [if_pos hh, if_pos hh, h1, if_pos hi, he]
  exact ⟨rfl, rfl⟩
theorem obAt_of {o : Ob} {i : Nat} (hh : obHead o) (hp : ∀ j, j < i → obErr o j = 0) (hi : i < o.R.length) (he : obErr o i ≠ 0) : obAt o = i ∧ obE o = obErr o i := obAt_at hh hp hi _ he rfl
theorem obAt_end {o : Ob} (hh : obHead o) (hp : ∀ j, j < o.R.length → obErr o j = 0) : obAt o = o.R.length ∧ obE o = 0 := by
  have h1 : obBad o = o.R.length := fb_all hp
  unfold obAt obE
  rw [if_pos hh, if_pos hh, h1, if_neg (by omega)]
  exact ⟨rfl, rfl⟩
theorem obAt_head {o : Ob} (hh : ¬ obHead o) : obAt o = -1 ∧ obE o = 2 := by
  unfold obAt obE
  rw [if_neg hh, if_neg hh]
  exact ⟨rfl, rfl⟩
set_option maxRecDepth 100000 in
set_option maxHeartbeats 4000000 in
theorem pf_obCheck (o : Ob) (hr : o.R.length ≤ 100000) (ho : o.Ok) : PF Tryd.prog 32 [obA o] fun r H' => r = .tup [lt (.int .i64 (obAt o)), lt (.int .i64 (obE o))] ∧ H' = [] := by
  refine SF.forgetAll ?_
  have b1 := ho.S; have b2 := ho.K; have b3 := ho.I
  by_cases hh : obHead o
  · have hh1 := hh
    unfold obHead at hh1
    (refine SF_of_bodyX (aload tt) (aload_ok tyOK) Tryd.func32 rfl (by kernel_rfl) ?_; simp only [Tryd.ntmps32, List.length_cons, List.length_nil, Nat.reduceAdd, Nat.reduceSub, List.replicate_succ, List.replicate_zero, List.cons_append, List.nil_append])
    (repeat (first | (first | (with_reducible first | refine AX_block ?_ | refine AX_skip ?_ | refine AX_exit ?_ | refine AX_ret ?_ | refine AX_ift ?_ | refine AX_iff ?_ | refine AX_seq_k (fun K hK => ?_) | refine ContX.use (by assumption) ?_) | simp only [thenX, inBlockX, if_true, if_false, reduceCtorEq]) | (first | ((with_reducible first | refine XOP tyOK ?_ | refine AOP tyOK ?_); simp (disch := omega) only [go_sem , flatR_s, flatR_k, flatR_n, flatR_r]; (with_reducible first | refine XRes_id ?_ | refine ADF_id ?_)) | (with_reducible first | refine XSK ?_ | refine ASK ?_)) | ((first | (with_reducible refine XRes_nil ?_) | (with_reducible refine ADF_nil ?_)); (first | refine hK _ ?_ | refine hK _ _ ?_); clear hK K) | ((first | (with_reducible refine AX_reg0 fun K hK => ?_) | (refine AX_drawG1 tyOK (by kernel_rfl) (by rfl) (by kernel_rfl) fun K hK => ?_)); simp only [go_sem]) | (first | ((refine XRes_slot (by rfl) rfl (PF.tells (idsA rfl) (fun _ => rfl) (pf_within _ _ _)) ?_); rintro r H' ⟨rfl, rfl⟩; (simp only [putL, List.set_cons_succ, List.set_cons_zero])) | (first | refine XTL (by rfl) (pf_rises _ _) ?_ | refine ATL tyOK (by rfl) (pf_rises _ _) ?_))))
    (refine AWH (σ := Nat) [33, 34, 35, 36, 6, 5, 38, 39, 40, 41, 42, 43, 44, 45, 46, 47, 48, 49, 50, 51, 52, 53, 54, 55, 37, 56, 2, 3, 58, 59, 60, 61, 62, 63, 64, 65, 57, 66, 68, 69, 70, 71, 72, 67, 73, 75, 76, 77, 78, 79, 80, 81, 82, 83, 84, 85, 86, 87, 74, 88, 89] (fun i => [(32, lint i)]) (fun i => [some ⟨25, [lt (.int .i64 o.S), lt (.int .i64 o.K), lt (.int .i64 o.I), .iv (iRws o.R)]⟩]) (fun i => []) (fun i => i ≤ o.R.length ∧ ∀ j, j < i → obErr o j = 0) (fun i => o.R.length - i) 0 (by first | exact ⟨Nat.zero_le _, fun j h => absurd h (by omega)⟩) ?_; rintro i d fr hfr ⟨hi, hp⟩; simp only [updS, deadS, List.set_cons_succ, List.set_cons_zero, lint] at hfr; subst hfr; (try dsimp only))
    by_cases hlt : i < o.R.length
    · have hti : ((i : Int) - 1).toNat = i - 1 := by omega
      (repeat' (first | (first | (with_reducible first | refine AX_block ?_ | refine AX_skip ?_ | refine AX_exit ?_ | refine AX_ret ?_ | refine AX_ift ?_ | refine AX_iff ?_ | refine AX_seq_k (fun K hK => ?_) | refine ContX.use (by assumption) ?_) | simp only [thenX, inBlockX, if_true, if_false, reduceCtorEq]) | (first | ((with_reducible first | refine XOP tyOK ?_ | refine AOP tyOK ?_); simp (disch := omega) only [go_sem , flatR_s, flatR_k, flatR_n, flatR_r]; (with_reducible first | refine XRes_id ?_ | refine ADF_id ?_)) | (with_reducible first | refine XSK ?_ | refine ASK ?_)) | ((first | (with_reducible refine XRes_nil ?_) | (with_reducible refine ADF_nil ?_)); (first | refine hK _ ?_ | refine hK _ _ ?_); clear hK K) | ((first | (with_reducible refine AX_reg0 fun K hK => ?_) | (refine AX_drawG1 tyOK (by kernel_rfl) (by rfl) (by kernel_rfl) fun K hK => ?_)); simp only [go_sem]) | (first | ((refine XRes_slot (by rfl) rfl (PF.tells (idsA rfl) (fun _ => rfl) (pf_within _ _ _)) ?_); rintro r H' ⟨rfl, rfl⟩; (simp only [putL, List.set_cons_succ, List.set_cons_zero])) | (first | refine XTL (by rfl) (pf_rises _ _) ?_ | refine ATL tyOK (by rfl) (pf_rises _ _) ?_)) | ((first | (refine XRes_splitG (by rfl) (fun hc => ?_) (fun hc => ?_)) | (refine ADF_splitG (by rfl) (fun hc => ?_) (fun hc => ?_))) <;> (try simp only [eqRes, List.cons_beq_cons, Bool.and_eq_true, Bool.not_eq_true, Bool.and_eq_false_iff, decide_eq_true_eq, decide_eq_false_iff_not, bne_iff_ne, beq_iff_eq, bne_eq_false_iff_eq, beq_eq_false_iff_ne, Bool.not_eq_true', Bool.not_eq_false', ne_eq, Int.not_lt, Int.not_le, Decidable.not_not] at hc) <;> simp only [List.set_cons_succ, List.set_cons_zero]) | (first | ((with_reducible refine AX_if_t ?_ ?_); focus (simp (disch := omega) only [go_sem , flatR_s, flatR_k, flatR_n, flatR_r]; done)) | ((with_reducible refine AX_if_f ?_ ?_); focus (simp (disch := omega) only [go_sem , flatR_s, flatR_k, flatR_n, flatR_r]; done)) | (refine AX_cond _ (by rfl) (fun hc => ?_) (fun hc => ?_) <;> (try simp only [eqRes, List.cons_beq_cons, Bool.and_eq_true, Bool.not_eq_true, Bool.and_eq_false_iff, decide_eq_true_eq, decide_eq_false_iff_not, bne_iff_ne, beq_iff_eq, bne_eq_false_iff_eq, beq_eq_false_iff_ne, Bool.not_eq_true', Bool.not_eq_false', ne_eq, Int.not_lt, Int.not_le, Decidable.not_not] at hc)))))
      all_goals first
        | ((simp only [bodyX]; refine ⟨_, by simp only [aresults, aresult, XS.as, Tryd.results32, aload, go_sem, Option.bind_some]; rfl, ?_⟩); (obtain ⟨e1, e2⟩ := obAt_of hh hp hlt (by ((try simp only [hti, rises] at *); unfold obErr; (try simp only [rises]); (repeat' split) <;> first | rfl | omega)); rw [e1, e2]; refine ⟨ids_idB rfl, congrArg (fun z : Int => AV.tup [lt (.int .i64 (i : Int)), lt (.int .i64 z)]) (?_ : _ = obErr o i), trivial⟩; ((try simp only [hti, rises] at *); unfold obErr; (try simp only [rises]); (repeat' split) <;> first | rfl | omega)))
        | (refine WRN [0] (i + 1) ⟨by omega, fun j h => ?_⟩ (by (first | omega | (dsimp only; omega) | (simp only; omega)))
           rcases Nat.lt_or_ge j i with h1 | h1
           · exact hp j h1
           · rw [show j = i by omega]; ((try simp only [hti, rises] at *); unfold obErr; (try simp only [rises]); (repeat' split) <;> first | rfl | omega))
    · have hii : i = o.R.length := by omega
      subst hii
      (repeat' (first | (first | (with_reducible first | refine AX_block ?_ | refine AX_skip ?_ | refine AX_exit ?_ | refine AX_ret ?_ | refine AX_ift ?_ | refine AX_iff ?_ | refine AX_seq_k (fun K hK => ?_) | refine ContX.use (by assumption) ?_) | simp only [thenX, inBlockX, if_true, if_false, reduceCtorEq]) | (first | ((with_reducible first | refine XOP tyOK ?_ | refine AOP tyOK ?_); simp (disch := omega) only [go_sem , flatR_s, flatR_k, flatR_n, flatR_r]; (with_reducible first | refine XRes_id ?_ | refine ADF_id ?_)) | (with_reducible first | refine XSK ?_ | refine ASK ?_)) | ((first | (with_reducible refine XRes_nil ?_) | (with_reducible refine ADF_nil ?_)); (first | refine hK _ ?_ | refine hK _ _ ?_); clear hK K) | ((first | (with_reducible refine AX_reg0 fun K hK => ?_) | (refine AX_drawG1 tyOK (by kernel_rfl) (by rfl) (by kernel_rfl) fun K hK => ?_)); simp only [go_sem]) | (first | ((refine XRes_slot (by rfl) rfl (PF.tells (idsA rfl) (fun _ => rfl) (pf_within _ _ _)) ?_); rintro r H' ⟨rfl, rfl⟩; (simp only [putL, List.set_cons_succ, List.set_cons_zero])) | (first | refine XTL (by rfl) (pf_rises _ _) ?_ | refine ATL tyOK (by rfl) (pf_rises _ _) ?_)) | ((first | (refine XRes_splitG (by rfl) (fun hc => ?_) (fun hc => ?_)) | (refine ADF_splitG (by rfl) (fun hc => ?_) (fun hc => ?_))) <;> (try simp only [eqRes, List.cons_beq_cons, Bool.and_eq_true, Bool.not_eq_true, Bool.and_eq_false_iff, decide_eq_true_eq, decide_eq_false_iff_not, bne_iff_ne, beq_iff_eq, bne_eq_false_iff_eq, beq_eq_false_iff_ne, Bool.not_eq_true', Bool.not_eq_false', ne_eq, Int.not_lt, Int.not_le, Decidable.not_not] at hc) <;> simp only [List.set_cons_succ, List.set_cons_zero]) | (first | ((with_reducible refine AX_if_t ?_ ?_); focus (simp (disch := omega) only [go_sem , flatR_s, flatR_k, flatR_n, flatR_r]; done)) | ((with_reducible refine AX_if_f ?_ ?_); focus (simp (disch := omega) only [go_sem , flatR_s, flatR_k, flatR_n, flatR_r]; done)) | (refine AX_cond _ (by rfl) (fun hc => ?_) (fun hc => ?_) <;> (try simp only [eqRes, List.cons_beq_cons, Bool.and_eq_true, Bool.not_eq_true, Bool.and_eq_false_iff, decide_eq_true_eq, decide_eq_false_iff_not, bne_iff_ne, beq_iff_eq, bne_eq_false_iff_eq, beq_eq_false_iff_ne, Bool.not_eq_true', Bool.not_eq_false', ne_eq, Int.not_lt, Int.not_le, Decidable.not_not] at hc)))))
      (simp only [bodyX]; refine ⟨_, by simp only [aresults, aresult, XS.as, Tryd.results32, aload, go_sem, Option.bind_some]; rfl, ?_⟩)
      obtain ⟨e1, e2⟩ := obAt_end hh hp
      rw [e1, e2]
      exact ⟨ids_idB rfl, rfl, trivial⟩
  · have hh1 := hh
    unfold obHead at hh1
    obtain ⟨e1, e2⟩ := obAt_head hh
    (refine SF_of_bodyX (aload tt) (aload_ok tyOK) Tryd.func32 rfl (by kernel_rfl) ?_; simp only [Tryd.ntmps32, List.length_cons, List.length_nil, Nat.reduceAdd, Nat.reduceSub, List.replicate_succ, List.replicate_zero, List.cons_append, List.nil_append])
    (repeat' (first | (first | (with_reducible first | refine AX_block ?_ | refine AX_skip ?_ | refine AX_exit ?_ | refine AX_ret ?_ | refine AX_ift ?_ | refine AX_iff ?_ | refine AX_seq_k (fun K hK => ?_) | refine ContX.use (by assumption) ?_) | simp only [thenX, inBlockX, if_true, if_false, reduceCtorEq]) | (first | ((with_reducible first | refine XOP tyOK ?_ | refine AOP tyOK ?_); simp (disch := omega) only [go_sem , flatR_s, flatR_k, flatR_n, flatR_r]; (with_reducible first | refine XRes_id ?_ | refine ADF_id ?_)) | (with_reducible first | refine XSK ?_ | refine ASK ?_)) | ((first | (with_reducible refine XRes_nil ?_) | (with_reducible refine ADF_nil ?_)); (first | refine hK _ ?_ | refine hK _ _ ?_); clear hK K) | ((first | (with_reducible refine AX_reg0 fun K hK => ?_) | (refine AX_drawG1 tyOK (by kernel_rfl) (by rfl) (by kernel_rfl) fun K hK => ?_)); simp only [go_sem]) | (first | ((refine XRes_slot (by rfl) rfl (PF.tells (idsA rfl) (fun _ => rfl) (pf_within _ _ _)) ?_); rintro r H' ⟨rfl, rfl⟩; (simp only [putL, List.set_cons_succ, List.set_cons_zero])) | (first | refine XTL (by rfl) (pf_rises _ _) ?_ | refine ATL tyOK (by rfl) (pf_rises _ _) ?_)) | ((first | (refine XRes_splitG (by rfl) (fun hc => ?_) (fun hc => ?_)) | (refine ADF_splitG (by rfl) (fun hc => ?_) (fun hc => ?_))) <;> (try simp only [eqRes, List.cons_beq_cons, Bool.and_eq_true, Bool.not_eq_true, Bool.and_eq_false_iff, decide_eq_true_eq, decide_eq_false_iff_not, bne_iff_ne, beq_iff_eq, bne_eq_false_iff_eq, beq_eq_false_iff_ne, Bool.not_eq_true', Bool.not_eq_false', ne_eq, Int.not_lt, Int.not_le, Decidable.not_not] at hc) <;> simp only [List.set_cons_succ, List.set_cons_zero]) | (first | ((with_reducible refine AX_if_t ?_ ?_); focus (simp (disch := omega) only [go_sem , flatR_s, flatR_k, flatR_n, flatR_r]; done)) | ((with_reducible refine AX_if_f ?_ ?_); focus (simp (disch := omega) only [go_sem , flatR_s, flatR_k, flatR_n, flatR_r]; done)) | (refine AX_cond _ (by rfl) (fun hc => ?_) (fun hc => ?_) <;> (try simp only [eqRes, List.cons_beq_cons, Bool.and_eq_true, Bool.not_eq_true, Bool.and_eq_false_iff, decide_eq_true_eq, decide_eq_false_iff_not, bne_iff_ne, beq_iff_eq, bne_eq_false_iff_eq, beq_eq_false_iff_ne, Bool.not_eq_true', Bool.not_eq_false', ne_eq, Int.not_lt, Int.not_le, Decidable.not_not] at hc)))))
    all_goals (first | (exfalso; omega) | ((simp only [bodyX]; refine ⟨_, by simp only [aresults, aresult, XS.as, Tryd.results32, aload, go_sem, Option.bind_some]; rfl, ?_⟩); rw [e1, e2]; exact ⟨ids_idB rfl, rfl, trivial⟩))
end Go.Proofs.YtdaenbgjafalcaaDoor
