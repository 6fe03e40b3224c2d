import Derived.Test.YtghdacijcnmhlaaDoorMgBC
import Derived.Test.YtghdacijcnmhlaaDoorMgBD
import Derived.Test.YtghdacijcnmhlaaDoorMgBE
import Derived.Test.YtghdacijcnmhlaaDoorMgBA
import Derived.Test.YtghdacijcnmhlaaDoorMgAN
import Derived.Test.YtghdacijcnmhlaaDoorMgAO
import Derived.Test.YtghdacijcnmhlaaDoorMgAZ
import Derived.Test.YtghdacijcnmhlaaDoorMgBB
namespace Go.Proofs.YtghdacijcnmhlaaDoor
open Go.RowKit Go.Lib
set_option linter.unusedVariables false
set_option linter.unusedSimpArgs false
theorem tokL_atL {T : List Tok3} : ∀ {k : Nat}, k < T.length → (tokL T).getD (k * 3) undef = .int .i64 (T.getD k tok0).1 ∧ (tokL T).getD (k * 3 + 1) undef = .int .i64 (T.getD k tok0).2.1 ∧ (tokL T).getD (k * 3 + 2) undef = .string (ba (T.getD k tok0).2.2) := by
  intro k h
  have hh : ∀ j, (tokC T)[j]? = some (lt ((tokL T).getD j undef)) ∨ (tokC T)[j]? = none := fun j => by
    unfold tokC
    rw [List.getElem?_map, List.getD_eq_getElem?_getD]
    cases (tokL T)[j]? <;> simp
  obtain ⟨h1, h2, h3⟩ := tokC_at h
  refine ⟨?_, ?_, ?_⟩
  · rcases hh (k * 3) with h4 | h4
    · rw [h1] at h4; simpa [lt] using h4.symm
    · rw [h1] at h4; cases h4
  · rcases hh (k * 3 + 1) with h4 | h4
    · rw [h2] at h4; simpa [lt] using h4.symm
    · rw [h2] at h4; cases h4
  · rcases hh (k * 3 + 2) with h4 | h4
    · rw [h3] at h4; simpa [lt] using h4.symm
    · rw [h3] at h4; cases h4
theorem snap_i {H : AHeap} {o n : Nat} {t : TypeId} {xs : List Int} (h : H[o]? = some (some ⟨t, xs.map lint⟩)) (hn : n = xs.length) : Snap H (.osl o 0 n 1) (.iv (iInts xs)) := by
  subst hn
  exact .iv _ _ (SnapC.lits (fun j => .int .i64 (xs.getD j 0)) h fun j hj => by rw [Nat.zero_add]; exact lint_at hj)
theorem snap_i0 {H : AHeap} : Snap H (lt (.slice none 0 0)) (.iv (iInts [])) := .iv _ _ (.nil _ _)
structure TokOK (T : List Tok3) : Prop where
  len : T.length ≤ 1000000
  txt : ∀ j, (T.getD j tok0).2.2.length ≤ 1000000
  pos : ∀ j, 0 ≤ (T.getD j tok0).2.1 ∧ (T.getD j tok0).2.1 ≤ 1000000000
theorem TokOK.drop {T : List Tok3} (h : TokOK T) (k : Nat) : TokOK (T.drop k) :=
  ⟨by rw [List.length_drop]; have := h.len; omega, fun j => by rw [dropG]; exact h.txt _, fun j => by rw [dropG]; exact h.pos _⟩
end Go.Proofs.YtghdacijcnmhlaaDoor
namespace Go.Proofs.YtghdacijcnmhlaaDoor
open Go.RowKit Go.Lib
set_option linter.unusedVariables false
set_option linter.unusedSimpArgs false
end Go.Proofs.YtghdacijcnmhlaaDoor
namespace Go.Proofs.YtghdacijcnmhlaaDoor
open Go.RowKit Go.Lib
set_option linter.unusedSimpArgs false
theorem allT_cons (r : Nat × Nat × List (Nat × List UInt8)) (rs : List (Nat × Nat × List (Nat × List UInt8))) : allT (r :: rs) = (r.2.2.map fun t => ((r.1 : Int), (r.2.1 : Int) + t.1, t.2)) ++ allT rs := rfl
structure WordB (w : List UInt8) : Prop where
  ne : w ≠ []
  ok : ∀ b ∈ w, isSp b = false ∧ b ≠ 10 ∧ b ≠ 99
theorem tw_all {r : List UInt8} (h : ∀ b ∈ r, isSp b = false) (rest : List UInt8) : (r ++ 32 :: rest).takeWhile noSp = r ∧ (r ++ 32 :: rest).dropWhile noSp = 32 :: rest := by
  induction r with
  | nil => exact ⟨rfl, rfl⟩
  | cons b r ih =>
    have hb : noSp b = true := by unfold noSp; rw [h b (by simp)]; rfl
    obtain ⟨h1, h2⟩ := ih fun c hc => h c (by simp [hc])
    simp only [List.cons_append, List.takeWhile_cons, List.dropWhile_cons, hb, if_true, h1, h2]
    exact ⟨trivial, trivial⟩
theorem tw_all0 {r : List UInt8} (h : ∀ b ∈ r, isSp b = false) : r.takeWhile noSp = r ∧ r.dropWhile noSp = [] := by
  induction r with
  | nil => exact ⟨rfl, rfl⟩
  | cons b r ih =>
    have hb : noSp b = true := by unfold noSp; rw [h b (by simp)]; rfl
    obtain ⟨h1, h2⟩ := ih fun c hc => h c (by simp [hc])
    simp only [List.takeWhile_cons, List.dropWhile_cons, hb, if_true, h1, h2]
    exact ⟨trivial, trivial⟩
theorem tk_wsp (k : Nat) {w : List UInt8} (hne : w ≠ []) (hw : ∀ b ∈ w, isSp b = false) (rest : List UInt8) : ∃ k2, tk k (w ++ 32 :: rest) = (k, w) :: tk k2 rest := by
  cases w with
  | nil => exact absurd rfl hne
  | cons c r =>
    obtain ⟨h1, h2⟩ := tw_all (r := r) (fun b hb => hw b (by simp [hb])) rest
    rw [List.cons_append, tk_word (hw c (by simp)), h1, h2, tk_sp (by decide)]
    exact ⟨_, rfl⟩
theorem tk_wend (k : Nat) {w : List UInt8} (hne : w ≠ []) (hw : ∀ b ∈ w, isSp b = false) : tk k w = [(k, w)] := by
  cases w with
  | nil => exact absurd rfl hne
  | cons c r =>
    obtain ⟨h1, h2⟩ := tw_all0 (r := r) (fun b hb => hw b (by simp [hb]))
    rw [tk_word (hw c (by simp)), h1, h2, tk_nil]
theorem dg_ok {b : UInt8} (h : isDg b = true ∨ b = 45) : isSp b = false ∧ b ≠ 10 ∧ b ≠ 99 := by
  rcases h with h | rfl
  · have h1 : 48 ≤ b.toNat ∧ b.toNat ≤ 57 := of_decide_eq_true h
    have hne : ∀ c : UInt8, c.toNat < 48 ∨ 57 < c.toNat → b ≠ c := fun c hc e => by subst e; omega
    refine ⟨?_, hne 10 (.inl (by decide)), hne 99 (.inr (by decide))⟩
    have a1 := hne 32 (.inl (by decide)); have a2 := hne 9 (.inl (by decide)); have a3 := hne 13 (.inl (by decide))
    unfold isSp
    rw [beq_eq_false_iff_ne.2 a1, beq_eq_false_iff_ne.2 a2, beq_eq_false_iff_ne.2 a3]; rfl
  · decide
theorem numOk_word {l : List UInt8} (h : numOk l = true) : WordB l := by
  simp only [numOk, Bool.and_eq_true, Bool.not_eq_true', List.isEmpty_eq_false_iff] at h
  obtain ⟨⟨⟨h1, h2⟩, h3⟩, h4⟩ := h
  rw [List.all_eq_true] at h4
  cases l with
  | nil => exact absurd rfl h1
  | cons c r =>
    refine ⟨by simp, fun b hb => dg_ok ?_⟩
    by_cases hc : c = 45
    · subst hc
      rw [magOf_minus] at h4
      rcases List.mem_cons.1 hb with rfl | hb
      · exact .inr rfl
      · exact .inl (h4 b hb)
    · rw [magOf_plain hc] at h4
      exact .inl (h4 b hb)
theorem itoa_word (x : Int) : WordB (itoa x) := numOk_word (itoa_num x).1
theorem not_remark {b : UInt8} {r : List UInt8} (h : b ≠ 99) : remark (b :: r) = false := by
  unfold remark
  have h1 : ((b :: r) == [99]) = false := by simp [h]
  have h2 : [99, 32].isPrefixOf (b :: r) = false := by simp [List.isPrefixOf, Ne.symm h]
  rw [h1, h2]; rfl
theorem line_tk {m : List UInt8} (h : ∃ b r, m = b :: r ∧ b ≠ 99) : lineTk m = tk 0 m := by
  obtain ⟨b, r, rfl, h⟩ := h
  unfold lineTk; rw [not_remark h]; rfl
theorem lnl_at {m : List UInt8} (h : ∀ b ∈ m, b ≠ 10) (rest : List UInt8) : lnLen (m ++ 10 :: rest) = m.length := by
  unfold lnLen
  congr 1
  induction m with
  | nil => rfl
  | cons b m ih =>
    have hb : noNl b = true := by unfold noNl; simp [h b (by simp)]
    rw [List.cons_append, List.takeWhile_cons, if_pos hb, ih fun c hc => h c (by simp [hc])]
theorem lns_line (ln k : Nat) {m : List UInt8} (h : ∀ b ∈ m, b ≠ 10) (rest : List UInt8) : lns ln k (m ++ 10 :: rest) = (ln, k, lineTk m) :: lns (ln + 1) (k + (m.length + 1)) rest := by
  have hl := lnl_at h rest
  obtain ⟨c, r, e⟩ : ∃ c r, m ++ 10 :: rest = c :: r := by cases m with | nil => exact ⟨_, _, rfl⟩ | cons c m => exact ⟨_, _, rfl⟩
  have ht : (m ++ 10 :: rest).take m.length = m := List.take_left
  have hd : (m ++ 10 :: rest).drop (m.length + 1) = rest := by rw [List.drop_append]; simp
  rw [e] at hl ht hd ⊢
  rw [lns, hl, ht, hd]
theorem numR_itoa {x lo hi : Int} (h : lo ≤ x ∧ x ≤ hi) (hf : -9223372036854775808 ≤ x ∧ x ≤ 9223372036854775807) : numR (itoa x) lo hi = (x, 0) := by
  obtain ⟨h1, h2⟩ := itoa_num x
  unfold numR
  rw [h1, h2, if_neg (by simp), if_pos ⟨hf.1, hf.2, h.1, h.2⟩]
def ChainT (n : Nat) : Nat → List Tok3 → Prop
  | _, [] => True
  | e, t :: ts => ∃ p : Nat, t.2.1 = (p : Int) ∧ e ≤ p ∧ 0 < t.2.2.length ∧ p + t.2.2.length ≤ n ∧ ChainT n (p + t.2.2.length) ts
theorem ChainT.le {n e e' : Nat} {T : List Tok3} (h : ChainT n e T) (he : e' ≤ e) : ChainT n e' T := by
  cases T with
  | nil => trivial
  | cons t ts => obtain ⟨p, h1, h2, h3⟩ := h; exact ⟨p, h1, by omega, h3⟩
theorem chain_row {l : List UInt8} {i st n : Nat} (hL : LineIn l i st n) (ln : Int) {rest : List Tok3} (hr : ChainT l.length (st + n) rest) : ∀ (ts : List (Nat × List UInt8)) (p : Nat), p ≤ n → TkOK ((l.drop st).take n) p ts → ChainT l.length (st + p) ((ts.map fun t => (ln, (st : Int) + t.1, t.2)) ++ rest)
  | [], p, hp, _ => hr.le (by omega)
  | t :: ts, p, hp, h => by
    obtain ⟨h1, h2, h3⟩ := h
    have hf := h2.fit
    have hm : ((l.drop st).take n).length ≤ n := by rw [List.length_take]; omega
    have := hL.fit
    refine ⟨st + t.1, by push_cast; rfl, by omega, h2.pos, by dsimp only; omega, ?_⟩
    have ih := chain_row hL ln hr ts (t.1 + t.2.length) (by omega) h3
    rw [Nat.add_assoc]; exact ih
theorem chain_rows {l : List UInt8} : ∀ (rs : List (Nat × Nat × List (Nat × List UInt8))) (i e : Nat), RowsOK l i e rs → ChainT l.length e (allT rs)
  | [], i, e, _ => trivial
  | r :: rs, i, e, h => by
    obtain ⟨h1, h2, n, h3, h4, h5⟩ := h
    have ih := chain_rows rs (i + 1) (r.2.1 + n) h5
    have := chain_row h3 r.1 ih r.2.2 0 (Nat.zero_le _) h4
    rw [allT_cons]
    exact ChainT.le this (by omega)
theorem ChainT.get {n : Nat} : ∀ {T : List Tok3} {e j : Nat}, ChainT n e T → j < T.length → ∃ p : Nat, (T.getD j tok0).2.1 = (p : Int) ∧ e ≤ p ∧ 0 < (T.getD j tok0).2.2.length ∧ p + (T.getD j tok0).2.2.length ≤ n
  | [], e, j, _, hj => by simp at hj
  | t :: ts, e, 0, ⟨p, h1, h2, h3, h4, h5⟩, _ => ⟨p, h1, h2, h3, h4⟩
  | t :: ts, e, j + 1, ⟨p, h1, h2, h3, h4, h5⟩, hj => by
    obtain ⟨q, g1, g2, g3⟩ := h5.get (j := j) (by simpa using hj)
    exact ⟨q, g1, by omega, g3⟩
theorem ChainT.lt {n : Nat} : ∀ {T : List Tok3} {e i j : Nat}, ChainT n e T → i < j → j < T.length → (T.getD i tok0).2.1 < (T.getD j tok0).2.1
  | [], e, i, j, _, _, hj => by simp at hj
  | t :: ts, e, 0, j + 1, ⟨p, h1, h2, h3, h4, h5⟩, _, hj => by
    obtain ⟨q, g1, g2, g3⟩ := h5.get (j := j) (by simpa using hj)
    show t.2.1 < (ts.getD j tok0).2.1
    rw [h1, g1]; omega
  | t :: ts, e, i + 1, j + 1, ⟨p, h1, h2, h3, h4, h5⟩, hij, hj => h5.lt (i := i) (j := j) (by omega) (by simpa using hj)
end Go.Proofs.YtghdacijcnmhlaaDoor
namespace Go.Proofs.YtghdacijcnmhlaaDoor
open Go.RowKit Go.Lib
set_option linter.unusedVariables false
set_option linter.unusedSimpArgs false
def lnsT (l : List UInt8) : List (List Tok3) := (lns 1 0 l).map rowT
theorem pf_LinesT (l : List UInt8) (hl : l.length ≤ 1000000) : PF Tryd.prog 21 [lt (.string (ba l))] fun r H' => r = .iv (iLs (lnsT l)) ∧ H' = [] := by
  have h := pf_Lines l hl
  rwa [iLn_ls] at h
theorem pf_rLinesT (l : List UInt8) (hl : l.length ≤ 1000000) : PF Tryd.prog 24 [lt (.string (ba l))] fun r H' => r = .iv (iLs (lnsT l)) ∧ H' = [] := by
  have h := pf_rLines l hl
  rwa [iLn_ls] at h
structure LsOK (L : List (List Tok3)) : Prop where
  len : L.length ≤ 100000
  tok : ∀ T ∈ L, TokOK T
theorem TokOK.nil : TokOK [] := ⟨by simp, fun j => by simp [tok0], fun j => by simp [tok0]⟩
theorem LsOK.get {L : List (List Tok3)} (h : LsOK L) (i : Nat) : TokOK (L.getD i []) := by
  by_cases hi : i < L.length
  · rw [List.getD_eq_getElem?_getD, List.getElem?_eq_getElem hi]; exact h.tok _ (List.getElem_mem hi)
  · rw [List.getD_eq_getElem?_getD, List.getElem?_eq_none (by omega)]; exact TokOK.nil
theorem LsOK.drop {L : List (List Tok3)} (h : LsOK L) (k : Nat) : LsOK (L.drop k) := ⟨by rw [List.length_drop]; have := h.len; omega, fun T hT => h.tok T (List.mem_of_mem_drop hT)⟩
theorem LsOK.nil : LsOK [] := ⟨by simp, by simp⟩
end Go.Proofs.YtghdacijcnmhlaaDoor
