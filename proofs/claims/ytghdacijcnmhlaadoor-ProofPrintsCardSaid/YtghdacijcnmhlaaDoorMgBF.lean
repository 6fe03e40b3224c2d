import Derived.Test.YtghdacijcnmhlaaDoorMgBC
import Derived.Test.YtghdacijcnmhlaaDoorMgBD
import Derived.Test.YtghdacijcnmhlaaDoorMgBE
import Derived.Test.YtghdacijcnmhlaaDoorMgBA
import Derived.Test.YtghdacijcnmhlaaDoorMgAN
import Derived.Test.YtghdacijcnmhlaaDoorMgAO
import Derived.Test.YtghdacijcnmhlaaDoorMgAZ
import Derived.Test.YtghdacijcnmhlaaDoorMgBB
namespace Go.Proofs.YtghdacijcnmhlaaDoor
open Go.RowKit Go.Lib
set_option linter.unusedVariables false
set_option linter.unusedSimpArgs false
theorem tokL_atL {T : List Tok3} : ∀ {k : Nat}, k < T.length → (tokL T).getD (k * 3) undef = .int .i64 (T.getD k tok0).1 ∧ (tokL T).getD (k * 3 + 1) undef = .int .i64 (T.getD k tok0).2.1 ∧ (tokL T).getD (k * 3 + 2) undef = .string (ba (T.getD k tok0).2.2) := by
  intro k h
  have hh : ∀ j, (tokC T)[j]? = some (lt ((tokL T).getD j undef)) ∨ (tokC T)[j]? = none := fun j => by
    unfold tokC
    rw [List.getElem?_map, List.getD_eq_getElem?_getD]
    cases (tokL T)[j]? <;> simp
  obtain ⟨h1, h2, h3⟩ := tokC_at h
  refine ⟨?_, ?_, ?_⟩
  · rcases hh (k * 3) with h4 | h4
    · rw [h1] at h4; simpa [lt] using h4.symm
    · rw [h1] at h4; cases h4
  · rcases hh (k * 3 + 1) with h4 | h4
    · rw [h2] at h4; simpa [lt] using h4.symm
    · rw [h2] at h4; cases h4
  · rcases hh (k * 3 + 2) with h4 | h4
    · rw [h3] at h4; simpa [lt] using h4.symm
    · rw [h3] at h4; cases h4
theorem snap_i {H : AHeap} {o n : Nat} {t : TypeId} {xs : List Int} (h : H[o]? = some (some ⟨t, xs.map lint⟩)) (hn : n = xs.length) : Snap H (.osl o 0 n 1) (.iv (iInts xs)) := by
  subst hn
  exact .iv _ _ (SnapC.lits (fun j => .int .i64 (xs.getD j 0)) h fun j hj => by rw [Nat.zero_add]; exact lint_at hj)
structure TokOK (T : List Tok3) : Prop where
  len : T.length ≤ 1000000
  txt : ∀ j, (T.getD j tok0).2.2.length ≤ 1000000
  pos : ∀ j, 0 ≤ (T.getD j tok0).2.1 ∧ (T.getD j tok0).2.1 ≤ 1000000000
theorem TokOK.drop {T : List Tok3} (h : TokOK T) (k : Nat) : TokOK (T.drop k) :=
  ⟨by rw [List.length_drop]; have := h.len; omega, fun j => by rw [dropG]; exact h.txt _, fun j => by rw [dropG]; exact h.pos _⟩
end Go.Proofs.YtghdacijcnmhlaaDoor
namespace Go.Proofs.YtghdacijcnmhlaaDoor
open Go.RowKit Go.Lib
set_option linter.unusedVariables false
set_option linter.unusedSimpArgs false
end Go.Proofs.YtghdacijcnmhlaaDoor
namespace Go.Proofs.YtghdacijcnmhlaaDoor
open Go.RowKit Go.Lib
set_option linter.unusedSimpArgs false
theorem allT_cons (r : Nat × Nat × List (Nat × List UInt8)) (rs : List (Nat × Nat × List (Nat × List UInt8))) : allT (r :: rs) = (r.2.2.map fun t => ((r.1 : Int), (r.2.1 : Int) + t.1, t.2)) ++ allT rs := rfl
structure WordB (w : List UInt8) : Prop where
  ne : w ≠ []
  ok : ∀ b ∈ w, isSp b = false ∧ b ≠ 10 ∧ b ≠ 99
def ChainT (n : Nat) : Nat → List Tok3 → Prop
  | _, [] => True
  | e, t :: ts => ∃ p : Nat, t.2.1 = (p : Int) ∧ e ≤ p ∧ 0 < t.2.2.length ∧ p + t.2.2.length ≤ n ∧ ChainT n (p + t.2.2.length) ts
theorem ChainT.le {n e e' : Nat} {T : List Tok3} (h : ChainT n e T) (he : e' ≤ e) : ChainT n e' T := by
  cases T with
  | nil => trivial
  | cons t ts => obtain ⟨p, h1, h2, h3⟩ := h; exact ⟨p, h1, by omega, h3⟩
theorem chain_row {l : List UInt8} {i st n : Nat} (hL : LineIn l i st n) (ln : Int) {rest : List Tok3} (hr : ChainT l.length (st + n) rest) : ∀ (ts : List (Nat × List UInt8)) (p : Nat), p ≤ n → TkOK ((l.drop st).take n) p ts → ChainT l.length (st + p) ((ts.map fun t => (ln, (st : Int) + t.1, t.2)) ++ rest)
  | [], p, hp, _ => hr.le (by omega)
  | t :: ts, p, hp, h => by
    obtain ⟨h1, h2, h3⟩ := h
    have hf := h2.fit
    have hm : ((l.drop st).take n).length ≤ n := by rw [List.length_take]; omega
    have := hL.fit
    refine ⟨st + t.1, by push_cast; rfl, by omega, h2.pos, by dsimp only; omega, ?_⟩
    have ih := chain_row hL ln hr ts (t.1 + t.2.length) (by omega) h3
    rw [Nat.add_assoc]; exact ih
theorem chain_rows {l : List UInt8} : ∀ (rs : List (Nat × Nat × List (Nat × List UInt8))) (i e : Nat), RowsOK l i e rs → ChainT l.length e (allT rs)
  | [], i, e, _ => trivial
  | r :: rs, i, e, h => by
    obtain ⟨h1, h2, n, h3, h4, h5⟩ := h
    have ih := chain_rows rs (i + 1) (r.2.1 + n) h5
    have := chain_row h3 r.1 ih r.2.2 0 (Nat.zero_le _) h4
    rw [allT_cons]
    exact ChainT.le this (by omega)
theorem ChainT.get {n : Nat} : ∀ {T : List Tok3} {e j : Nat}, ChainT n e T → j < T.length → ∃ p : Nat, (T.getD j tok0).2.1 = (p : Int) ∧ e ≤ p ∧ 0 < (T.getD j tok0).2.2.length ∧ p + (T.getD j tok0).2.2.length ≤ n
  | [], e, j, _, hj => by simp at hj
  | t :: ts, e, 0, ⟨p, h1, h2, h3, h4, h5⟩, _ => ⟨p, h1, h2, h3, h4⟩
  | t :: ts, e, j + 1, ⟨p, h1, h2, h3, h4, h5⟩, hj => by
    obtain ⟨q, g1, g2, g3⟩ := h5.get (j := j) (by simpa using hj)
    exact ⟨q, g1, by omega, g3⟩
theorem ChainT.lt {n : Nat} : ∀ {T : List Tok3} {e i j : Nat}, ChainT n e T → i < j → j < T.length → (T.getD i tok0).2.1 < (T.getD j tok0).2.1
  | [], e, i, j, _, _, hj => by simp at hj
  | t :: ts, e, 0, j + 1, ⟨p, h1, h2, h3, h4, h5⟩, _, hj => by
    obtain ⟨q, g1, g2, g3⟩ := h5.get (j := j) (by simpa using hj)
    show t.2.1 < (ts.getD j tok0).2.1
    rw [h1, g1]; omega
  | t :: ts, e, i + 1, j + 1, ⟨p, h1, h2, h3, h4, h5⟩, hij, hj => h5.lt (i := i) (j := j) (by omega) (by simpa using hj)
end Go.Proofs.YtghdacijcnmhlaaDoor
namespace Go.Proofs.YtghdacijcnmhlaaDoor
open Go.RowKit Go.Lib
set_option linter.unusedVariables false
set_option linter.unusedSimpArgs false
def lnsT (l : List UInt8) : List (List Tok3) := (lns 1 0 l).map rowT
theorem pf_LinesT (l : List UInt8) (hl : l.length ≤ 1000000) : PF Tryd.prog 21 [lt (.string (ba l))] fun r H' => r = .iv (iLs (lnsT l)) ∧ H' = [] := by
  have h := pf_Lines l hl
  rwa [iLn_ls] at h
structure LsOK (L : List (List Tok3)) : Prop where
  len : L.length ≤ 100000
  tok : ∀ T ∈ L, TokOK T
theorem TokOK.nil : TokOK [] := ⟨by simp, fun j => by simp [tok0], fun j => by simp [tok0]⟩
theorem LsOK.get {L : List (List Tok3)} (h : LsOK L) (i : Nat) : TokOK (L.getD i []) := by
  by_cases hi : i < L.length
  · rw [List.getD_eq_getElem?_getD, List.getElem?_eq_getElem hi]; exact h.tok _ (List.getElem_mem hi)
  · rw [List.getD_eq_getElem?_getD, List.getElem?_eq_none (by omega)]; exact TokOK.nil
theorem LsOK.drop {L : List (List Tok3)} (h : LsOK L) (k : Nat) : LsOK (L.drop k) := ⟨by rw [List.length_drop]; have := h.len; omega, fun T hT => h.tok T (List.mem_of_mem_drop hT)⟩
theorem LsOK.nil : LsOK [] := ⟨by simp, by simp⟩
end Go.Proofs.YtghdacijcnmhlaaDoor
