import Derived.Lib.Bytealg
namespace Go.Proofs.YthfjnlapelkbnaaDoor
set_option linter.unusedSimpArgs false
def isSp (b : UInt8) : Bool := b == 32 || b == 9 || b == 13
def noSp (b : UInt8) : Bool := !isSp b
def tk (k : Nat) (l : List UInt8) : List (Nat × List UInt8) :=
  match l with
  | [] => []
  | c :: r => if isSp c then tk (k + 1) r else (k, c :: r.takeWhile noSp) :: tk (k + 1 + (r.takeWhile noSp).length) (r.dropWhile noSp)
termination_by l.length
decreasing_by
  · simp
  · have := (List.dropWhile_sublist noSp (l := r)).length_le; simp; omega
theorem tk_nil (k : Nat) : tk k [] = [] := by rw [tk]
theorem tk_sp {k : Nat} {c : UInt8} {r : List UInt8} (h : isSp c = true) : tk k (c :: r) = tk (k + 1) r := by rw [tk, if_pos h]
theorem tk_word {k : Nat} {c : UInt8} {r : List UInt8} (h : isSp c = false) : tk k (c :: r) = (k, c :: r.takeWhile noSp) :: tk (k + 1 + (r.takeWhile noSp).length) (r.dropWhile noSp) := by
  rw [tk, if_neg (by simp [h])]
theorem while_take {p : UInt8 → Bool} : ∀ {xs : List UInt8} {n : Nat}, (xs.take n).all p = true → (∀ c, xs[n]? = some c → p c = false) → xs.takeWhile p = xs.take n ∧ xs.dropWhile p = xs.drop n
  | [], n, _, _ => by simp
  | c :: r, 0, _, h2 => by have := h2 c rfl; simp [List.takeWhile_cons, List.dropWhile_cons, this]
  | c :: r, n + 1, h1, h2 => by
    simp only [List.take_succ_cons, List.all_cons, Bool.and_eq_true] at h1
    obtain ⟨k1, k2⟩ := while_take (n := n) h1.2 (fun d hd => h2 d (by simpa using hd))
    simp [List.takeWhile_cons, List.dropWhile_cons, h1.1, k1, k2]
theorem drop_at {l : List UInt8} {k : Nat} (h : k < l.length) : l.drop k = l.getD k 0 :: l.drop (k + 1) := by
  rw [List.drop_eq_getElem_cons h]; simp [List.getD, h]
theorem tk_at_sp {l : List UInt8} {k : Nat} (h : k < l.length) (hs : isSp (l.getD k 0) = true) : tk k (l.drop k) = tk (k + 1) (l.drop (k + 1)) := by rw [drop_at h, tk_sp hs]
theorem tk_at_word {l : List UInt8} {k n : Nat} (hk : k < n) (hn : n ≤ l.length) (hw : ∀ j, k ≤ j → j < n → isSp (l.getD j 0) = false) (he : n < l.length → isSp (l.getD n 0) = true) : tk k (l.drop k) = (k, (l.drop k).take (n - k)) :: tk n (l.drop n) := by
  have h0 : k < l.length := by omega
  rw [drop_at h0, tk_word (hw k (Nat.le_refl _) hk)]
  have h1 : ((l.drop (k + 1)).take (n - k - 1)).all noSp = true := by
    rw [List.all_eq_true]
    intro x hx
    obtain ⟨j, hj, rfl⟩ := List.mem_iff_getElem.1 hx
    have hj' : j < n - k - 1 := by simp at hj; omega
    have := hw (k + 1 + j) (by omega) (by omega)
    rw [List.getElem_take, List.getElem_drop]
    have e : l.getD (k + 1 + j) 0 = l[k + 1 + j]'(by omega) := by simp [List.getD, show k + 1 + j < l.length by omega]
    rw [e] at this
    simp [noSp, this]
  have h2 : ∀ c, (l.drop (k + 1))[n - k - 1]? = some c → noSp c = false := fun c hc => by
    rw [List.getElem?_drop, show k + 1 + (n - k - 1) = n by omega] at hc
    obtain ⟨h3, h4⟩ := List.getElem?_eq_some_iff.1 hc
    have := he h3
    have e : l.getD n 0 = l[n] := by simp [List.getD, h3]
    rw [e, h4] at this
    simp [noSp, this]
  obtain ⟨e1, e2⟩ := while_take h1 h2
  have h3 : ((l.drop (k + 1)).take (n - k - 1)).length = n - k - 1 := by simp; omega
  rw [e1, e2, h3, List.drop_drop, show k + 1 + (n - k - 1) = n by omega]
  congr 2
  rw [show n - k = (n - k - 1) + 1 by omega, List.take_succ_cons]; rfl
def remark (l : List UInt8) : Bool := l == [99] || [99, 32].isPrefixOf l
def lineTk (l : List UInt8) : List (Nat × List UInt8) := if remark l then [] else tk 0 l
end Go.Proofs.YthfjnlapelkbnaaDoor
namespace Go.Proofs.YthfjnlapelkbnaaDoor
set_option linter.unusedSimpArgs false
open Go.Lib
def noNl (b : UInt8) : Bool := !(b == 10)
def lnLen (l : List UInt8) : Nat := (l.takeWhile noNl).length
theorem lnLen_le (l : List UInt8) : lnLen l ≤ l.length := (List.takeWhile_sublist noNl (l := l)).length_le
theorem lnLen_ix : ∀ l : List UInt8, (indexByte l 10 = -1 ∧ lnLen l = l.length) ∨ (indexByte l 10 = (lnLen l : Int) ∧ lnLen l < l.length)
  | [] => .inl ⟨rfl, rfl⟩
  | b :: l => by
    have ih := lnLen_ix l
    by_cases h : b = 10
    · subst h
      exact .inr ⟨rfl, by show 0 < _; simp⟩
    · have e1 : (b == 10) = false := by simpa using h
      have e2 : lnLen (b :: l) = lnLen l + 1 := by unfold lnLen; rw [List.takeWhile_cons, if_pos (by simp [noNl, e1])]; rfl
      have e3 : indexByte (b :: l) 10 = if indexByte l 10 == -1 then -1 else indexByte l 10 + 1 := by rw [indexByte, e1]; rfl
      rw [e2, e3]
      rcases ih with ⟨h1, h2⟩ | ⟨h1, h2⟩
      · left; rw [h1]; exact ⟨rfl, by rw [h2, List.length_cons]⟩
      · right
        have e4 : (indexByte l 10 == -1) = false := by rw [h1]; simp
        rw [e4, h1]
        refine ⟨by simp, ?_⟩
        rw [List.length_cons]; omega
def lns (ln k : Nat) (l : List UInt8) : List (Nat × Nat × List (Nat × List UInt8)) :=
  match l with
  | [] => []
  | c :: r => (ln, k, lineTk ((c :: r).take (lnLen (c :: r)))) :: lns (ln + 1) (k + (lnLen (c :: r) + 1)) ((c :: r).drop (lnLen (c :: r) + 1))
termination_by l.length
decreasing_by simp; omega
theorem lns_nil (ln k : Nat) : lns ln k [] = [] := by rw [lns]
theorem lns_at {ln k : Nat} {l : List UInt8} (h : k < l.length) : lns ln k (l.drop k) = (ln, k, lineTk ((l.drop k).take (lnLen (l.drop k)))) :: lns (ln + 1) (k + (lnLen (l.drop k) + 1)) (l.drop (k + (lnLen (l.drop k) + 1))) := by
  obtain ⟨c, r, e⟩ : ∃ c r, l.drop k = c :: r := ⟨_, _, drop_at h⟩
  have e2 : l.drop (k + (lnLen (l.drop k) + 1)) = (l.drop k).drop (lnLen (l.drop k) + 1) := by rw [List.drop_drop]
  rw [e2, e, lns]
end Go.Proofs.YthfjnlapelkbnaaDoor
namespace Go.Proofs.YthfjnlapelkbnaaDoor
set_option linter.unusedSimpArgs false
def rowB : List (Nat × List UInt8) → List UInt8
  | [] => []
  | t :: ts => t.2 ++ ts.flatMap fun x => 32 :: x.2
def joinB (rs : List (Nat × Nat × List (Nat × List UInt8))) : List UInt8 := rs.flatMap fun r => rowB r.2.2 ++ [10]
theorem rowB_snoc (ts : List (Nat × List UInt8)) (x : Nat × List UInt8) : rowB (ts ++ [x]) = rowB ts ++ ((if ts.length = 0 then [] else [32]) ++ x.2) := by
  cases ts with
  | nil => simp [rowB]
  | cons t ts => simp [rowB, List.flatMap_append]
theorem take_snoc {α : Type} {xs : List α} {k : Nat} (d : α) (h : k < xs.length) : xs.take (k + 1) = xs.take k ++ [xs.getD k d] := by
  rw [List.take_add_one, List.getElem?_eq_getElem h, List.getD_eq_getElem?_getD, List.getElem?_eq_getElem h]; rfl
theorem rowB_step {ts : List (Nat × List UInt8)} {k : Nat} (h : k < ts.length) : rowB (ts.take (k + 1)) = rowB (ts.take k) ++ ((if k = 0 then [] else [32]) ++ (ts.getD k (0, [])).2) := by
  rw [take_snoc (0, []) h, rowB_snoc, List.length_take, Nat.min_eq_left (by omega)]
theorem joinB_step {rs : List (Nat × Nat × List (Nat × List UInt8))} {k : Nat} (h : k < rs.length) : joinB (rs.take (k + 1)) = joinB (rs.take k) ++ (rowB (rs.getD k (0, 0, [])).2.2 ++ [10]) := by
  rw [take_snoc (0, 0, []) h]; unfold joinB; rw [List.flatMap_append]; simp
theorem rowB_pre (ts : List (Nat × List UInt8)) (k : Nat) : (rowB (ts.take k)).length ≤ (rowB ts).length := by
  induction k with
  | zero => rw [List.take_zero]; exact Nat.zero_le _
  | succ k ih =>
    rcases Nat.lt_or_ge k ts.length with h | h
    · have e : ts = ts.take (k + 1) ++ ts.drop (k + 1) := (List.take_append_drop _ _).symm
      generalize hA : ts.take (k + 1) = A at *
      generalize ts.drop (k + 1) = B at *
      subst e
      cases A with
      | nil => exact Nat.zero_le _
      | cons a A => simp only [List.cons_append, rowB, List.flatMap_append, List.length_append]; omega
    · rw [List.take_of_length_le (by omega)]; exact Nat.le_refl _
theorem joinB_pre (rs : List (Nat × Nat × List (Nat × List UInt8))) (k : Nat) : (joinB (rs.take k)).length ≤ (joinB rs).length := by
  have e : joinB rs = joinB (rs.take k) ++ joinB (rs.drop k) := by unfold joinB; rw [← List.flatMap_append, List.take_append_drop]
  rw [e, List.length_append]; omega
theorem joinB_le {rs : List (Nat × Nat × List (Nat × List UInt8))} {k : Nat} (h : k < rs.length) : (joinB (rs.take k)).length + ((rowB (rs.getD k (0, 0, [])).2.2).length + 1) ≤ (joinB rs).length := by
  have := joinB_pre rs (k + 1)
  rw [joinB_step h, List.length_append, List.length_append] at this
  exact this
theorem rowB_le {ts : List (Nat × List UInt8)} {k : Nat} (h : k < ts.length) : (rowB (ts.take k)).length + ((if k = 0 then 0 else 1) + (ts.getD k (0, [])).2.length) ≤ (rowB ts).length := by
  have := rowB_pre ts (k + 1)
  rw [rowB_step h, List.length_append, List.length_append] at this
  by_cases hk : k = 0
  · rw [if_pos hk] at this ⊢; simpa using this
  · rw [if_neg hk] at this ⊢; simpa using this
theorem joinB_ne {rs : List (Nat × Nat × List (Nat × List UInt8))} (h : rs ≠ []) : joinB rs ≠ [] := by
  cases rs with
  | nil => exact absurd rfl h
  | cons r rs => unfold joinB; simp
end Go.Proofs.YthfjnlapelkbnaaDoor
