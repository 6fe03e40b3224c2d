import Derived.Lib.Bytealg
namespace Go.Proofs.YtdaenbgjafalcaaDoor
set_option linter.unusedSimpArgs false
def isSp (b : UInt8) : Bool := b == 32 || b == 9 || b == 13
def noSp (b : UInt8) : Bool := !isSp b
def tk (k : Nat) (l : List UInt8) : List (Nat × List UInt8) :=
  match l with
  | [] => []
  | c :: r => if isSp c then tk (k + 1) r else (k, c :: r.takeWhile noSp) :: tk (k + 1 + (r.takeWhile noSp).length) (r.dropWhile noSp)
termination_by l.length
decreasing_by
  · simp
  · have := (List.dropWhile_sublist noSp (l := r)).length_le; simp; omega
theorem tk_nil (k : Nat) : tk k [] = [] := by rw [tk]
theorem tk_sp {k : Nat} {c : UInt8} {r : List UInt8} (h : isSp c = true) : tk k (c :: r) = tk (k + 1) r := by rw [tk, if_pos h]
theorem tk_word {k : Nat} {c : UInt8} {r : List UInt8} (h : isSp c = false) : tk k (c :: r) = (k, c :: r.takeWhile noSp) :: tk (k + 1 + (r.takeWhile noSp).length) (r.dropWhile noSp) := by
  rw [tk, if_neg (by simp [h])]
theorem while_take {p : UInt8 → Bool} : ∀ {xs : List UInt8} {n : Nat}, (xs.take n).all p = true → (∀ c, xs[n]? = some c → p c = false) → xs.takeWhile p = xs.take n ∧ xs.dropWhile p = xs.drop n
  | [], n, _, _ => by simp
  | c :: r, 0, _, h2 => by have := h2 c rfl; simp [List.takeWhile_cons, List.dropWhile_cons, this]
  | c :: r, n + 1, h1, h2 => by
    simp only [List.take_succ_cons, List.all_cons, Bool.and_eq_true] at h1
    obtain ⟨k1, k2⟩ := while_take (n := n) h1.2 (fun d hd => h2 d (by simpa using hd))
    simp [List.takeWhile_cons, List.dropWhile_cons, h1.1, k1, k2]
theorem drop_at {l : List UInt8} {k : Nat} (h : k < l.length) : l.drop k = l.getD k 0 :: l.drop (k + 1) := by
  rw [List.drop_eq_getElem_cons h]; simp [List.getD, h]
theorem tk_at_sp {l : List UInt8} {k : Nat} (h : k < l.length) (hs : isSp (l.getD k 0) = true) : tk k (l.drop k) = tk (k + 1) (l.drop (k + 1)) := by rw [drop_at h, tk_sp hs]
theorem tk_at_word {l : List UInt8} {k n : Nat} (hk : k < n) (hn : n ≤ l.length) (hw : ∀ j, k ≤ j → j < n → isSp (l.getD j 0) = false) (he : n < l.length → isSp (l.getD n 0) = true) : tk k (l.drop k) = (k, (l.drop k).take (n - k)) :: tk n (l.drop n) := by
  have h0 : k < l.length := by omega
  rw [drop_at h0, tk_word (hw k (Nat.le_refl _) hk)]
  have h1 : ((l.drop (k + 1)).take (n - k - 1)).all noSp = true := by
    rw [List.all_eq_true]
    intro x hx
    obtain ⟨j, hj, rfl⟩ := List.mem_iff_getElem.1 hx
    have hj' : j < n - k - 1 := by simp at hj; omega
    have := hw (k + 1 + j) (by omega) (by omega)
    rw [List.getElem_take, List.getElem_drop]
    have e : l.getD (k + 1 + j) 0 = l[k + 1 + j]'(by omega) := by simp [List.getD, show k + 1 + j < l.length by omega]
    rw [e] at this
    simp [noSp, this]
  have h2 : ∀ c, (l.drop (k + 1))[n - k - 1]? = some c → noSp c = false := fun c hc => by
    rw [List.getElem?_drop, show k + 1 + (n - k - 1) = n by omega] at hc
    obtain ⟨h3, h4⟩ := List.getElem?_eq_some_iff.1 hc
    have := he h3
    have e : l.getD n 0 = l[n] := by simp [List.getD, h3]
    rw [e, h4] at this
    simp [noSp, this]
  obtain ⟨e1, e2⟩ := while_take h1 h2
  have h3 : ((l.drop (k + 1)).take (n - k - 1)).length = n - k - 1 := by simp; omega
  rw [e1, e2, h3, List.drop_drop, show k + 1 + (n - k - 1) = n by omega]
  congr 2
  rw [show n - k = (n - k - 1) + 1 by omega, List.take_succ_cons]; rfl
def remark (l : List UInt8) : Bool := l == [99] || [99, 32].isPrefixOf l
def lineTk (l : List UInt8) : List (Nat × List UInt8) := if remark l then [] else tk 0 l
end Go.Proofs.YtdaenbgjafalcaaDoor
namespace Go.Proofs.YtdaenbgjafalcaaDoor
set_option linter.unusedSimpArgs false
open Go.Lib
def noNl (b : UInt8) : Bool := !(b == 10)
def lnLen (l : List UInt8) : Nat := (l.takeWhile noNl).length
theorem lnLen_le (l : List UInt8) : lnLen l ≤ l.length := (List.takeWhile_sublist noNl (l := l)).length_le
theorem lnLen_ix : ∀ l : List UInt8, (indexByte l 10 = -1 ∧ lnLen l = l.length) ∨ (indexByte l 10 = (lnLen l : Int) ∧ lnLen l < l.length)
  | [] => .inl ⟨rfl, rfl⟩
  | b :: l => by
    have ih := lnLen_ix l
    by_cases h : b = 10
    · subst h
      exact .inr ⟨rfl, by show 0 < _; simp⟩
    · have e1 : (b == 10) = false := by simpa using h
      have e2 : lnLen (b :: l) = lnLen l + 1 := by unfold lnLen; rw [List.takeWhile_cons, if_pos (by simp [noNl, e1])]; rfl
      have e3 : indexByte (b :: l) 10 = if indexByte l 10 == -1 then -1 else indexByte l 10 + 1 := by rw [indexByte, e1]; rfl
      rw [e2, e3]
      rcases ih with ⟨h1, h2⟩ | ⟨h1, h2⟩
      · left; rw [h1]; exact ⟨rfl, by rw [h2, List.length_cons]⟩
      · right
        have e4 : (indexByte l 10 == -1) = false := by rw [h1]; simp
        rw [e4, h1]
        refine ⟨by simp, ?_⟩
        rw [List.length_cons]; omega
def lns (ln k : Nat) (l : List UInt8) : List (Nat × Nat × List (Nat × List UInt8)) :=
  match l with
  | [] => []
  | c :: r => (ln, k, lineTk ((c :: r).take (lnLen (c :: r)))) :: lns (ln + 1) (k + (lnLen (c :: r) + 1)) ((c :: r).drop (lnLen (c :: r) + 1))
termination_by l.length
decreasing_by simp; omega
theorem lns_nil (ln k : Nat) : lns ln k [] = [] := by rw [lns]
theorem lns_at {ln k : Nat} {l : List UInt8} (h : k < l.length) : lns ln k (l.drop k) = (ln, k, lineTk ((l.drop k).take (lnLen (l.drop k)))) :: lns (ln + 1) (k + (lnLen (l.drop k) + 1)) (l.drop (k + (lnLen (l.drop k) + 1))) := by
  obtain ⟨c, r, e⟩ : ∃ c r, l.drop k = c :: r := ⟨_, _, drop_at h⟩
  have e2 : l.drop (k + (lnLen (l.drop k) + 1)) = (l.drop k).drop (lnLen (l.drop k) + 1) := by rw [List.drop_drop]
  rw [e2, e, lns]
end Go.Proofs.YtdaenbgjafalcaaDoor
namespace Go.Proofs.YtdaenbgjafalcaaDoor
set_option linter.unusedSimpArgs false
open Go.Lib
theorem lnLen_in : ∀ {m : List UInt8} {j : Nat}, j < lnLen m → m.getD j 0 ≠ 10
  | [], j, h => by simp [lnLen] at h
  | b :: m, j, h => by
    unfold lnLen at h
    rw [List.takeWhile_cons] at h
    by_cases hb : noNl b = true
    · rw [if_pos hb] at h
      cases j with
      | zero => simp [noNl] at hb; simpa using hb
      | succ j => rw [List.getD_cons_succ]; exact lnLen_in (by unfold lnLen; simpa using h)
    · rw [if_neg hb] at h; simp at h
theorem lnLen_at : ∀ {m : List UInt8}, lnLen m < m.length → m.getD (lnLen m) 0 = 10
  | [], h => by simp at h
  | b :: m, h => by
    have e : lnLen (b :: m) = if noNl b = true then lnLen m + 1 else 0 := by unfold lnLen; rw [List.takeWhile_cons]; split <;> rfl
    rw [e] at h ⊢
    by_cases hb : noNl b = true
    · rw [if_pos hb] at h ⊢
      rw [List.getD_cons_succ]; exact lnLen_at (by simpa using h)
    · rw [if_neg hb]
      simp [noNl] at hb; simpa using hb
theorem dropD (l : List UInt8) (k p : Nat) : (l.drop k).getD p 0 = l.getD (k + p) 0 := by simp [List.getD]
end Go.Proofs.YtdaenbgjafalcaaDoor
