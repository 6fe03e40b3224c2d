import Derived.Lib.Bytealg
import Derived.Lib.ItoaLen
namespace Go.Proofs.YthgmjboldboclaaDoor
set_option linter.unusedSimpArgs false
def isSp (b : UInt8) : Bool := b == 32 || b == 9 || b == 13
def noSp (b : UInt8) : Bool := !isSp b
def tk (k : Nat) (l : List UInt8) : List (Nat × List UInt8) :=
  match l with
  | [] => []
  | c :: r => if isSp c then tk (k + 1) r else (k, c :: r.takeWhile noSp) :: tk (k + 1 + (r.takeWhile noSp).length) (r.dropWhile noSp)
termination_by l.length
decreasing_by
  · simp
  · have := (List.dropWhile_sublist noSp (l := r)).length_le; simp; omega
theorem tk_nil (k : Nat) : tk k [] = [] := by rw [tk]
theorem tk_sp {k : Nat} {c : UInt8} {r : List UInt8} (h : isSp c = true) : tk k (c :: r) = tk (k + 1) r := by rw [tk, if_pos h]
theorem tk_word {k : Nat} {c : UInt8} {r : List UInt8} (h : isSp c = false) : tk k (c :: r) = (k, c :: r.takeWhile noSp) :: tk (k + 1 + (r.takeWhile noSp).length) (r.dropWhile noSp) := by
  rw [tk, if_neg (by simp [h])]
theorem while_take {p : UInt8 → Bool} : ∀ {xs : List UInt8} {n : Nat}, (xs.take n).all p = true → (∀ c, xs[n]? = some c → p c = false) → xs.takeWhile p = xs.take n ∧ xs.dropWhile p = xs.drop n
  | [], n, _, _ => by simp
  | c :: r, 0, _, h2 => by have := h2 c rfl; simp [List.takeWhile_cons, List.dropWhile_cons, this]
  | c :: r, n + 1, h1, h2 => by
    simp only [List.take_succ_cons, List.all_cons, Bool.and_eq_true] at h1
    obtain ⟨k1, k2⟩ := while_take (n := n) h1.2 (fun d hd => h2 d (by simpa using hd))
    simp [List.takeWhile_cons, List.dropWhile_cons, h1.1, k1, k2]
theorem drop_at {l : List UInt8} {k : Nat} (h : k < l.length) : l.drop k = l.getD k 0 :: l.drop (k + 1) := by
  rw [List.drop_eq_getElem_cons h]; simp [List.getD, h]
theorem tk_at_sp {l : List UInt8} {k : Nat} (h : k < l.length) (hs : isSp (l.getD k 0) = true) : tk k (l.drop k) = tk (k + 1) (l.drop (k + 1)) := by rw [drop_at h, tk_sp hs]
theorem tk_at_word {l : List UInt8} {k n : Nat} (hk : k < n) (hn : n ≤ l.length) (hw : ∀ j, k ≤ j → j < n → isSp (l.getD j 0) = false) (he : n < l.length → isSp (l.getD n 0) = true) : tk k (l.drop k) = (k, (l.drop k).take (n - k)) :: tk n (l.drop n) := by
  have h0 : k < l.length := by omega
  rw [drop_at h0, tk_word (hw k (Nat.le_refl _) hk)]
  have h1 : ((l.drop (k + 1)).take (n - k - 1)).all noSp = true := by
    rw [List.all_eq_true]
    intro x hx
    obtain ⟨j, hj, rfl⟩ := List.mem_iff_getElem.1 hx
    have hj' : j < n - k - 1 := by simp at hj; omega
    have := hw (k + 1 + j) (by omega) (by omega)
    rw [List.getElem_take, List.getElem_drop]
    have e : l.getD (k + 1 + j) 0 = l[k + 1 + j]'(by omega) := by simp [List.getD, show k + 1 + j < l.length by omega]
    rw [e] at this
    simp [noSp, this]
  have h2 : ∀ c, (l.drop (k + 1))[n - k - 1]? = some c → noSp c = false := fun c hc => by
    rw [List.getElem?_drop, show k + 1 + (n - k - 1) = n by omega] at hc
    obtain ⟨h3, h4⟩ := List.getElem?_eq_some_iff.1 hc
    have := he h3
    have e : l.getD n 0 = l[n] := by simp [List.getD, h3]
    rw [e, h4] at this
    simp [noSp, this]
  obtain ⟨e1, e2⟩ := while_take h1 h2
  have h3 : ((l.drop (k + 1)).take (n - k - 1)).length = n - k - 1 := by simp; omega
  rw [e1, e2, h3, List.drop_drop, show k + 1 + (n - k - 1) = n by omega]
  congr 2
  rw [show n - k = (n - k - 1) + 1 by omega, List.take_succ_cons]; rfl
def remark (l : List UInt8) : Bool := l == [99] || [99, 32].isPrefixOf l
def lineTk (l : List UInt8) : List (Nat × List UInt8) := if remark l then [] else tk 0 l
end Go.Proofs.YthgmjboldboclaaDoor
namespace Go.Proofs.YthgmjboldboclaaDoor
set_option linter.unusedSimpArgs false
open Go.Lib
def noNl (b : UInt8) : Bool := !(b == 10)
def lnLen (l : List UInt8) : Nat := (l.takeWhile noNl).length
theorem lnLen_le (l : List UInt8) : lnLen l ≤ l.length := (List.takeWhile_sublist noNl (l := l)).length_le
theorem lnLen_ix : ∀ l : List UInt8, (indexByte l 10 = -1 ∧ lnLen l = l.length) ∨ (indexByte l 10 = (lnLen l : Int) ∧ lnLen l < l.length)
  | [] => .inl ⟨rfl, rfl⟩
  | b :: l => by
    have ih := lnLen_ix l
    by_cases h : b = 10
    · subst h
      exact .inr ⟨rfl, by show 0 < _; simp⟩
    · have e1 : (b == 10) = false := by simpa using h
      have e2 : lnLen (b :: l) = lnLen l + 1 := by unfold lnLen; rw [List.takeWhile_cons, if_pos (by simp [noNl, e1])]; rfl
      have e3 : indexByte (b :: l) 10 = if indexByte l 10 == -1 then -1 else indexByte l 10 + 1 := by rw [indexByte, e1]; rfl
      rw [e2, e3]
      rcases ih with ⟨h1, h2⟩ | ⟨h1, h2⟩
      · left; rw [h1]; exact ⟨rfl, by rw [h2, List.length_cons]⟩
      · right
        have e4 : (indexByte l 10 == -1) = false := by rw [h1]; simp
        rw [e4, h1]
        refine ⟨by simp, ?_⟩
        rw [List.length_cons]; omega
def lns (ln k : Nat) (l : List UInt8) : List (Nat × Nat × List (Nat × List UInt8)) :=
  match l with
  | [] => []
  | c :: r => (ln, k, lineTk ((c :: r).take (lnLen (c :: r)))) :: lns (ln + 1) (k + (lnLen (c :: r) + 1)) ((c :: r).drop (lnLen (c :: r) + 1))
termination_by l.length
decreasing_by simp; omega
theorem lns_nil (ln k : Nat) : lns ln k [] = [] := by rw [lns]
theorem lns_at {ln k : Nat} {l : List UInt8} (h : k < l.length) : lns ln k (l.drop k) = (ln, k, lineTk ((l.drop k).take (lnLen (l.drop k)))) :: lns (ln + 1) (k + (lnLen (l.drop k) + 1)) (l.drop (k + (lnLen (l.drop k) + 1))) := by
  obtain ⟨c, r, e⟩ : ∃ c r, l.drop k = c :: r := ⟨_, _, drop_at h⟩
  have e2 : l.drop (k + (lnLen (l.drop k) + 1)) = (l.drop k).drop (lnLen (l.drop k) + 1) := by rw [List.drop_drop]
  rw [e2, e, lns]
end Go.Proofs.YthgmjboldboclaaDoor
namespace Go.Proofs.YthgmjboldboclaaDoor
open Go.Lib
def litB (l : Int) : List UInt8 := itoa l ++ [32]
def clB (c : List Int) : List UInt8 := c.flatMap litB ++ [48, 10]
def headB (v c : Int) : List UInt8 := [112, 32, 99, 110, 102, 32] ++ itoa v ++ [32] ++ itoa c ++ [10]
def prB (v : Int) (xss : List (List Int)) : List UInt8 := headB v xss.length ++ xss.flatMap clB
theorem flat_step {α : Type} (f : α → List UInt8) (d : α) {xs : List α} {k : Nat} (h : k < xs.length) : (xs.take (k + 1)).flatMap f = (xs.take k).flatMap f ++ f (xs.getD k d) := by
  rw [List.take_add_one, List.getElem?_eq_getElem h, List.flatMap_append, List.getD_eq_getElem?_getD, List.getElem?_eq_getElem h]; simp
theorem flat_le {α : Type} (f : α → List UInt8) (xs : List α) (k : Nat) : ((xs.take k).flatMap f).length ≤ (xs.flatMap f).length := by
  have e : xs.flatMap f = (xs.take k).flatMap f ++ (xs.drop k).flatMap f := by rw [← List.flatMap_append, List.take_append_drop]
  rw [e, List.length_append]; omega
theorem flat_lt {α : Type} (f : α → List UInt8) (d : α) {xs : List α} {k : Nat} (h : k < xs.length) : ((xs.take k).flatMap f).length + (f (xs.getD k d)).length ≤ (xs.flatMap f).length := by
  have := flat_le f xs (k + 1)
  rw [flat_step f d h, List.length_append] at this
  exact this
theorem flat_mul {α : Type} (f : α → List UInt8) (n : Nat) {xs : List α} (h : ∀ x ∈ xs, (f x).length ≤ n) : (xs.flatMap f).length ≤ xs.length * n := by
  induction xs with
  | nil => simp
  | cons x xs ih =>
    rw [List.flatMap_cons, List.length_append, List.length_cons, Nat.add_mul]
    have := h x (by simp)
    have := ih fun y hy => h y (by simp [hy])
    omega
def Fit (x : Int) : Prop := -9223372036854775808 ≤ x ∧ x ≤ 9223372036854775807
theorem litB_len {l : Int} (h : Fit l) : (litB l).length ≤ 22 := by
  have := itoa_length_le l h.1 h.2
  unfold litB; rw [List.length_append]; show _ + 1 ≤ _; omega
theorem clB_len {c : List Int} (h : ∀ x ∈ c, Fit x) {n : Nat} (hn : c.length ≤ n) : (clB c).length ≤ n * 22 + 2 := by
  have := flat_mul litB 22 fun x hx => litB_len (h x hx)
  have h2 : c.length * 22 ≤ n * 22 := Nat.mul_le_mul_right _ hn
  unfold clB; rw [List.length_append]; show _ + 2 ≤ _; omega
theorem headB_len {v c : Int} (hv : Fit v) (hc : Fit c) : (headB v c).length ≤ 60 := by
  have := itoa_length_le v hv.1 hv.2
  have := itoa_length_le c hc.1 hc.2
  unfold headB; simp only [List.length_append, List.length_cons, List.length_nil]; omega
theorem prB_len {v : Int} {xss : List (List Int)} (hv : Fit v) (h : ∀ c ∈ xss, ∀ x ∈ c, Fit x) (h1 : xss.length ≤ 200) (h2 : ∀ c ∈ xss, c.length ≤ 50) : (prB v xss).length ≤ 1000000 := by
  have := headB_len hv (c := (xss.length : Int)) ⟨by omega, by omega⟩
  have := flat_mul clB 1102 (xs := xss) fun c hc => clB_len (h c hc) (h2 c hc)
  have : xss.length * 1102 ≤ 200 * 1102 := Nat.mul_le_mul_right _ h1
  unfold prB; rw [List.length_append]; omega
end Go.Proofs.YthgmjboldboclaaDoor
