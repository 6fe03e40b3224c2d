/- Plain facts on literals: no Go, no program. -/
namespace Go.Proofs.Ytcifneenbdibeaa

/-- A literal's variable; 0 of another number. -/
def lvar (l : Int) : Int := if 1 ≤ l ∧ l ≤ 100000 then l else if -100000 ≤ l ∧ l ≤ -1 then -l else 0
/-- Does it say that its variable is true? -/
def lside (l : Int) : Bool := decide (lvar l ≠ 0 ∧ 0 < l)
def lcheck (l vars : Int) : Int := if vars < 0 ∨ 100000 < vars then 2 else if lvar l = 0 ∨ vars < lvar l then 10 else 0
def lneg (l : Int) : Int := if lvar l = 0 then 0 else -l
def lindex (l : Int) : Int := if lvar l = 0 then -1 else if l < 0 then 2 * lvar l - 1 else 2 * lvar l - 2
def lfrom (i : Int) : Int := if i < 0 ∨ 200000 ≤ i then 0 else if i % 2 = 1 then -(i / 2 + 1) else i / 2 + 1
/-- The literal that says that v is truth; 0: none. -/
def lmake (v : Int) (t : Bool) : Int := if v < 1 ∨ 100000 < v then 0 else if t then v else -v
/-- The error of making it. -/
def lmakeE (v : Int) (t : Bool) : Int := if lmake v t = 0 then 10 else 0
def lhas (xs : List Int) (v : Int) : Bool := xs.contains v
def lof (xs : List Int) (v : Int) : Int :=
  if v < 1 ∨ 100000 < v then 0 else if lhas xs v = true ∧ lhas xs (-v) = true then 2 else if lhas xs v = true then 1 else if lhas xs (-v) = true then -1 else 0
def lmost (xs : List Int) : Int := xs.foldl (fun m l => max m (lvar l)) 0

theorem lvar_bd (l : Int) : 0 ≤ lvar l ∧ lvar l ≤ 100000 := by unfold lvar; split <;> (try split) <;> omega
theorem lvar_range {l : Int} (h : lvar l ≠ 0) : -100000 ≤ l ∧ l ≤ 100000 ∧ l ≠ 0 := by unfold lvar at h; split at h <;> (try split at h) <;> omega
theorem lcheck_ok (l vars : Int) : lcheck l vars = 0 ↔ (0 ≤ vars ∧ vars ≤ 100000 ∧ lvar l ≠ 0 ∧ lvar l ≤ vars) := by unfold lcheck; split <;> (try split) <;> omega
theorem lcheck_max (l : Int) : lcheck l 100000 = 0 ↔ lvar l ≠ 0 := by rw [lcheck_ok]; have := lvar_bd l; omega
theorem lindex_bd (l : Int) : -1 ≤ lindex l ∧ lindex l ≤ 199999 := by have := lvar_bd l; unfold lindex; split <;> (try split) <;> omega
theorem lfrom_bd (i : Int) : -100000 ≤ lfrom i ∧ lfrom i ≤ 100000 := by unfold lfrom; split <;> (try split) <;> omega
theorem lneg_bd (l : Int) : -100000 ≤ lneg l ∧ lneg l ≤ 100000 := by
  unfold lneg; split
  · omega
  · rename_i h; have := lvar_range h; omega
theorem lfrom_index {l : Int} (h : lvar l ≠ 0) : lfrom (lindex l) = l := by
  have := lvar_range h
  unfold lindex; rw [if_neg h]
  unfold lvar lfrom
  split <;> split <;> (try split) <;> (try split) <;> omega
theorem lmake_back {l : Int} (h : lvar l ≠ 0) : lmake (lvar l) (decide (0 < l)) = l := by
  have h1 := lvar_range h
  have h2 := lvar_bd l
  have h3 : lvar l = if 0 < l then l else -l := by unfold lvar; split <;> split <;> (try split) <;> omega
  unfold lmake; rw [if_neg (by omega), h3]
  by_cases hp : 0 < l <;> simp [hp]
theorem lindex_from {i : Int} (h : lfrom i ≠ 0) : lindex (lfrom i) = i := by
  unfold lfrom at h ⊢
  split at h
  · omega
  · rename_i hb
    rw [if_neg hb]
    split
    · have hv : lvar (-(i / 2 + 1)) = i / 2 + 1 := by unfold lvar; rw [if_neg (by omega), if_pos (by omega)]; omega
      unfold lindex; rw [if_neg (by omega), if_pos (by omega), hv]; omega
    · have hv : lvar (i / 2 + 1) = i / 2 + 1 := by unfold lvar; rw [if_pos (by omega)]
      unfold lindex; rw [if_neg (by omega), if_neg (by omega), hv]; omega
theorem lmost_snoc (xs : List Int) (l : Int) : lmost (xs ++ [l]) = max (lmost xs) (lvar l) := by simp [lmost, List.foldl_append]
theorem lmost_bd (xs : List Int) : 0 ≤ lmost xs ∧ lmost xs ≤ 100000 := by
  suffices h : ∀ m : Int, 0 ≤ m → m ≤ 100000 → 0 ≤ xs.foldl (fun m l => max m (lvar l)) m ∧ xs.foldl (fun m l => max m (lvar l)) m ≤ 100000 from h 0 (by omega) (by omega)
  induction xs with
  | nil => intro m h1 h2; exact ⟨h1, h2⟩
  | cons x xs ih => intro m h1 h2; have := lvar_bd x; exact ih (max m (lvar x)) (by omega) (by omega)
theorem lhas_snoc (xs : List Int) (l v : Int) : lhas (xs ++ [l]) v = (lhas xs v || v == l) := by
  unfold lhas; rw [Bool.eq_iff_iff]; simp
theorem take_snoc (xs : List Int) (k : Nat) (h : k < xs.length) : xs.take (k + 1) = xs.take k ++ [xs.getD k 0] := by
  rw [List.take_succ_eq_append_getElem h]; simp [List.getD, h]
end Go.Proofs.Ytcifneenbdibeaa
