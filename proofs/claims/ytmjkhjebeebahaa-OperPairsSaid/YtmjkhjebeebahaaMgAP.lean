import Derived.Test.YtmjkhjebeebahaaMgAM
namespace Go.Proofs.Ytmjkhjebeebahaa

/-- An operation: process, kind, start, end, result. -/
structure Op5 where
  p : Int
  k : Int
  s : Int
  e : Int
  r : Int


def oAhead (a b : Op5) : Bool := decide (0 ≤ a.e ∧ a.e < b.s)
def oMay (x : Op5) : Int :=
  if ¬ (1 ≤ x.p ∧ x.p ≤ 1000) ∨ ¬ (0 ≤ x.s ∧ x.s ≤ 9999) then 2 else if ¬ (0 ≤ x.k ∧ x.k ≤ 63) then 31 else if x.e = -1 ∧ x.r = -1 then 0 else if ¬ (x.s + 1 ≤ x.e ∧ x.e ≤ 9999) ∨ ¬ (0 ≤ x.r ∧ x.r ≤ 1000000) then 7 else 0
theorem oMay_zero {x : Op5} (h : oMay x = 0) : (1 ≤ x.p ∧ x.p ≤ 1000) ∧ (0 ≤ x.s ∧ x.s ≤ 9999) ∧ (0 ≤ x.k ∧ x.k ≤ 63) ∧ ((x.e = -1 ∧ x.r = -1) ∨ (x.s + 1 ≤ x.e ∧ x.e ≤ 9999 ∧ 0 ≤ x.r ∧ x.r ≤ 1000000)) := by
  unfold oMay at h
  split at h
  · omega
  · split at h
    · omega
    · split at h
      · omega
      · split at h <;> omega
def oMeets (a b : Op5) : Prop := a.s = b.s ∨ a.e = b.s ∨ a.s = b.e ∨ (a.e = b.e ∧ a.e ≠ -1)
instance (a b : Op5) : Decidable (oMeets a b) := by unfold oMeets; infer_instance
/-- The operation of a place. -/
def oAt (xs : List Op5) (i : Nat) : Op5 := xs.getD i ⟨0, 0, 0, 0, 0⟩
/-- Does one ahead stand against it by its numbers, or by being open? -/
def oOrd (xs : List Op5) (i : Nat) (o : Op5) : Prop := ∃ k, k < i ∧ ((oAt xs k).s ≥ o.s ∨ oMeets (oAt xs k) o)
def oOpen (xs : List Op5) (i : Nat) (o : Op5) : Prop := ∃ k, k < i ∧ (oAt xs k).p = o.p ∧ oAhead (oAt xs k) o = false
instance (xs : List Op5) (i : Nat) (o : Op5) : Decidable (oOrd xs i o) := by unfold oOrd; infer_instance
instance (xs : List Op5) (i : Nat) (o : Op5) : Decidable (oOpen xs i o) := by unfold oOpen; infer_instance
def oErr (xs : List Op5) (i : Nat) : Int := if oMay (oAt xs i) ≠ 0 then oMay (oAt xs i) else if oOrd xs i (oAt xs i) then 32 else if oOpen xs i (oAt xs i) then 33 else 0
/-- The first k are all right. -/
def oGood (xs : List Op5) (k : Nat) : Prop := ∀ i, i < k → oErr xs i = 0
instance (xs : List Op5) (k : Nat) : Decidable (oGood xs k) := by unfold oGood; infer_instance
theorem oGood.succ {xs : List Op5} {k : Nat} (h : oGood xs k) (he : oErr xs k = 0) : oGood xs (k + 1) := fun i hi => by
  rcases Nat.lt_or_ge i k with h1 | h1
  · exact h i h1
  · obtain rfl : i = k := by omega
    exact he
theorem oErr_zero {xs : List Op5} {i : Nat} (h : oErr xs i = 0) : oMay (oAt xs i) = 0 ∧ ¬ oOrd xs i (oAt xs i) ∧ ¬ oOpen xs i (oAt xs i) := by
  unfold oErr at h
  split at h
  · exact absurd h ‹_›
  · rename_i h1
    split at h
    · omega
    · split at h
      · omega
      · exact ⟨by simpa using h1, ‹_›, ‹_›⟩
/-- Starts rise. -/
theorem oGood.rise {xs : List Op5} {k : Nat} (h : oGood xs k) {i j : Nat} (hij : i < j) (hj : j < k) : (oAt xs i).s < (oAt xs j).s := by
  have := (oErr_zero (h j hj)).2.1
  rcases Int.lt_or_le (oAt xs i).s (oAt xs j).s with h1 | h1
  · exact h1
  · exact absurd ⟨i, hij, Or.inl h1⟩ this
/-- Whatever is of one process is ahead of the next one. -/
theorem oGood.apart {xs : List Op5} {k : Nat} (h : oGood xs k) {i j : Nat} (hij : i < j) (hj : j < k) (hp : (oAt xs i).p = (oAt xs j).p) : oAhead (oAt xs i) (oAt xs j) = true := by
  have := (oErr_zero (h j hj)).2.2
  cases h1 : oAhead (oAt xs i) (oAt xs j)
  · exact absurd ⟨i, hij, hp, h1⟩ this
  · rfl

/-- Is a number taken by one of the first k? -/
def oTaken (xs : List Op5) (k : Nat) (n : Int) : Prop := ∃ i, i < k ∧ ((oAt xs i).s = n ∨ ((oAt xs i).e = n ∧ (oAt xs i).e ≠ -1))
instance (xs : List Op5) (k : Nat) (n : Int) : Decidable (oTaken xs k n) := by unfold oTaken; infer_instance
/-- The last one of a process among the first k. -/
def oLast (xs : List Op5) : Nat → Int → Option Op5
  | 0, _ => none
  | k + 1, p => if (oAt xs k).p = p then some (oAt xs k) else oLast xs k p
theorem oLast_some {xs : List Op5} {k : Nat} {p : Int} {o : Op5} (h : oLast xs k p = some o) : ∃ i, i < k ∧ oAt xs i = o ∧ (oAt xs i).p = p ∧ ∀ j, i < j → j < k → (oAt xs j).p ≠ p := by
  induction k with
  | zero => simp [oLast] at h
  | succ k ih =>
    unfold oLast at h
    split at h
    · rename_i hp
      cases h
      exact ⟨k, by omega, rfl, hp, fun j h1 h2 => by omega⟩
    · rename_i hp
      obtain ⟨i, h1, h2, h3, h4⟩ := ih h
      refine ⟨i, by omega, h2, h3, fun j h5 h6 => ?_⟩
      rcases Nat.lt_or_ge j k with h7 | h7
      · exact h4 j h5 h7
      · obtain rfl : j = k := by omega
        exact hp
theorem oLast_none {xs : List Op5} {k : Nat} {p : Int} (h : oLast xs k p = none) : ∀ i, i < k → (oAt xs i).p ≠ p := by
  induction k with
  | zero => intro i hi; omega
  | succ k ih =>
    unfold oLast at h
    split at h
    · cases h
    · rename_i hp
      intro i hi
      rcases Nat.lt_or_ge i k with h1 | h1
      · exact ih h i h1
      · obtain rfl : i = k := by omega
        exact hp
/-- What the code looks at is what the document says. -/
theorem oOrd_iff {xs : List Op5} {k : Nat} (h : oGood xs k) (hm : oMay (oAt xs k) = 0) : oOrd xs k (oAt xs k) ↔ (oTaken xs k (oAt xs k).s ∨ oTaken xs k (oAt xs k).e ∨ (0 < k ∧ (oAt xs k).s ≤ (oAt xs (k - 1)).s)) := by
  have hm := oMay_zero hm
  constructor
  · rintro ⟨i, hi, h1 | h1 | h1 | h1 | h1⟩
    · right; right
      refine ⟨by omega, ?_⟩
      rcases Nat.lt_or_ge i (k - 1) with h2 | h2
      · have := h.rise h2 (by omega : k - 1 < k); omega
      · obtain rfl : i = k - 1 := by omega
        omega
    · left; exact ⟨i, hi, Or.inl h1⟩
    · left; exact ⟨i, hi, Or.inr ⟨h1, by omega⟩⟩
    · right; left; exact ⟨i, hi, Or.inl h1⟩
    · right; left; exact ⟨i, hi, Or.inr h1⟩
  · rintro (⟨i, hi, h1 | h1⟩ | ⟨i, hi, h1 | h1⟩ | ⟨h0, h1⟩)
    · exact ⟨i, hi, Or.inr (Or.inl h1)⟩
    · exact ⟨i, hi, Or.inr (Or.inr (Or.inl h1.1))⟩
    · exact ⟨i, hi, Or.inr (Or.inr (Or.inr (Or.inl h1)))⟩
    · exact ⟨i, hi, Or.inr (Or.inr (Or.inr (Or.inr h1)))⟩
    · exact ⟨k - 1, by omega, Or.inl h1⟩
theorem oOpen_iff {xs : List Op5} {k : Nat} (h : oGood xs k) (ho : ¬ oOrd xs k (oAt xs k)) : oOpen xs k (oAt xs k) ↔ ∃ o, oLast xs k (oAt xs k).p = some o ∧ oAhead o (oAt xs k) = false := by
  constructor
  · rintro ⟨i, hi, hp, ha⟩
    cases hl : oLast xs k (oAt xs k).p with
    | none => exact absurd hp (oLast_none hl i hi)
    | some o =>
      obtain ⟨j, hj, e, hpj, hlast⟩ := oLast_some hl
      refine ⟨o, rfl, ?_⟩
      rcases Nat.lt_trichotomy i j with h1 | h1 | h1
      · have h2 := h.apart h1 hj (by rw [hp, hpj])
        have h3 := (oErr_zero (h j hj)).1
        have h5 : (oAt xs j).s < (oAt xs k).s := by
          rcases Int.lt_or_le (oAt xs j).s (oAt xs k).s with h1 | h1
          · exact h1
          · exact absurd ⟨j, hj, Or.inl h1⟩ ho
        unfold oAhead at h2 ha
        have h2 := of_decide_eq_true h2
        have ha := of_decide_eq_false ha
        omega
      · subst h1; rw [← e]; exact ha
      · exact absurd hp (hlast i h1 hi)
  · rintro ⟨o, hl, ha⟩
    obtain ⟨j, hj, e, hpj, _⟩ := oLast_some hl
    exact ⟨j, hj, hpj, by rw [e]; exact ha⟩
theorem oTaken_succ (xs : List Op5) (k : Nat) (n : Int) : oTaken xs (k + 1) n ↔ oTaken xs k n ∨ (oAt xs k).s = n ∨ ((oAt xs k).e = n ∧ (oAt xs k).e ≠ -1) := by
  constructor
  · rintro ⟨i, hi, h⟩
    rcases Nat.lt_or_ge i k with h1 | h1
    · exact Or.inl ⟨i, h1, h⟩
    · obtain rfl : i = k := by omega
      exact Or.inr h
  · rintro (⟨i, hi, h⟩ | h)
    · exact ⟨i, by omega, h⟩
    · exact ⟨k, by omega, h⟩

/-- What the check tells. -/
def OChk (xs : List Op5) (at' c : Int) : Prop :=
  (5000 < xs.length ∧ at' = 0 ∧ c = 3) ∨ (xs.length ≤ 5000 ∧ ∃ i : Nat, i < xs.length ∧ oGood xs i ∧ oErr xs i ≠ 0 ∧ at' = i ∧ c = oErr xs i) ∨ (xs.length ≤ 5000 ∧ oGood xs xs.length ∧ at' = xs.length ∧ c = 0)
theorem OChk.uniq {xs : List Op5} {a c a' c' : Int} (h : OChk xs a c) (h' : OChk xs a' c') : a = a' ∧ c = c' := by
  rcases h with ⟨h1, h2, h3⟩ | ⟨h1, i, h2, h3, h4, h5, h6⟩ | ⟨h1, h2, h3, h4⟩ <;> rcases h' with ⟨k1, k2, k3⟩ | ⟨k1, j, k2, k3, k4, k5, k6⟩ | ⟨k1, k2, k3, k4⟩
  · omega
  · omega
  · omega
  · omega
  · rcases Nat.lt_trichotomy i j with h | h | h
    · exact absurd (k3 i h) h4
    · subst h; omega
    · exact absurd (h3 j h) k4
  · exact absurd (k2 i h2) h4
  · omega
  · exact absurd (h2 j k2) k4
  · omega
/-- The pairs of which the first one is ahead. -/
def oPairs (xs : List Op5) : List (Int × Int) := (List.range xs.length).flatMap fun i => ((List.range xs.length).filter fun j => oAhead (oAt xs i) (oAt xs j)).map fun j : Nat => ((i : Int), (j : Int))
def oPend (xs : List Op5) : List Int := ((List.range xs.length).filter fun i => decide ((oAt xs i).e = -1)).map fun i : Nat => (i : Int)
end Go.Proofs.Ytmjkhjebeebahaa
namespace Go.Proofs.Ytmjkhjebeebahaa
open Go.RowKit
abbrev opA (x : Op5) : AV := .agg [lt (.int .i64 x.p), lt (.int .i64 x.k), lt (.int .i64 x.s), lt (.int .i64 x.e), lt (.int .i64 x.r)]
def oFl (x : Op5) : List Int := [x.p, x.k, x.s, x.e, x.r]
def flatO (xs : List Op5) : List Int := xs.flatMap oFl
def iOps (xs : List Op5) : IV := iFlat (flatO xs) xs.length 5
theorem flatO_at {j : Nat} (hj : j < 5) (xs : List Op5) (i : Nat) : (flatO xs).getD (i * 5 + j) 0 = (oFl (oAt xs i)).getD j 0 := by
  refine flat_at (g := oFl) (w := 5) (fun _ => rfl) _ hj ?_ xs i
  match j, hj with | 0, _ | 1, _ | 2, _ | 3, _ | 4, _ => rfl
theorem flatO_p (xs : List Op5) (i : Nat) : (flatO xs).getD (i * 5) 0 = (oAt xs i).p := flatO_at (j := 0) (by omega) xs i
theorem flatO_k (xs : List Op5) (i : Nat) : (flatO xs).getD (i * 5 + 1) 0 = (oAt xs i).k := flatO_at (j := 1) (by omega) xs i
theorem flatO_s (xs : List Op5) (i : Nat) : (flatO xs).getD (i * 5 + 2) 0 = (oAt xs i).s := flatO_at (j := 2) (by omega) xs i
theorem flatO_e (xs : List Op5) (i : Nat) : (flatO xs).getD (i * 5 + 3) 0 = (oAt xs i).e := flatO_at (j := 3) (by omega) xs i
theorem flatO_r (xs : List Op5) (i : Nat) : (flatO xs).getD (i * 5 + 4) 0 = (oAt xs i).r := flatO_at (j := 4) (by omega) xs i
end Go.Proofs.Ytmjkhjebeebahaa
namespace Go.Proofs.Ytmjkhjebeebahaa
set_option linter.unusedVariables false
def oLeft (done : List Bool) (i : Nat) : Bool := decide (done.length ≤ i) || !(done.getD i false)
def oFirst (xs : List Op5) (done : List Bool) : Nat → Int
  | 0 => 9223372036854775807
  | k + 1 => if oLeft done k = true ∧ 0 ≤ (oAt xs k).e then min (oFirst xs done k) (oAt xs k).e else oFirst xs done k
theorem oFirst_le {xs : List Op5} {done : List Bool} {x : Int} (hx : x ≤ 9223372036854775807) : ∀ {k : Nat}, x ≤ oFirst xs done k ↔ ∀ i, i < k → oLeft done i = true → 0 ≤ (oAt xs i).e → x ≤ (oAt xs i).e
  | 0 => ⟨fun _ i h => absurd h (by omega), fun _ => hx⟩
  | k + 1 => by
    have ih := oFirst_le (xs := xs) (done := done) hx (k := k)
    unfold oFirst
    constructor
    · intro h i hi hl he
      rcases Nat.lt_or_ge i k with hik | hik
      · refine ih.1 ?_ i hik hl he
        split at h <;> omega
      · have : i = k := by omega
        subst this
        rw [if_pos ⟨hl, he⟩] at h
        omega
    · intro h
      have h1 := ih.2 fun i hi => h i (by omega)
      split
      · rename_i hc
        have := h k (by omega) hc.1 hc.2
        omega
      · exact h1
/-- May the j-th one come next? -/
def oFreeAt (xs : List Op5) (done : List Bool) (j : Nat) : Bool := oLeft done j && (List.range xs.length).all fun i => !(oAhead (oAt xs i) (oAt xs j) && oLeft done i)
theorem oFree_code {xs : List Op5} {done : List Bool} {j : Nat} (hs : (oAt xs j).s ≤ 9223372036854775807) : oFreeAt xs done j = (oLeft done j && decide ((oAt xs j).s ≤ oFirst xs done xs.length)) := by
  unfold oFreeAt
  congr 1
  rw [Bool.eq_iff_iff, List.all_eq_true, decide_eq_true_eq, oFirst_le hs]
  constructor
  · intro h i hi hl he
    have := h i (List.mem_range.2 hi)
    rw [hl, Bool.and_true] at this
    unfold oAhead at this
    simp only [Bool.not_eq_true', decide_eq_false_iff_not] at this
    omega
  · intro h i hi
    have := h i (List.mem_range.1 hi)
    by_cases hl : oLeft done i = true
    · rw [hl, Bool.and_true]
      unfold oAhead
      simp only [Bool.not_eq_true', decide_eq_false_iff_not]
      have := this hl
      omega
    · rw [show oLeft done i = false by simpa using hl, Bool.and_false]; rfl
def oFreeUp (xs : List Op5) (done : List Bool) (k : Nat) : List Int := ((List.range k).filter (oFreeAt xs done)).map fun i : Nat => (i : Int)
theorem oFreeUp_succ (xs : List Op5) (done : List Bool) (k : Nat) : oFreeUp xs done (k + 1) = if oFreeAt xs done k = true then oFreeUp xs done k ++ [(k : Int)] else oFreeUp xs done k := by
  unfold oFreeUp
  rw [List.range_succ, List.filter_append, List.map_append]
  by_cases h : oFreeAt xs done k = true <;> simp [h]
/-- The document's inner loop. -/
def oStands (xs : List Op5) (done : List Bool) (j : Nat) : Nat → Bool
  | 0 => oLeft done j
  | i + 1 => if oAhead (oAt xs i) (oAt xs j) = true ∧ oLeft done i = true then false else oStands xs done j i
theorem oStands_eq {xs : List Op5} {done : List Bool} {j : Nat} : ∀ k, oStands xs done j k = (oLeft done j && (List.range k).all fun i => !(oAhead (oAt xs i) (oAt xs j) && oLeft done i))
  | 0 => by simp [oStands]
  | k + 1 => by
    unfold oStands
    rw [List.range_succ, List.all_append, oStands_eq k]
    by_cases h1 : oAhead (oAt xs k) (oAt xs j) = true <;> by_cases h2 : oLeft done k = true <;> simp_all
end Go.Proofs.Ytmjkhjebeebahaa
