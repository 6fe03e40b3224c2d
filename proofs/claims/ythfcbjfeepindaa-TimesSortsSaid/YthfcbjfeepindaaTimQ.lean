/- What times.Sort says, plainly. -/
import Derived.Test.YthfcbjfeepindaaTimP
namespace Go.Proofs.Ythfcbjfeepindaa
open Go.RowKit
set_option linter.unusedVariables false

/-- x is not placed yet, and all that must stand ahead of it are. -/
def tFree (n : Nat) (ps : List (Int × Int)) (out : List Nat) (x : Nat) : Bool := !out.contains x && ps.all fun p => !(tCounts n p.1 p.2 && p.2 == (x : Int)) || out.contains p.1.toNat
/-- The least one that is free: n where none is. -/
def tLeast (n : Nat) (ps : List (Int × Int)) (out : List Nat) : Nat := (List.range n).findIdx (tFree n ps out)
def tSortUp (n : Nat) (ps : List (Int × Int)) : Nat → Option (List Nat)
  | 0 => some []
  | k + 1 => match tSortUp n ps k with
    | none => none
    | some out => if tLeast n ps out = n then none else some (out ++ [tLeast n ps out])
def tSort (n : Int) (ps : List (Int × Int)) : Option (List Nat) := if 0 ≤ n ∧ n ≤ 64 then tSortUp n.toNat ps n.toNat else none
theorem tLeast_le (n : Nat) (ps : List (Int × Int)) (out : List Nat) : tLeast n ps out ≤ n := by
  have := List.findIdx_le_length (p := tFree n ps out) (xs := List.range n)
  simpa [tLeast] using this
theorem tLeast_free {n : Nat} {ps : List (Int × Int)} {out : List Nat} (h : tLeast n ps out < n) : tFree n ps out (tLeast n ps out) = true := by
  have h1 : (List.range n).findIdx (tFree n ps out) < (List.range n).length := by simpa [tLeast] using h
  have := List.findIdx_getElem (w := h1)
  rwa [List.getElem_range] at this
theorem tLeast_not {n : Nat} {ps : List (Int × Int)} {out : List Nat} {x : Nat} (h : x < tLeast n ps out) : tFree n ps out x = false := by
  have h1 : x < (List.range n).findIdx (tFree n ps out) := h
  have := List.not_of_lt_findIdx h1
  rw [List.getElem_range] at this
  simpa using this
theorem tLeast_eq {n : Nat} {ps : List (Int × Int)} {out : List Nat} {x : Nat} (hx : x < n) (h : ∀ y, y < x → tFree n ps out y = false) (hf : tFree n ps out x = true) : tLeast n ps out = x := by
  have h1 : ¬ x < tLeast n ps out := fun h1 => by rw [tLeast_not h1] at hf; cases hf
  by_cases h2 : tLeast n ps out < x
  · have := h _ h2; rw [tLeast_free (by omega)] at this; cases this
  · omega
theorem tLeast_none {n : Nat} {ps : List (Int × Int)} {out : List Nat} (h : ∀ y, y < n → tFree n ps out y = false) : tLeast n ps out = n := by
  have := tLeast_le n ps out
  by_cases h2 : tLeast n ps out < n
  · have h3 := h _ h2; rw [tLeast_free h2] at h3; cases h3
  · omega
theorem tSortUp_len {n : Nat} {ps : List (Int × Int)} {k : Nat} {out : List Nat} (h : tSortUp n ps k = some out) : out.length = k ∧ (∀ x ∈ out, x < n) ∧ out.Nodup := by
  induction k generalizing out with
  | zero => simp [tSortUp] at h; subst h; simp
  | succ k ih =>
    unfold tSortUp at h
    split at h
    · cases h
    · rename_i o ho
      obtain ⟨h1, h2, h3⟩ := ih ho
      split at h
      · cases h
      · rename_i hne
        cases h
        have hlt : tLeast n ps o < n := by have := tLeast_le n ps o; omega
        have hf := tLeast_free hlt
        unfold tFree at hf
        simp only [Bool.and_eq_true, Bool.not_eq_true', List.contains_eq_mem, decide_eq_false_iff_not] at hf
        refine ⟨by simp [h1], fun x hx => ?_, ?_⟩
        · rw [List.mem_append, List.mem_singleton] at hx
          rcases hx with hx | rfl
          · exact h2 x hx
          · exact hlt
        · rw [List.nodup_append]
          exact ⟨h3, by simp, fun a ha b hb => by rw [List.mem_singleton] at hb; subst hb; exact fun e => hf.1 (e ▸ ha)⟩
theorem tSortUp_none {n : Nat} {ps : List (Int × Int)} {k m : Nat} (h : tSortUp n ps k = none) (hm : k ≤ m) : tSortUp n ps m = none := by
  induction m with
  | zero => rw [show k = 0 by omega] at h; exact h
  | succ m ih =>
    by_cases e : k = m + 1
    · rw [← e]; exact h
    · rw [tSortUp, ih (by omega)]
theorem tSortUp_step {n : Nat} {ps : List (Int × Int)} {k : Nat} {out : List Nat} (h : tSortUp n ps k = some out) : tSortUp n ps (k + 1) = if tLeast n ps out = n then none else some (out ++ [tLeast n ps out]) := by rw [tSortUp, h]
end Go.Proofs.Ythfcbjfeepindaa
