import Derived.Test.YthgmjboldboclaaDoorMgAS
import Derived.Test.YthgmjboldboclaaDoorMgAA
import Derived.Test.YthgmjboldboclaaDoorMgAU
import Derived.Test.YthgmjboldboclaaDoorMgAT
namespace Go.Proofs.YthgmjboldboclaaDoor
open Go.RowKit
set_option linter.unusedVariables false
def litT (m : List Bool) (l : Int) : Bool := decide (lvar l ≠ 0) && ((decide (lvar l ≤ m.length) && m.getD ((lvar l).toNat - 1) false) == lside l)
def holdsC (m : List Bool) (c : List Int) : Bool := c.any (litT m)
end Go.Proofs.YthgmjboldboclaaDoor
namespace Go.Proofs.YthgmjboldboclaaDoor
set_option linter.unusedVariables false
end Go.Proofs.YthgmjboldboclaaDoor
namespace Go.Proofs.YthgmjboldboclaaDoor
set_option linter.unusedVariables false
def fFind {α : Type} (p : α → Bool) (xs : List α) : Int := if xs.any p then (xs.findIdx p : Int) else -1
theorem fFind_at {α : Type} {p : α → Bool} {xs : List α} {d : α} {k : Nat} (hk : k < xs.length) (hb : ∀ j, j < k → p (xs.getD j d) = false) (h : p (xs.getD k d) = true) : fFind p xs = (k : Int) := by
  have hx : xs.getD k d = xs[k] := by simp [List.getD, hk]
  rw [hx] at h
  have hany : xs.any p = true := List.any_eq_true.2 ⟨_, List.getElem_mem hk, h⟩
  have hi : xs.findIdx p = k := (List.findIdx_eq hk).2 ⟨h, fun j hj => by
    have := hb j hj
    rw [show xs.getD j d = xs[j]'(by omega) by simp [List.getD, show j < xs.length by omega]] at this
    exact this⟩
  unfold fFind
  rw [if_pos hany, hi]
theorem fFind_no {α : Type} {p : α → Bool} {xs : List α} {d : α} (hb : ∀ j, j < xs.length → p (xs.getD j d) = false) : xs.any p = false := by
  rw [List.any_eq_false]
  intro x hx
  obtain ⟨j, hj, rfl⟩ := List.mem_iff_getElem.1 hx
  have := hb j hj
  rw [show xs.getD j d = xs[j] by simp [List.getD, hj]] at this
  simp [this]
theorem fFind_none {α : Type} {p : α → Bool} {xs : List α} (h : xs.any p = false) : fFind p xs = -1 := by unfold fFind; rw [h]; rfl
theorem fFind_ge {α : Type} {p : α → Bool} {xs : List α} : 0 ≤ fFind p xs ↔ xs.any p = true := by
  unfold fFind
  by_cases h : xs.any p = true
  · rw [if_pos h]; exact ⟨fun _ => h, fun _ => by omega⟩
  · rw [if_neg h]; exact ⟨fun h2 => by omega, fun h2 => absurd h2 h⟩
theorem fFind_neg {α : Type} {p : α → Bool} {xs : List α} : fFind p xs = -1 ↔ xs.any p = false := by
  constructor
  · intro h
    cases h2 : xs.any p
    · rfl
    · have := fFind_ge.2 h2; omega
  · exact fFind_none
def fFirst (m : List Bool) (xss : List (List Int)) : Int := fFind (fun c => !holdsC m c) xss
def fHolds (vars : Int) (m : List Bool) (xss : List (List Int)) : Bool := decide ((m.length : Int) = vars) && decide (fFirst m xss = -1)
def fStat (l : List Int) (xss : List (List Int)) : Int := if xss.any (fun c => decide (aCl l c = -1)) then -1 else if xss.all (fun c => decide (aCl l c = 1)) then 1 else 0
end Go.Proofs.YthgmjboldboclaaDoor
