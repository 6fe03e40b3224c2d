/- Of times.Sort, plainly: one candidate after another. -/
import Derived.Test.YthfcbjfeepindaaTimQ
import Derived.Test.YthfcbjfeepindaaTimB
namespace Go.Proofs.Ythfcbjfeepindaa
open Go.RowKit
set_option linter.unusedVariables false

def outI (out : List Nat) : List Int := out.map fun y : Nat => (y : Int)
theorem outI_len (out : List Nat) : (outI out).length = out.length := by simp [outI]
theorem outI_push (out : List Nat) (y : Nat) : outI (out ++ [y]) = outI out ++ [(y : Int)] := by simp [outI]
theorem pI_mem (l : List Int) (x : Int) : decide (pI l x < 0) = !l.contains x := by
  unfold pI
  by_cases h : x ∈ l
  · have h1 : tPl l x < l.length := by unfold tPl; exact List.idxOf_lt_length_of_mem h
    rw [if_pos h1]
    simp [h]
  · have h1 : ¬ tPl l x < l.length := fun h1 => h (by
      have := tPl_at l x h1
      rw [List.getD_eq_getElem?_getD, List.getElem?_eq_getElem h1] at this
      simp at this
      rw [← this]; exact List.getElem_mem _)
    rw [if_neg h1]
    simp [h]
theorem outI_has (out : List Nat) (x : Int) (h : 0 ≤ x) : (outI out).contains x = out.contains x.toNat := by
  rw [Bool.eq_iff_iff]
  simp only [List.contains_iff_mem, outI, List.mem_map]
  constructor
  · rintro ⟨y, hy, rfl⟩; simpa using hy
  · intro hx; exact ⟨x.toNat, hx, by omega⟩
theorem pI_out (out : List Nat) (x : Int) (h : 0 ≤ x) : decide (pI (outI out) x < 0) = !out.contains x.toNat := by rw [pI_mem, outI_has out x h]

/-- The pair holds x back. -/
def tHolds (n : Nat) (out : List Nat) (x : Nat) (p : Int × Int) : Bool := (tCounts n p.1 p.2 && p.2 == (x : Int)) && !out.contains p.1.toNat
def tFreeK (n : Nat) (ps : List (Int × Int)) (out : List Nat) (x k : Nat) : Bool := !out.contains x && (List.range k).all fun i => !tHolds n out x (prAt ps i)
theorem tFreeK_zero (n : Nat) (ps : List (Int × Int)) (out : List Nat) (x : Nat) : tFreeK n ps out x 0 = !out.contains x := by simp [tFreeK]
theorem tFreeK_succ (n : Nat) (ps : List (Int × Int)) (out : List Nat) (x k : Nat) : tFreeK n ps out x (k + 1) = (tFreeK n ps out x k && !tHolds n out x (prAt ps k)) := by
  unfold tFreeK
  rw [List.range_succ, List.all_append, List.all_cons, List.all_nil, Bool.and_true, Bool.and_assoc]
theorem tFreeK_all (n : Nat) (ps : List (Int × Int)) (out : List Nat) (x : Nat) : tFreeK n ps out x ps.length = tFree n ps out x := by
  unfold tFreeK tFree
  congr 1
  rw [Bool.eq_iff_iff, List.all_eq_true, List.all_eq_true]
  have hg : ∀ i (hi : i < ps.length), prAt ps i = ps[i] := fun i hi => by unfold prAt; rw [List.getD_eq_getElem?_getD, List.getElem?_eq_getElem hi]; rfl
  have hb : ∀ p, (!tHolds n out x p) = (!(tCounts n p.1 p.2 && p.2 == (x : Int)) || out.contains p.1.toNat) := fun p => by
    unfold tHolds; rw [Bool.not_and, Bool.not_not]
  constructor
  · intro h p hp
    obtain ⟨i, hi, rfl⟩ := List.mem_iff_getElem.1 hp
    have := h i (by simpa using hi)
    rwa [hg i hi, hb] at this
  · intro h i hi
    have hi' : i < ps.length := by simpa using hi
    have := h _ (List.getElem_mem hi')
    rw [hg i hi', hb]; exact this
end Go.Proofs.Ythfcbjfeepindaa
