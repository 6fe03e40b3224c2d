import Derived.Test.YtcjnikkmjhagmaaGreatDoorMgBL
import Derived.Test.YtcjnikkmjhagmaaGreatDoorMgAR
import Derived.Test.YtcjnikkmjhagmaaGreatDoorMgBI
import Derived.Test.YtcjnikkmjhagmaaGreatDoorMgBG
import Derived.Test.YtcjnikkmjhagmaaGreatDoorMgAN
namespace Go.Proofs.YtcjnikkmjhagmaaGreatDoor
open Go.RowKit
set_option linter.unusedVariables false
set_option linter.unusedSimpArgs false
theorem cover_perm : ∀ (n : Nat) (xs : List Int), xs.length = n → (∀ i : Nat, i < n → (i : Int) ∈ xs) → xs.Perm ((List.range n).map fun i : Nat => (i : Int))
  | 0, xs, h, _ => by rw [List.eq_nil_of_length_eq_zero h]; exact List.Perm.refl _
  | n + 1, xs, h, hm => by
    have h1 := List.perm_cons_erase (hm n (by omega))
    have h2 : (xs.erase (n : Int)).length = n := by have := h1.length_eq; rw [List.length_cons] at this; omega
    have h3 := cover_perm n (xs.erase (n : Int)) h2 fun i hi => (List.mem_erase_of_ne (by omega)).2 (hm i (by omega))
    rw [List.range_succ, List.map_append]
    exact h1.trans ((h3.cons _).trans (List.perm_append_comm (l₁ := [(n : Int)])))
theorem range_up (n : Nat) : ((List.range n).map fun i : Nat => (i : Int)).Pairwise fun x y => x ≤ y := by
  rw [List.pairwise_map]
  exact (List.pairwise_lt_range (n := n)).imp fun h => by omega
theorem rsort_perm (xs : List Int) : (rsort xs).Perm xs := List.mergeSort_perm xs _
theorem rsort_up (xs : List Int) : (rsort xs).Pairwise fun x y => x ≤ y := by
  have h := List.pairwise_mergeSort (le := fun x y : Int => decide (x ≤ y)) (fun a b c h1 h2 => by simp at h1 h2 ⊢; omega) (fun a b => by simp; omega) xs
  exact h.imp fun h => by simpa using h
theorem mAll_iff {n : Nat} {xs : List Int} : mAll n xs = true ↔ xs.length = n ∧ ∀ i : Nat, i < n → (i : Int) ∈ xs := by
  unfold mAll
  rw [decide_eq_true_eq]
  constructor
  · rintro ⟨h1, h2⟩
    have hl : xs.length = n := by omega
    refine ⟨hl, fun i hi => ?_⟩
    have h3 := h1 i (by omega)
    have hr := rsort_len xs
    rw [List.getD_eq_getElem?_getD, List.getElem?_eq_getElem (by omega), Option.getD_some] at h3
    exact (rsort_perm xs).mem_iff.1 (h3 ▸ List.getElem_mem _)
  · rintro ⟨h1, h2⟩
    refine ⟨fun k hk => ?_, by omega⟩
    have e : rsort xs = (List.range n).map fun i : Nat => (i : Int) :=
      List.Perm.eq_of_pairwise (le := fun x y : Int => x ≤ y) (fun a b _ _ h1 h2 => by omega) (rsort_up xs) (range_up n) ((rsort_perm xs).trans (cover_perm n xs h1 h2))
    rw [e, List.getD_eq_getElem?_getD, List.getElem?_map, List.getElem?_range (by omega)]; rfl
theorem mAll_at {n : Nat} {xs : List Int} (h : mAll n xs = true) {k : Nat} (hk : k < n) : ∃ q : Nat, q < n ∧ xs.getD k 0 = q := by
  unfold mAll at h
  rw [decide_eq_true_eq] at h
  have hl : xs.length = n := by omega
  have hm : xs.getD k 0 ∈ xs := by
    rw [List.getD_eq_getElem?_getD, List.getElem?_eq_getElem (by omega), Option.getD_some]; exact List.getElem_mem _
  have hm2 := (rsort_perm xs).mem_iff.2 hm
  obtain ⟨j, hj, e⟩ := List.getElem_of_mem hm2
  have h3 := h.1 j (by rw [← rsort_len]; exact hj)
  rw [List.getD_eq_getElem?_getD, List.getElem?_eq_getElem hj, Option.getD_some, e] at h3
  exact ⟨j, by rw [rsort_len] at hj; omega, h3⟩
def plOp (ord : List Int) (k : Nat) : Nat := (ord.getD k 0).toNat
def plSt (o : Ob) (l : List Op5) (ord : List Int) (inn : List Bool) : Nat → Int
  | 0 => o.I
  | k + 1 => if inn.getD (plOp ord k) false = true then mvTo o (oAt l (plOp ord k)) (plSt o l ord inn k) else plSt o l ord inn k
def plGo (o : Ob) (l : List Op5) (ord : List Int) (inn : List Bool) (k : Nat) : Bool := !(inn.getD (plOp ord k) false) || mvMay o (oAt l (plOp ord k)) (plSt o l ord inn k)
def plRow (o : Ob) (l : List Op5) (ord : List Int) (inn : List Bool) (k : Nat) : List Int := (List.range (k + 1)).map (plSt o l ord inn)
def plIn (l : List Op5) (inn : List Bool) (i : Nat) : Prop := (oAt l i).e = -1 ∨ inn.getD i false = true
instance (l : List Op5) (inn : List Bool) (i : Nat) : Decidable (plIn l inn i) := by unfold plIn; infer_instance
def plOk (o : Ob) (l : List Op5) (ord : List Int) (inn : List Bool) : Prop := nOk (mN o l) (mS o l) ∧ mAll l.length ord = true ∧ inn.length = l.length ∧ (∀ i, i < l.length → plIn l inn i) ∧ ∀ k, k < l.length → plGo o l ord inn k = true
instance (o : Ob) (l : List Op5) (ord : List Int) (inn : List Bool) : Decidable (plOk o l ord inn) := by unfold plOk; infer_instance
def plXs (o : Ob) (l : List Op5) (ord : List Int) (inn : List Bool) : List Int := if plOk o l ord inn then plRow o l ord inn l.length else []
def plB (o : Ob) (l : List Op5) (ord : List Int) (inn : List Bool) : Bool := decide (plOk o l ord inn)
theorem pl_no {o : Ob} {l : List Op5} {ord : List Int} {inn : List Bool} (h : ¬ plOk o l ord inn) : plXs o l ord inn = [] ∧ plB o l ord inn = false := ⟨by unfold plXs; rw [if_neg h], by unfold plB; rw [decide_eq_false h]⟩
theorem pl_yes {o : Ob} {l : List Op5} {ord : List Int} {inn : List Bool} (h : plOk o l ord inn) : plXs o l ord inn = plRow o l ord inn l.length ∧ plB o l ord inn = true := ⟨by unfold plXs; rw [if_pos h], by unfold plB; rw [decide_eq_true h]⟩
theorem plRow_succ (o : Ob) (l : List Op5) (ord : List Int) (inn : List Bool) (k : Nat) : plRow o l ord inn (k + 1) = plRow o l ord inn k ++ [plSt o l ord inn (k + 1)] := by unfold plRow; rw [List.range_succ, List.map_append]; rfl
theorem plRow_len (o : Ob) (l : List Op5) (ord : List Int) (inn : List Bool) (k : Nat) : (plRow o l ord inn k).length = k + 1 := by unfold plRow; simp
def plcE (xs : List Int) (x : Int) (i : Nat) : Int := if xs.getD i 0 = x then 1 else 0
def plc (xs : List Int) (x : Int) : Int := if fb (plcE xs x) xs.length < xs.length then (fb (plcE xs x) xs.length : Int) else -1
end Go.Proofs.YtcjnikkmjhagmaaGreatDoor
namespace Go.Proofs.YtcjnikkmjhagmaaGreatDoor
open Go.RowKit
set_option linter.unusedVariables false
set_option linter.unusedSimpArgs false
def srOk (n m : Int) (row : List Int) : Prop := nOk n m ∧ (row.length : Int) = n + 1 ∧ gOk (fun i => srV n m row i != 0) row.length
instance (n m : Int) (row : List Int) : Decidable (srOk n m row) := by unfold srOk; infer_instance
def srU (n m : Int) (row : List Int) : Nat → List Bool
  | 0 => List.replicate (nVars n m).toNat false
  | k + 1 => (srU n m row k).set (srV n m row k - 1).toNat true
def srM (n m : Int) (row : List Int) : List Bool := if srOk n m row then srU n m row row.length else []
def srB (n m : Int) (row : List Int) : Bool := decide (srOk n m row)
end Go.Proofs.YtcjnikkmjhagmaaGreatDoor
namespace Go.Proofs.YtcjnikkmjhagmaaGreatDoor
open Go.RowKit
set_option linter.unusedVariables false
set_option linter.unusedSimpArgs false
def spV (x : Int) : Int := if 0 < x ∧ x ≤ 100000 then x else if x < 0 ∧ -100000 ≤ x then -x else 0
def spB (x : Int) : Bool := decide (0 < x ∧ x ≤ 100000)
def litT (m : List Bool) (x : Int) : Bool := decide (spV x ≠ 0) && ((decide (spV x ≤ m.length) && m.getD (spV x - 1).toNat false) == spB x)
def hoB (c : List Int) (m : List Bool) : Bool := c.any (litT m)
def fiE (xss : List (List Int)) (m : List Bool) (i : Nat) : Int := if hoB (xss.getD i []) m = true then 0 else 1
def fiR (xss : List (List Int)) (m : List Bool) : Int := if fb (fiE xss m) xss.length < xss.length then (fb (fiE xss m) xss.length : Int) else -1
end Go.Proofs.YtcjnikkmjhagmaaGreatDoor
