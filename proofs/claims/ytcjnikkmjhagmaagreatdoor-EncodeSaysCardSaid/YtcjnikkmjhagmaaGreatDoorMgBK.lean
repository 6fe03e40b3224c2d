import Derived.Test.YtcjnikkmjhagmaaGreatDoorMgBG
import Derived.Test.YtcjnikkmjhagmaaGreatDoorMgBF
import Derived.Test.YtcjnikkmjhagmaaGreatDoorMgAN
import Derived.Test.YtcjnikkmjhagmaaGreatDoorMgBJ
import Derived.Test.YtcjnikkmjhagmaaGreatDoorMgBI
namespace Go.Proofs.YtcjnikkmjhagmaaGreatDoor
open Go.RowKit
set_option linter.unusedVariables false
set_option linter.unusedSimpArgs false
def srOk (n m : Int) (row : List Int) : Prop := nOk n m ∧ (row.length : Int) = n + 1 ∧ gOk (fun i => srV n m row i != 0) row.length
instance (n m : Int) (row : List Int) : Decidable (srOk n m row) := by unfold srOk; infer_instance
def srU (n m : Int) (row : List Int) : Nat → List Bool
  | 0 => List.replicate (nVars n m).toNat false
  | k + 1 => (srU n m row k).set (srV n m row k - 1).toNat true
theorem srU_len (n m : Int) (row : List Int) : ∀ k, (srU n m row k).length = (nVars n m).toNat
  | 0 => by simp [srU]
  | k + 1 => by unfold srU; rw [List.length_set]; exact srU_len n m row k
def srM (n m : Int) (row : List Int) : List Bool := if srOk n m row then srU n m row row.length else []
def srB (n m : Int) (row : List Int) : Bool := decide (srOk n m row)
end Go.Proofs.YtcjnikkmjhagmaaGreatDoor
namespace Go.Proofs.YtcjnikkmjhagmaaGreatDoor
open Go.RowKit
set_option linter.unusedVariables false
set_option linter.unusedSimpArgs false
def spV (x : Int) : Int := if 0 < x ∧ x ≤ 100000 then x else if x < 0 ∧ -100000 ≤ x then -x else 0
def spB (x : Int) : Bool := decide (0 < x ∧ x ≤ 100000)
def litT (m : List Bool) (x : Int) : Bool := decide (spV x ≠ 0) && ((decide (spV x ≤ m.length) && m.getD (spV x - 1).toNat false) == spB x)
def hoB (c : List Int) (m : List Bool) : Bool := c.any (litT m)
def fiE (xss : List (List Int)) (m : List Bool) (i : Nat) : Int := if hoB (xss.getD i []) m = true then 0 else 1
def fiR (xss : List (List Int)) (m : List Bool) : Int := if fb (fiE xss m) xss.length < xss.length then (fb (fiE xss m) xss.length : Int) else -1
theorem any_at {p : Int → Bool} {c : List Int} {k : Nat} (hk : k < c.length) (h : p (c.getD k 0) = true) : c.any p = true := by
  rw [List.any_eq_true]
  refine ⟨c[k], List.getElem_mem hk, ?_⟩
  rwa [List.getD_eq_getElem?_getD, List.getElem?_eq_getElem hk] at h
theorem any_no {p : Int → Bool} {c : List Int} (h : ∀ k, k < c.length → p (c.getD k 0) = false) : c.any p = false := by
  rw [List.any_eq_false]
  intro x hx
  obtain ⟨k, hk, rfl⟩ := List.getElem_of_mem hx
  have := h k hk
  rw [List.getD_eq_getElem?_getD, List.getElem?_eq_getElem hk] at this
  simpa using this
theorem spV_bd (x : Int) : 0 ≤ spV x ∧ spV x ≤ 100000 := by unfold spV; split <;> (try split) <;> omega
end Go.Proofs.YtcjnikkmjhagmaaGreatDoor
namespace Go.Proofs.YtcjnikkmjhagmaaGreatDoor
open Go.RowKit
theorem nVar_inj {n m k a b k' a' b' : Int} (h : nName n m k a b) (h' : nName n m k' a' b') (e : nVar n m k a b = nVar n m k' a' b') : k = k' ∧ a = a' ∧ b = b' := by
  have e1 := nOf_var h
  have e2 := nOf_var h'
  rw [e, e2] at e1
  simp only [Prod.mk.injEq] at e1
  exact ⟨e1.1.symm, e1.2.1.symm, e1.2.2.symm⟩
theorem set_getD {xs : List Bool} {k j : Nat} {v : Bool} (hk : k < xs.length) : (xs.set k v).getD j false = if k = j then v else xs.getD j false := by
  rw [List.getD_eq_getElem?_getD, List.getElem?_set, List.getD_eq_getElem?_getD]
  by_cases h : k = j
  · subst h; rw [if_pos rfl, if_pos hk, if_pos rfl]; rfl
  · rw [if_neg h, if_neg h]
theorem rep_getD (V j : Nat) : (List.replicate V false).getD j false = false := by
  rw [List.getD_eq_getElem?_getD, List.getElem?_replicate]; split <;> rfl
section
variable {n : Nat} {m : Int} {ord row : List Int}
theorem ptU_at (hok : nOk n m) (hg : ∀ k, k < n → ∃ q : Nat, q < n ∧ ord.getD k 0 = q) {c a b : Int} (hnm : nName n m c a b) : ∀ k, k ≤ n → ((ptU n m ord k).getD (nVar n m c a b - 1).toNat false = true ↔ ∃ p : Nat, p < k ∧ c = 1 ∧ a = ord.getD p 0 ∧ b = p)
  | 0, _ => by
    show (List.replicate _ false).getD _ false = true ↔ _
    rw [rep_getD]
    exact ⟨fun h => by simp at h, fun ⟨p, h, _⟩ => by omega⟩
  | k + 1, hk => by
    obtain ⟨q, hq, hqe⟩ := hg k (by omega)
    have hn2 := nName_1 (m := m) (a := q) (b := k) hok (by omega) (by omega) (by omega) (by omega)
    have hp := nVar_pos hnm
    have hp2 := nVar_pos hn2
    have ih := ptU_at hok hg hnm k (by omega)
    show ((ptU n m ord k).set (ptI n m ord k) true).getD _ false = true ↔ _
    rw [set_getD (by rw [ptU_len]; unfold ptI; rw [hqe]; omega)]
    unfold ptI
    rw [hqe]
    by_cases h : (nVar n m 1 q k - 1).toNat = (nVar n m c a b - 1).toNat
    · rw [if_pos h]
      obtain ⟨e1, e2, e3⟩ := nVar_inj hn2 hnm (by omega)
      exact ⟨fun _ => ⟨k, by omega, e1.symm, by rw [hqe]; exact e2.symm, e3.symm⟩, fun _ => rfl⟩
    · rw [if_neg h, ih]
      refine ⟨fun ⟨p, h1, h2⟩ => ⟨p, by omega, h2⟩, fun ⟨p, h1, h2, h3, h4⟩ => ⟨p, ?_, h2, h3, h4⟩⟩
      rcases Nat.lt_or_ge p k with h5 | h5
      · exact h5
      · obtain rfl : p = k := by omega
        exact absurd (by rw [h2, h3, h4, hqe]) h
theorem srU_at (hr : ∀ i, i < n + 1 → nName n m 3 i (row.getD i 0)) {c a b : Int} (hnm : nName n m c a b) : ∀ k, k ≤ n + 1 → ((srU n m row k).getD (nVar n m c a b - 1).toNat false = true ↔ ∃ p : Nat, p < k ∧ c = 3 ∧ a = p ∧ b = row.getD p 0)
  | 0, _ => by
    show (List.replicate _ false).getD _ false = true ↔ _
    rw [rep_getD]
    exact ⟨fun h => by simp at h, fun ⟨p, h, _⟩ => by omega⟩
  | k + 1, hk => by
    have hn2 := hr k (by omega)
    have hp := nVar_pos hnm
    have hp2 := nVar_pos hn2
    have ih := srU_at hr hnm k (by omega)
    show ((srU n m row k).set (srV n m row k - 1).toNat true).getD _ false = true ↔ _
    rw [set_getD (by rw [srU_len]; unfold srV; omega)]
    unfold srV
    by_cases h : (nVar n m 3 k (row.getD k 0) - 1).toNat = (nVar n m c a b - 1).toNat
    · rw [if_pos h]
      obtain ⟨e1, e2, e3⟩ := nVar_inj hn2 hnm (by omega)
      exact ⟨fun _ => ⟨k, by omega, e1.symm, e2.symm, e3.symm⟩, fun _ => rfl⟩
    · rw [if_neg h, ih]
      refine ⟨fun ⟨p, h1, h2⟩ => ⟨p, by omega, h2⟩, fun ⟨p, h1, h2, h3, h4⟩ => ⟨p, ?_, h2, h3, h4⟩⟩
      rcases Nat.lt_or_ge p k with h5 | h5
      · exact h5
      · obtain rfl : p = k := by omega
        exact absurd (by rw [h2, h3, h4]) h
def inU (n m : Int) (inn : List Bool) (M0 : List Bool) : Nat → List Bool
  | 0 => M0
  | k + 1 => (inU n m inn M0 k).set (nVar n m 2 k 0 - 1).toNat (inn.getD k false)
theorem inU_len (n m : Int) (inn M0 : List Bool) : ∀ k, (inU n m inn M0 k).length = M0.length
  | 0 => rfl
  | k + 1 => by unfold inU; rw [List.length_set]; exact inU_len n m inn M0 k
theorem nName_2 {n m a : Int} (h : nOk n m) (h1 : 0 ≤ a) (h2 : a < n) : nName n m 2 a 0 := ⟨h, by decide, by decide, h1, h2, by decide, by simp [nB]⟩
theorem nName_3 {n m a b : Int} (h : nOk n m) (h1 : 0 ≤ a) (h2 : a ≤ n) (h3 : 0 ≤ b) (h4 : b < m) : nName n m 3 a b := ⟨h, by decide, by decide, h1, (by show a < n + 1; omega), h3, h4⟩
theorem inU_at (hok : nOk n m) {inn M0 : List Bool} (hM : M0.length = (nVars n m).toNat) {c a b : Int} (hnm : nName n m c a b) : ∀ k, k ≤ n → (inU n m inn M0 k).getD (nVar n m c a b - 1).toNat false = if c = 2 ∧ a < k then inn.getD a.toNat false else M0.getD (nVar n m c a b - 1).toNat false
  | 0, _ => by
    have := hnm.2.2.2.1
    rw [if_neg (by omega)]; rfl
  | k + 1, hk => by
    have hn2 := nName_2 (m := m) (a := k) hok (by omega) (by omega)
    have hp := nVar_pos hnm
    have hp2 := nVar_pos hn2
    have ih := inU_at hok (inn := inn) hM hnm k (by omega)
    show ((inU n m inn M0 k).set _ _).getD _ false = _
    rw [set_getD (by rw [inU_len, hM]; omega)]
    by_cases h : (nVar n m 2 k 0 - 1).toNat = (nVar n m c a b - 1).toNat
    · obtain ⟨e1, e2, e3⟩ := nVar_inj hn2 hnm (by omega)
      rw [if_pos h, if_pos ⟨e1.symm, by omega⟩, ← e2]; rfl
    · rw [if_neg h, ih]
      by_cases h2 : c = 2 ∧ a < k
      · rw [if_pos h2, if_pos ⟨h2.1, by omega⟩]
      · rw [if_neg h2]
        by_cases h3 : c = 2 ∧ a < (k + 1 : Nat)
        · obtain ⟨h4, h5⟩ := h3
          have h6 : a = k := by
            have : ¬ a < k := fun h => h2 ⟨h4, h⟩
            omega
          have h7 : b = 0 := by
            have hb := hnm.2.2.2.2.2
            rw [h4] at hb
            have : nB n m 2 = 1 := by simp [nB]
            omega
          exact absurd (by rw [h4, h6, h7]) h
        · rw [if_neg h3]
end
end Go.Proofs.YtcjnikkmjhagmaaGreatDoor
