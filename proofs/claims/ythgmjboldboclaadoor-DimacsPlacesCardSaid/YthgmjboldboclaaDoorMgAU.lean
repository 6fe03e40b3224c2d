import Derived.Test.YthgmjboldboclaaDoorMgAS
import Derived.Test.YthgmjboldboclaaDoorMgAT
namespace Go.Proofs.YthgmjboldboclaaDoor
set_option linter.unusedVariables false
def Rising (xs : List Int) : Prop := xs.Pairwise fun a b => lindex a < lindex b
def cPut (out : List Int) (x : Int) : List Int := out.takeWhile (fun y => decide (lindex y < lindex x)) ++ (x :: out.dropWhile (fun y => decide (lindex y < lindex x)))
def cStep (out : List Int) (x : Int) : List Int := if lvar x = 0 ∨ lhas out x = true then out else cPut out x
def cNorm (c : List Int) : List Int := c.foldl cStep []
def cHas (c : List Int) (l : Int) : Bool := decide (lvar l ≠ 0) && lhas c l
def cTaut (c : List Int) : Bool := c.any fun x => cHas c x && cHas c (-x)
def cSub (a b : List Int) : Bool := a.all fun x => decide (lvar x = 0) || lhas b x
def cWithout (c : List Int) (l : Int) : List Int := (cNorm c).filter (· != l)
def cCheck (c : List Int) (vars : Int) : Int := if vars < 0 ∨ 100000 < vars then 2 else if 1000 < c.length then 3 else if (c.all fun x => lcheck x vars == 0) = false then 10 else if c.Nodup then 0 else 21
def cResE (a b : List Int) (l : Int) : Int := if lvar l = 0 then 10 else if (cHas a l && cHas b (-l)) = false then 11 else 0
def cRes (a b : List Int) (l : Int) : List Int := if cResE a b l = 0 then cNorm (cWithout a l ++ cWithout b (-l)) else []
theorem lvar_pos {x : Int} (h : lvar x ≠ 0) : lindex x = if x < 0 then 2 * lvar x - 1 else 2 * lvar x - 2 := by unfold lindex; rw [if_neg h]
theorem lindex_inj {x y : Int} (hx : lvar x ≠ 0) (hy : lvar y ≠ 0) (h : lindex x = lindex y) : x = y := by
  rw [← lfrom_index hx, ← lfrom_index hy, h]
theorem lhas_mem (l : List Int) (x : Int) : lhas l x = true ↔ x ∈ l := by unfold lhas; rw [List.contains_iff_mem]
theorem has_iff (c : List Int) (l : Int) : cHas c l = true ↔ (lvar l ≠ 0 ∧ l ∈ c) := by unfold cHas; rw [Bool.and_eq_true, decide_eq_true_eq, lhas_mem]
theorem taut_iff (c : List Int) : cTaut c = true ↔ ∃ x, lvar x ≠ 0 ∧ x ∈ c ∧ -x ∈ c := by
  unfold cTaut
  rw [List.any_eq_true]
  constructor
  · rintro ⟨x, hx, h⟩
    rw [Bool.and_eq_true, has_iff, has_iff] at h
    exact ⟨x, h.1.1, hx, h.2.2⟩
  · rintro ⟨x, h1, h2, h3⟩
    refine ⟨x, h2, ?_⟩
    rw [Bool.and_eq_true, has_iff, has_iff]
    exact ⟨⟨h1, h2⟩, by unfold lvar at h1 ⊢; repeat' split at h1 <;> repeat' split <;> omega, h3⟩
end Go.Proofs.YthgmjboldboclaaDoor
namespace Go.Proofs.YthgmjboldboclaaDoor
set_option linter.unusedVariables false
def tOf (bs : List Bool) (x : Int) : Bool := decide (0 ≤ lindex x ∧ (lindex x).toNat < bs.length) && bs.getD (lindex x).toNat false
def Rep (bs : List Bool) (l : List Int) : Prop := ∀ x, lvar x ≠ 0 → tOf bs x = lhas l x
theorem lindex_nat {x : Int} (h : lvar x ≠ 0) : ∃ n : Nat, lindex x = (n : Int) ∧ n < 200000 := by
  have h1 := lindex_bd x
  have h2 := lvar_bd x
  have h3 := lvar_pos h
  have : 0 ≤ lindex x := by rw [h3]; split <;> omega
  exact ⟨(lindex x).toNat, by omega, by omega⟩
theorem tOf_at {bs : List Bool} {x : Int} {n : Nat} (hn : lindex x = (n : Int)) : tOf bs x = (decide (n < bs.length) && bs.getD n false) := by
  unfold tOf
  rw [hn]
  congr 1
  · rw [decide_eq_decide]; simp
theorem Rep.add {bs : List Bool} {l : List Int} (hr : Rep bs l) {x : Int} {n : Nat} (hv : lvar x ≠ 0) (hn : lindex x = (n : Int)) (hlt : n < bs.length) : Rep (bs.set n true) (l ++ [x]) := fun y hy => by
  obtain ⟨k, hk, _⟩ := lindex_nat hy
  have h0 := hr y hy
  rw [tOf_at hk] at h0
  rw [tOf_at hk, List.length_set, lhas_snoc, ← h0]
  by_cases h : y = x
  · subst h
    have : k = n := by omega
    subst this
    simp [List.getD, hlt]
  · have hne : k ≠ n := fun e => h (lindex_inj hy hv (by rw [hk, hn, e]))
    have h1 : (y == x) = false := by simpa using h
    rw [h1, Bool.or_false]
    simp [List.getD, Ne.symm hne]
theorem Rep.skip {bs : List Bool} {l : List Int} (hr : Rep bs l) {x : Int} (hv : lvar x = 0) : Rep bs (l ++ [x]) := fun y hy => by
  rw [lhas_snoc, hr y hy]
  have : (y == x) = false := by simpa using fun e : y = x => hy (e ▸ hv)
  rw [this, Bool.or_false]
end Go.Proofs.YthgmjboldboclaaDoor
namespace Go.Proofs.YthgmjboldboclaaDoor
set_option linter.unusedVariables false
def opens (l c : List Int) : List Int := c.filter (aIs l 0)
def tabUnit (l c : List Int) : Int := if 0 < aN l c 1 then 0 else if (opens l c).length = 1 then (opens l c).getLastD 0 else 0
end Go.Proofs.YthgmjboldboclaaDoor
