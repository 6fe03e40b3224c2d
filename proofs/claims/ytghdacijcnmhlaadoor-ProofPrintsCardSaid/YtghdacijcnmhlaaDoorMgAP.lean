import Derived.Test.YtghdacijcnmhlaaDoorMgAO
import Derived.Test.YtghdacijcnmhlaaDoorRows
import Derived.WalkKit
import Derived.WalkSpells
import Derived.WalkLawsBesides
import Derived.BigGuardPart
import Derived.Handy
import Derived.Lib.Hide
import Derived.Test.YtghdacijcnmhlaaDoorMgAA
namespace Go.Proofs.YtghdacijcnmhlaaDoor
set_option linter.unusedVariables false
def aVal (l : List Int) (x : Int) : Int := if lvar x = 0 then 0 else if lhas l x = true then 1 else if lhas l (-x) = true then -1 else 0
def aIs (l : List Int) (v : Int) (x : Int) : Bool := decide (lvar x ≠ 0 ∧ aVal l x = v)
def aN (l c : List Int) (v : Int) : Nat := (c.filter (aIs l v)).length
def aCl (l c : List Int) : Int := if 0 < aN l c 1 then 1 else if 0 < aN l c 0 then 0 else -1
def aUnitOk (l c : List Int) : Bool := decide (aN l c 1 = 0 ∧ aN l c 0 = 1)
def aUnit (l c : List Int) : Int := if aUnitOk l c = true then (c.filter (aIs l 0)).headD 0 else 0
def aDup (l : List Int) : Prop := ¬ (l.map lvar).Nodup
instance (l : List Int) : Decidable (aDup l) := by unfold aDup; infer_instance
def aCheck (l : List Int) (vars : Int) : Int := if vars < 0 ∨ 100000 < vars then 2 else if (l.all fun x => lcheck x vars == 0) = false then 10 else if aDup l then 21 else 0
def aFull (l : List Int) (vars : Int) : Bool := decide ((l.length : Int) = vars ∧ aCheck l vars = 0)
def aModel (l : List Int) (vars : Int) : List Bool := if vars < 0 ∨ 100000 < vars then [] else (List.range vars.toNat).map fun i : Nat => lhas l ((i : Int) + 1)
def aFrom (m : List Bool) : List Int := if 100000 < m.length then [] else (List.range m.length).map fun i : Nat => lmake ((i : Int) + 1) (m.getD i false)
def aLit (x : Int) : Bool := decide (lvar x ≠ 0)
def aMany (c : List Int) : Nat := (c.filter aLit).length
end Go.Proofs.YtghdacijcnmhlaaDoor
namespace Go.Proofs.YtghdacijcnmhlaaDoor
set_option linter.unusedVariables false
def tOf (bs : List Bool) (x : Int) : Bool := decide (0 ≤ lindex x ∧ (lindex x).toNat < bs.length) && bs.getD (lindex x).toNat false
def Rep (bs : List Bool) (l : List Int) : Prop := ∀ x, lvar x ≠ 0 → tOf bs x = lhas l x
theorem lindex_nat {x : Int} (h : lvar x ≠ 0) : ∃ n : Nat, lindex x = (n : Int) ∧ n < 200000 := by
  have h1 := lindex_bd x
  have h2 := lvar_bd x
  have h3 := lvar_pos h
  have : 0 ≤ lindex x := by rw [h3]; split <;> omega
  exact ⟨(lindex x).toNat, by omega, by omega⟩
theorem tOf_at {bs : List Bool} {x : Int} {n : Nat} (hn : lindex x = (n : Int)) : tOf bs x = (decide (n < bs.length) && bs.getD n false) := by
  unfold tOf
  rw [hn]
  congr 1
  · rw [decide_eq_decide]; simp
theorem Rep.add {bs : List Bool} {l : List Int} (hr : Rep bs l) {x : Int} {n : Nat} (hv : lvar x ≠ 0) (hn : lindex x = (n : Int)) (hlt : n < bs.length) : Rep (bs.set n true) (l ++ [x]) := fun y hy => by
  obtain ⟨k, hk, _⟩ := lindex_nat hy
  have h0 := hr y hy
  rw [tOf_at hk] at h0
  rw [tOf_at hk, List.length_set, lhas_snoc, ← h0]
  by_cases h : y = x
  · subst h
    have : k = n := by omega
    subst this
    simp [List.getD, hlt]
  · have hne : k ≠ n := fun e => h (lindex_inj hy hv (by rw [hk, hn, e]))
    have h1 : (y == x) = false := by simpa using h
    rw [h1, Bool.or_false]
    simp [List.getD, Ne.symm hne]
theorem Rep.skip {bs : List Bool} {l : List Int} (hr : Rep bs l) {x : Int} (hv : lvar x = 0) : Rep bs (l ++ [x]) := fun y hy => by
  rw [lhas_snoc, hr y hy]
  have : (y == x) = false := by simpa using fun e : y = x => hy (e ▸ hv)
  rw [this, Bool.or_false]
end Go.Proofs.YtghdacijcnmhlaaDoor
namespace Go.Proofs.YtghdacijcnmhlaaDoor
set_option linter.unusedVariables false
def opens (l c : List Int) : List Int := c.filter (aIs l 0)
def tabUnit (l c : List Int) : Int := if 0 < aN l c 1 then 0 else if (opens l c).length = 1 then (opens l c).getLastD 0 else 0
end Go.Proofs.YtghdacijcnmhlaaDoor
namespace Go.Proofs.YtghdacijcnmhlaaDoor
open Go.RowKit
set_option linter.unusedVariables false
theorem ref_Split (l : Int) (w : World) : Calls Tryd.prog 64 #[.int .i64 l] w fun e w' => e = .returned (.tuple #[.int .i64 (lvar l), .bool (lside l)]) ∧ w' = w := by
  go_enter Tryd.func64, Tryd.ntmps64
  go_wp2
  all_goals (go_returns; refine ⟨ret_intb ?_ ?_, rfl⟩ <;> (try unfold lside) <;> unfold lvar <;> split <;> (try split) <;> (try omega) <;> (simp; try omega))
end Go.Proofs.YtghdacijcnmhlaaDoor
