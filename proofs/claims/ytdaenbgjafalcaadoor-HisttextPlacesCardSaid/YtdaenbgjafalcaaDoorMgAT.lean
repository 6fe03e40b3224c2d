import Derived.Test.YtdaenbgjafalcaaDoorMgAL
import Derived.Lib.ItoaLen
import Derived.Test.YtdaenbgjafalcaaDoorMgAQ
namespace Go.Proofs.YtdaenbgjafalcaaDoor
open Go.RowKit
theorem noImm2 (a b : Value) : NoImm (.tup [lt a, lt b]) := .tup _ fun i x e => by
  rcases i with _ | _ | i <;> simp at e <;> subst e <;> exact .lit _
theorem PF.saysN {P : Program} {f : FuncId} {args args1 : List AV} {H : AHeap} {x : AV} (hargs : SnapL H args args1) (hno : NoImm x) (hx : ∀ k, x.ren k = x) (h : PF P f args1 fun r H' => r = x ∧ H' = []) : SF P f args H fun r H1 => r = x ∧ H1 = H :=
  (h.snap hargs fun r H1 ⟨e1, e2⟩ => by
    subst e1 e2
    exact ⟨hno, fun o x e => by simp at e⟩).mono fun r H' ⟨r1, H1, ⟨e1, e2⟩, e3, e4⟩ => by subst e1 e2; exact ⟨by rw [e3, hx], by rw [e4]; simp [renH]⟩
theorem XRes_sayN {P : Program} {m : Nat} {Q : Exit → XS → Prop} {fr : List AV} {H : AHeap} {M : MS} {l : List Oper} {d : Option Tmp} {f : FuncId} {args : Array Operand} {tys : Array TypeId} {ty : TypeId} {pos : String} {after : Array Edge} {g : Option (Nat × Bool)}
    (hw : wantedS fr ⟨d, .call { callee := .value (.func f), args := args, argTypes := tys }, ty, pos, after, g⟩ = some true) {args1 : List AV} {x : AV} (hc : PF P f args1 fun r H' => r = x ∧ H' = []) (hargs : SnapL H (args.toList.map (AS.ev ⟨fr, H⟩)) args1) (hno : NoImm x) (hx : ∀ k, x.ren k = x)
    (h : XRes P m Q (l, ⟨putL fr d x, H, M⟩)) : XRes P m Q (⟨d, .call { callee := .value (.func f), args := args, argTypes := tys }, ty, pos, after, g⟩ :: l, ⟨fr, H, M⟩) :=
  XRes_fn hw (K := fun r H1 => r = x ∧ H1 = H) (by simpa using PF.saysN hargs hno hx hc) fun r H' ⟨e1, e2⟩ => by subst e1 e2; exact h
end Go.Proofs.YtdaenbgjafalcaaDoor
namespace Go.Proofs.YtdaenbgjafalcaaDoor
open Go.Lib
def litB (l : Int) : List UInt8 := itoa l ++ [32]
def clB (c : List Int) : List UInt8 := c.flatMap litB ++ [48, 10]
def headB (v c : Int) : List UInt8 := [112, 32, 99, 110, 102, 32] ++ itoa v ++ [32] ++ itoa c ++ [10]
def prB (v : Int) (xss : List (List Int)) : List UInt8 := headB v xss.length ++ xss.flatMap clB
theorem flat_step {α : Type} (f : α → List UInt8) (d : α) {xs : List α} {k : Nat} (h : k < xs.length) : (xs.take (k + 1)).flatMap f = (xs.take k).flatMap f ++ f (xs.getD k d) := by
  rw [List.take_add_one, List.getElem?_eq_getElem h, List.flatMap_append, List.getD_eq_getElem?_getD, List.getElem?_eq_getElem h]; simp
theorem flat_le {α : Type} (f : α → List UInt8) (xs : List α) (k : Nat) : ((xs.take k).flatMap f).length ≤ (xs.flatMap f).length := by
  have e : xs.flatMap f = (xs.take k).flatMap f ++ (xs.drop k).flatMap f := by rw [← List.flatMap_append, List.take_append_drop]
  rw [e, List.length_append]; omega
theorem flat_lt {α : Type} (f : α → List UInt8) (d : α) {xs : List α} {k : Nat} (h : k < xs.length) : ((xs.take k).flatMap f).length + (f (xs.getD k d)).length ≤ (xs.flatMap f).length := by
  have := flat_le f xs (k + 1)
  rw [flat_step f d h, List.length_append] at this
  exact this
theorem flat_mul {α : Type} (f : α → List UInt8) (n : Nat) {xs : List α} (h : ∀ x ∈ xs, (f x).length ≤ n) : (xs.flatMap f).length ≤ xs.length * n := by
  induction xs with
  | nil => simp
  | cons x xs ih =>
    rw [List.flatMap_cons, List.length_append, List.length_cons, Nat.add_mul]
    have := h x (by simp)
    have := ih fun y hy => h y (by simp [hy])
    omega
def Fit (x : Int) : Prop := -9223372036854775808 ≤ x ∧ x ≤ 9223372036854775807
end Go.Proofs.YtdaenbgjafalcaaDoor
namespace Go.Proofs.YtdaenbgjafalcaaDoor
set_option linter.unusedVariables false
def nbL (D : List Bool) : Nat → List Int
  | 0 => []
  | k + 1 => if D.getD k false = true then nbL D k ++ [(k : Int)] else nbL D k
def cF (D : List Bool) : Nat → Nat
  | 0 => 0
  | k + 1 => cF D k + (if D.getD k false = true then 0 else 1)
inductive obRe (o : Ob) : Int → Prop
  | init : obRe o o.I
  | step (i : Nat) : i < o.R.length → obRe o (rwAt o.R i).s → obRe o (rwAt o.R i).n
theorem obErr_zero {o : Ob} {i : Nat} (h : obErr o i = 0) : (0 ≤ (rwAt o.R i).s ∧ (rwAt o.R i).s < o.S) ∧ (0 ≤ (rwAt o.R i).n ∧ (rwAt o.R i).n < o.S) ∧ (0 ≤ (rwAt o.R i).k ∧ (rwAt o.R i).k < o.K) ∧ (0 ≤ (rwAt o.R i).r ∧ (rwAt o.R i).r ≤ 1000000) ∧ (0 < i → rises (rwAt o.R (i - 1)) (rwAt o.R i)) := by
  unfold obErr at h
  split at h
  · omega
  · rename_i h1
    split at h
    · omega
    · split at h
      · omega
      · rename_i h2 h3
        refine ⟨by omega, by omega, by omega, by omega, fun hi => ?_⟩
        split at h
        · omega
        · rename_i h4
          by_cases h5 : rises (rwAt o.R (i - 1)) (rwAt o.R i)
          · exact h5
          · exact absurd ⟨hi, h5⟩ h4
open Classical in
noncomputable def reD (o : Ob) : List Bool := (List.range o.S.toNat).map fun (s : Nat) => decide (obRe o (s : Int))
noncomputable def reL (o : Ob) : List Int := if obE o = 0 then nbL (reD o) o.S.toNat else []
def obDd (o : Ob) (l : List Int) (k : Int) : Prop := ∀ i, i < o.R.length → ¬ ((rwAt o.R i).k = k ∧ (rwAt o.R i).s ∈ l)
instance (o : Ob) (l : List Int) (k : Int) : Decidable (obDd o l k) := by unfold obDd; infer_instance
def deD (o : Ob) (l : List Int) : List Bool := (List.range o.K.toNat).map fun (k : Nat) => decide (obDd o l (k : Int))
noncomputable def deL (o : Ob) : List Int := if obE o = 0 then nbL (deD o (reL o)) o.K.toNat else []
end Go.Proofs.YtdaenbgjafalcaaDoor
