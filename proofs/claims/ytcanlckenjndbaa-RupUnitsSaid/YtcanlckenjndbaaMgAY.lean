import Derived.Test.YtcanlckenjndbaaMgAS
import Derived.Test.YtcanlckenjndbaaMgAW
import Derived.Test.YtcanlckenjndbaaMgAX
import Derived.Test.YtcanlckenjndbaaMgAJ
import Derived.Test.YtcanlckenjndbaaMgAA
namespace Go.Proofs.Ytcanlckenjndbaa
open Go.RowKit
theorem noImm3 (a b c : Value) : NoImm (.tup [lt a, lt b, lt c]) := .tup _ fun i x e => by
  rcases i with _ | _ | _ | i <;> simp at e <;> subst e <;> exact .lit _
theorem noImm2 (a b : Value) : NoImm (.tup [lt a, lt b]) := .tup _ fun i x e => by
  rcases i with _ | _ | i <;> simp at e <;> subst e <;> exact .lit _
theorem PF.saysN {P : Program} {f : FuncId} {args args1 : List AV} {H : AHeap} {x : AV} (hargs : SnapL H args args1) (hno : NoImm x) (hx : ∀ k, x.ren k = x) (h : PF P f args1 fun r H' => r = x ∧ H' = []) : SF P f args H fun r H1 => r = x ∧ H1 = H :=
  (h.snap hargs fun r H1 ⟨e1, e2⟩ => by
    subst e1 e2
    exact ⟨hno, fun o x e => by simp at e⟩).mono fun r H' ⟨r1, H1, ⟨e1, e2⟩, e3, e4⟩ => by subst e1 e2; exact ⟨by rw [e3, hx], by rw [e4]; simp [renH]⟩
theorem XRes_sayN {P : Program} {m : Nat} {Q : Exit → XS → Prop} {fr : List AV} {H : AHeap} {M : MS} {l : List Oper} {d : Option Tmp} {f : FuncId} {args : Array Operand} {tys : Array TypeId} {ty : TypeId} {pos : String} {after : Array Edge} {g : Option (Nat × Bool)}
    (hw : wantedS fr ⟨d, .call { callee := .value (.func f), args := args, argTypes := tys }, ty, pos, after, g⟩ = some true) {args1 : List AV} {x : AV} (hc : PF P f args1 fun r H' => r = x ∧ H' = []) (hargs : SnapL H (args.toList.map (AS.ev ⟨fr, H⟩)) args1) (hno : NoImm x) (hx : ∀ k, x.ren k = x)
    (h : XRes P m Q (l, ⟨putL fr d x, H, M⟩)) : XRes P m Q (⟨d, .call { callee := .value (.func f), args := args, argTypes := tys }, ty, pos, after, g⟩ :: l, ⟨fr, H, M⟩) :=
  XRes_fn hw (K := fun r H1 => r = x ∧ H1 = H) (by simpa using PF.saysN hargs hno hx hc) fun r H' ⟨e1, e2⟩ => by subst e1 e2; exact h
end Go.Proofs.Ytcanlckenjndbaa
namespace Go.Proofs.Ytcanlckenjndbaa
set_option linter.unusedVariables false
end Go.Proofs.Ytcanlckenjndbaa
namespace Go.Proofs.Ytcanlckenjndbaa
open Go.ChangeShapes Go.WideShapes Go.ChangeAt Go.RowKit
open Go.Deep (oneCellFields)
set_option linter.unusedVariables false
theorem ints_of_trod {P : Program} {H : Type} {enc : TypeId × Value → H} {W : World} {base : Nat} {sp : Nat → Bool} {held : Bool} {t e : TypeId} {u : Value} {n : Nat} {y : DataW H × List MemPlace}
    (ht : P.underlying t = some (.slice e)) (he : P.underlying e = some (.int .i64)) (hc : P.cellsOf e = 1) (h : DataW.trod enc P W base sp held n t [u] = some y) : ∃ xs, Ints W u xs ∧ Fits xs := by
  rcases open_ints ht he hc h with ⟨hcs, _⟩ | ⟨y, l, c, zs, hcs, _, hl, hm, hz, _, hcell, hwz⟩
  · simp only [List.cons.injEq, and_true] at hcs
    subst hcs
    exact ⟨[], Ints.nil W, fun x hx => by cases hx⟩
  · simp only [List.cons.injEq, and_true] at hcs
    subst hcs
    have hz' : l ≤ zs.length := by rw [hz]; split <;> omega
    refine ⟨zs.take l, ⟨_, l, c, rfl, hl, hm, by simp; omega, by omega, fun hp => ?_⟩, fun x hx => bounds_i64 (hwz x (List.mem_of_mem_take hx))⟩
    obtain ⟨b, off, spot⟩ := y
    have h0 := hcell 0 (by omega)
    have hspot : spot = none := by simpa [Addr.add] using World.cell?_spot h0
    subst hspot
    refine ⟨b, off, rfl, fun i hi => ?_⟩
    have h1 := hcell i (by omega)
    rw [show (zs.take l).getD i 0 = zs.getD i 0 by simp [List.getD, hi]]
    rw [← h1]
    by_cases h2 : i = 0 <;> simp [Addr.add, h2]
def FitsR (xss : List (List Int)) : Prop := ∀ xs ∈ xss, Fits xs
theorem rows_of_trod {P : Program} {H : Type} {enc : TypeId × Value → H} {W : World} {base : Nat} {sp : Nat → Bool} {held : Bool} {t e i : TypeId} {v : Value} {n : Nat} {y : DataW H × List MemPlace}
    (ht : P.underlying t = some (.slice e)) (he : P.underlying e = some (.slice i)) (hi : P.underlying i = some (.int .i64)) (hce : P.cellsOf e = 1) (hci : P.cellsOf i = 1) (h : DataW.trod enc P W base sp held n t [v] = some y) :
    ∃ a len cap xss, v = .slice a len cap ∧ Rows2 W a len xss ∧ FitsR xss ∧ len ≤ cap ∧ cap ≤ maxLen ∧ (a = none → cap = 0) := by
  rcases Go.Deep.open_slice1 ht hce h with ⟨hcs, _⟩ | ⟨y, l, c, m, n, V, D, Pl, hcs, _, hl, hm, hmm, _, hcell⟩
  · simp only [List.cons.injEq, and_true] at hcs
    subst hcs
    exact ⟨none, 0, 0, [], rfl, ⟨rfl, Nat.zero_le _, fun i hi => by omega⟩, (fun xs hx => by cases hx), Nat.le_refl _, Nat.zero_le _, fun _ => rfl⟩
  · simp only [List.cons.injEq, and_true] at hcs
    subst hcs
    have hz' : l ≤ m := by rw [hmm]; split <;> omega
    have hrow : ∀ k, k < l → ∃ xs, Ints W (V k) xs ∧ Fits xs := fun k hk => ints_of_trod he hi hci (hcell k (by omega)).2
    obtain ⟨g, hg⟩ := Go.Deep.choose_lt hrow
    refine ⟨some y, l, c, (List.range l).map g, rfl, ⟨by simp, by omega, fun k hk => ?_⟩, fun xs hx => ?_, hl, hm, fun h => by cases h⟩
    · obtain ⟨b, off, spot⟩ := y
      have h0 := (hcell k (by omega)).1
      have hspot : spot = none := by
        have h9 := (hcell 0 (by omega)).1
        simpa [Addr.add] using World.cell?_spot h9
      subst hspot
      refine ⟨b, off, V k, rfl, ?_, ?_⟩
      · rw [← h0]
        by_cases h2 : k = 0 <;> simp [Addr.add, h2]
      · rw [show ((List.range l).map g).getD k [] = g k by simp [List.getD, hk]]
        exact (hg k hk).1
    · obtain ⟨k, hk, rfl⟩ := List.mem_map.1 hx
      exact (hg k (List.mem_range.1 hk)).2
def FormulaArg (W : World) (v : Value) : Prop := ∃ (vars : Int) (a : Option Addr) (len cap : Nat) (xss : List (List Int)), v = .agg #[.int .i64 vars, .slice a len cap] ∧ (Lit.int .i64 vars).wf = true ∧ Rows2 W a len xss ∧ FitsR xss ∧ len ≤ cap ∧ cap ≤ maxLen ∧ (a = none → cap = 0)
end Go.Proofs.Ytcanlckenjndbaa
