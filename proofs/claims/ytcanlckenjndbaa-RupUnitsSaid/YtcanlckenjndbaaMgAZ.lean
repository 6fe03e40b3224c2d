import Derived.Test.YtcanlckenjndbaaMgAY
namespace Go.Proofs.Ytcanlckenjndbaa
open Go.ChangeShapes Go.WideShapes Go.ChangeAt Go.RowKit
set_option linter.unusedVariables false
theorem open_rows {P : Program} {H : Type} {enc : TypeId × Value → H} {W : World} {base : Nat} {sp : Nat → Bool} {held : Bool} {t e i : TypeId} {a : Option Addr} {len cap : Nat} {d : DataW H} {pl : List MemPlace}
    (ht : P.underlying t = some (.slice e)) (he : P.underlying e = some (.slice i)) (hi : P.underlying i = some (.int .i64)) (hce : P.cellsOf e = 1) (hci : P.cellsOf i = 1) (h : DataW.Trod enc P W base sp held t (.slice a len cap) d pl) :
    ∃ xss, Rows2 W a len xss ∧ FitsR xss ∧ len ≤ cap ∧ cap ≤ maxLen ∧ (a = none → cap = 0) := by
  obtain ⟨fuel, hf⟩ := h
  obtain ⟨a1, l1, c1, xss, e1, h1⟩ := rows_of_trod ht he hi hce hci hf
  simp only [Value.slice.injEq] at e1
  obtain ⟨rfl, rfl, rfl⟩ := e1
  exact ⟨xss, h1⟩
end Go.Proofs.Ytcanlckenjndbaa
