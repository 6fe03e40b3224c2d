/- Arguments that are slices of operations, opened. -/
import Derived.Test.YthfcbjfeepindaaLiftS
import Derived.Test.YthfcbjfeepindaaOpe
namespace Go.Proofs.Ythfcbjfeepindaa
open Go.ChangeShapes Go.WideShapes Go.ChangeAt Go.RowKit
set_option linter.unusedVariables false

theorem StructRow.ops {w : World} {a : Option Addr} {len cap : Nat} (h : StructRow w 5 a len cap) (hl : len ≤ 5000) : ∃ xs, OpRow w a len xs := by
  rcases Nat.eq_zero_or_pos len with h0 | h0
  · subst h0
    exact ⟨[], rfl, Nat.zero_le _, fun h => by omega⟩
  · obtain ⟨b, off, ha, hc⟩ := h.2.2.2 h0
    have hx : ∀ i, i < len → ∃ x : Op5, OpAt w b (off + i * 5) x := fun i hi => by
      obtain ⟨g, hg⟩ := hc i hi
      exact ⟨⟨g 0, g 1, g 2, g 3, g 4⟩, (hg 0 (by omega)).1, (hg 1 (by omega)).1, (hg 2 (by omega)).1, (hg 3 (by omega)).1, (hg 4 (by omega)).1⟩
    haveI : Inhabited Op5 := ⟨⟨0, 0, 0, 0, 0⟩⟩
    obtain ⟨f, hf⟩ := Go.Deep.choose_lt hx
    refine ⟨(List.range len).map f, by simp, by unfold maxLen; omega, fun _ => ⟨b, off, ha, fun i hi => ?_⟩⟩
    rw [show oAt ((List.range len).map f) i = f i by simp [oAt, List.getD, hi]]
    exact hf i hi
end Go.Proofs.Ythfcbjfeepindaa
