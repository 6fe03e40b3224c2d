import Derived.Test.YtghdacijcnmhlaaDoorRows
import Derived.Test.YtghdacijcnmhlaaDoorMgAA
import Derived.Deep.OwnRows
import Derived.Test.YtghdacijcnmhlaaDoorMgAQ
import Derived.BigGuardPart
import Derived.Handy
import Derived.Laws.EntriesVeiled
import Derived.Test.YtghdacijcnmhlaaDoorMgAP
import Derived.Laws.BitsAllLaws
import Derived.Laws.BitsLemmas
import Derived.StillTactics
import Derived.OwnWalk
import Derived.Laws.Pointers
namespace Go.Proofs.YtghdacijcnmhlaaDoor
open Go.RowKit
set_option linter.unusedVariables false
def upTo {α : Type} (f : Nat → α) (z : α) (n k : Nat) : List α := (List.range n).map fun i => if i < k then f i else z
end Go.Proofs.YtghdacijcnmhlaaDoor
namespace Go.Proofs.YtghdacijcnmhlaaDoor
open Go.RowKit
set_option linter.unusedVariables false
set_option linter.unusedSimpArgs false
end Go.Proofs.YtghdacijcnmhlaaDoor
namespace Go.Proofs.YtghdacijcnmhlaaDoor
open Go.RowKit
set_option linter.unusedVariables false
set_option linter.unusedSimpArgs false
def TabAt (w : World) (p : Addr) (bs : List Bool) : Prop := ∃ a cap, w.cell? p = some (.slice a bs.length cap) ∧ BoolRow w a bs.length bs
theorem TabAt.later {w w' : World} {p : Addr} {bs : List Bool} (h : TabAt w p bs) (hb : Below w.heap.size w w') : TabAt w' p bs := by
  obtain ⟨a, cap, h1, h2⟩ := h
  exact ⟨a, cap, cell_later hb h1, h2.later hb⟩
end Go.Proofs.YtghdacijcnmhlaaDoor
namespace Go.Proofs.YtghdacijcnmhlaaDoor
open Go.RowKit
set_option linter.unusedVariables false
set_option linter.unusedSimpArgs false
def OfPost (l : List Int) (w : World) (e : Ending) (w' : World) : Prop := ∃ (T : Nat) (bs : List Bool), e = .returned (.pointer (some ⟨T, 0, none⟩)) ∧ w.heap.size ≤ T ∧ TabAt w' ⟨T, 0, none⟩ bs ∧ Rep bs l ∧ Below w.heap.size w w'
end Go.Proofs.YtghdacijcnmhlaaDoor
