import Derived.Test.YthgmjboldboclaaDoorRows
import Derived.Test.YthgmjboldboclaaDoorMgAA
import Derived.Deep.OwnRows
import Derived.Test.YthgmjboldboclaaDoorMgAV
import Derived.Test.YthgmjboldboclaaDoorMgAS
import Derived.BigGuardPart
import Derived.Handy
import Derived.Laws.EntriesVeiled
import Derived.Test.YthgmjboldboclaaDoorMgAU
import Derived.Laws.BitsAllLaws
import Derived.Laws.BitsLemmas
namespace Go.Proofs.YthgmjboldboclaaDoor
open Go.RowKit
set_option linter.unusedVariables false
def upTo {α : Type} (f : Nat → α) (z : α) (n k : Nat) : List α := (List.range n).map fun i => if i < k then f i else z
end Go.Proofs.YthgmjboldboclaaDoor
namespace Go.Proofs.YthgmjboldboclaaDoor
open Go.RowKit
set_option linter.unusedVariables false
set_option linter.unusedSimpArgs false
end Go.Proofs.YthgmjboldboclaaDoor
namespace Go.Proofs.YthgmjboldboclaaDoor
open Go.RowKit
set_option linter.unusedVariables false
set_option linter.unusedSimpArgs false
def TabAt (w : World) (p : Addr) (bs : List Bool) : Prop := ∃ a cap, w.cell? p = some (.slice a bs.length cap) ∧ BoolRow w a bs.length bs
theorem TabAt.later {w w' : World} {p : Addr} {bs : List Bool} (h : TabAt w p bs) (hb : Below w.heap.size w w') : TabAt w' p bs := by
  obtain ⟨a, cap, h1, h2⟩ := h
  exact ⟨a, cap, cell_later hb h1, h2.later hb⟩
theorem ret_ii {k : IntKind} {a b c d : Int} (h : a = b) (h' : c = d) : Ending.returned (.tuple #[.int k a, .int k c]) = .returned (.tuple #[.int k b, .int k d]) := by rw [h, h']
end Go.Proofs.YthgmjboldboclaaDoor
