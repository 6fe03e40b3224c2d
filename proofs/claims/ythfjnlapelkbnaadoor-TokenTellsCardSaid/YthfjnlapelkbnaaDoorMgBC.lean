import Derived.Test.YthfjnlapelkbnaaDoorMgBB
namespace Go.Proofs.YthfjnlapelkbnaaDoor
open Go.RowKit
set_option linter.unusedVariables false
theorem tokenTells_walk (w : World) (hB : BaseAt fun b => w.heap[b]?) (s : ByteArray) (hs : s.size ≤ maxLen) :
    Calls Tryd.prog 3 #[.string s] w fun e w' => e = .returned (.bool true) ∧ Below w.heap.size w w' :=
  haveI := hB
  law_of (SF.mono (pf_TokenTells s) fun r H' h => h.1) w _ (RL.cons (.iv _ _ (.lit _)) (RL.nil _ _))
end Go.Proofs.YthfjnlapelkbnaaDoor
