import Derived.Test.YthfjnlapelkbnaaDoorMgAX
import Derived.Test.YthfjnlapelkbnaaDoorMgAP
namespace Go.Proofs.YthfjnlapelkbnaaDoor
open Go.RowKit
set_option linter.unusedVariables false
theorem tokenCounts_walk (w : World) (hB : BaseAt fun b => w.heap[b]?) (s : ByteArray) (hs : s.size ≤ maxLen) (u : Int) (wu : (Lit.int .i64 u).wf = true) (v : Int) (wv : (Lit.int .i64 v).wf = true) :
    Calls Tryd.prog 4 #[.string s, .int .i64 u, .int .i64 v] w fun e w' => e = .returned (.bool true) ∧ Below w.heap.size w w' :=
  haveI := hB
  law_of (SF.mono (pf_TokenCounts s u v (wf_i05 wu).1 (wf_i05 wu).2 (wf_i05 wv).1 (wf_i05 wv).2) fun r H' h => h.1) w _ (RL.cons (.iv _ _ (.lit _)) (RL.cons (.iv _ _ (.lit _)) (RL.cons (.iv _ _ (.lit _)) (RL.nil _ _))))
end Go.Proofs.YthfjnlapelkbnaaDoor
