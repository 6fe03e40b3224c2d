import Derived.Test.YtpamcgpdmphfhaaDoorMgBM
import Derived.Test.YtpamcgpdmphfhaaDoorMgBQ
namespace Go.Proofs.YtpamcgpdmphfhaaDoor
open Go.RowKit
set_option linter.unusedVariables false
theorem objtextPlaces_walk (w : World) (hB : BaseAt fun b => w.heap[b]?) (s : ByteArray) (hs : s.size ≤ maxLen) :
    Calls Tryd.prog 6 #[.string s] w fun e w' => e = .returned (.bool true) ∧ Below w.heap.size w w' :=
  haveI := hB
  law_of (SF.mono (pf_ObjtextPlaces s pf_awake24) fun r H' h => h.1) w _ (RL.one (.iv _ _ (.lit _)))
end Go.Proofs.YtpamcgpdmphfhaaDoor
