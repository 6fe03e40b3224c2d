import Derived.Test.YtcanlckenjndbaaMgBJ
import Derived.Test.YtcanlckenjndbaaMgAZ
namespace Go.Proofs.Ytcanlckenjndbaa
open Go.RowKit
set_option linter.unusedVariables false
theorem rupUnits_walk (w : World) (a2 : Option Addr) (len2 cap2 : Nat) (xss : List (List Int)) (hr2 : Rows2 w a2 len2 xss) (hfr : FitsR xss) (hcap2 : len2 ≤ cap2 ∧ cap2 ≤ maxLen ∧ (a2 = none → cap2 = 0))
    (a : Option Addr) (len cap : Nat) (c : List Int) (hr : IntRow w a len c) (hf : Fits c) (hcap : len ≤ cap ∧ cap ≤ maxLen ∧ (a = none → cap = 0)) :
    Calls Try.prog 5 #[.slice a2 len2 cap2, .slice a len cap] w fun e w' => e = .returned (.bool true) ∧ Below w.heap.size w w' := by
  have l1 := hr.1; have l2 := hr2.1
  have b1 := hcap.2.1; have b2 := hcap2.2.1
  unfold maxLen at b1 b2
  have e1 := hcap.1; have e2 := hcap2.1
  exact law_of (SF.mono (pf_RupUnits xss c (by omega) (by omega)) fun r H' h => h.1) w _ (RL.two (.iv _ _ (ri_rows hr2 hcap2.1 hcap2.2.1)) (.iv _ _ (ri_ints hr hcap.1 hcap.2.1)))
end Go.Proofs.Ytcanlckenjndbaa
