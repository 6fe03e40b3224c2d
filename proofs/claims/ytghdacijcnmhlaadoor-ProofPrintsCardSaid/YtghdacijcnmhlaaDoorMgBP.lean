import Derived.Test.YtghdacijcnmhlaaDoorMgBO
namespace Go.Proofs.YtghdacijcnmhlaaDoor
open Go.RowKit
set_option linter.unusedVariables false
theorem proofPrints_walk (w : World) (hB : BaseAt fun b => w.heap[b]?) (a : Option Addr) (len cap : Nat) (hs : StepRow w a len cap) (a2 : Option Addr) (len2 cap2 : Nat) (hs2 : StepRow w a2 len2 cap2) (a3 : Option Addr) (len3 cap3 : Nat) (h : List Int) (hr : IntRow w a3 len3 h) (hf : Fits h) (hc : len3 ≤ cap3 ∧ cap3 ≤ maxLen ∧ (a3 = none → cap3 = 0)) :
    Calls Tryd.prog 4 #[.slice a len cap, .slice a2 len2 cap2, .slice a3 len3 cap3] w fun e w' => e = .returned (.bool true) ∧ Below w.heap.size w w' := by
  haveI := hB
  obtain ⟨xs, _, m1, r1⟩ := hs.steps
  obtain ⟨ys, _, m2, r2⟩ := hs2.steps
  have e := hr.1
  exact law_of (SF.mono (pf_ProofPrints xs ys h m1 m2 (by omega)) fun r H' h => h.1) w _ (RL.three (.iv _ _ r1) (.iv _ _ r2) (.iv _ _ (ri_ints hr hc.1 hc.2.1)))
end Go.Proofs.YtghdacijcnmhlaaDoor
