import Derived.Test.YtfpmfjmjnmjcdaaMgAA
import Derived.Test.YtfpmfjmjnmjcdaaMgAB
import Derived.Test.YtfpmfjmjnmjcdaaMgAR
import Derived.Test.YtfpmfjmjnmjcdaaMgBD
namespace Go.Proofs.Ytfpmfjmjnmjcdaa
open Go.RowKit
set_option linter.unusedVariables false
theorem wf_i13 {x : Int} (h : (Lit.int .i64 x).wf = true) : -9223372036854775808 ≤ x ∧ x ≤ 9223372036854775807 := bounds_i64 h
theorem trailPlays_walk (w : World) (x : Int) (wx : (Lit.int .i64 x).wf = true) (a : Option Addr) (len cap : Nat) (hs : StructRow w 3 a len cap) (y : Int) (wy : (Lit.int .i64 y).wf = true) :
    Calls Try.prog 3 #[.int .i64 x, .slice a len cap, .int .i64 y] w fun e w' => e = .returned (.bool true) ∧ Below w.heap.size w w' := by
  obtain ⟨us, h1, h2, h3⟩ := hs.flat (by decide)
  have b1 := hs.2.1; have c1 := hs.1
  unfold maxLen at b1
  exact law_of (SF.mono (pf_TrailPlays x us len y (wf_i13 wx) (wf_i13 wy) (by omega) h1 h2) fun r H' h => h.1) w _ (RL.three (.iv _ _ (.lit _)) (.iv _ _ h3) (.iv _ _ (.lit _)))
end Go.Proofs.Ytfpmfjmjnmjcdaa
