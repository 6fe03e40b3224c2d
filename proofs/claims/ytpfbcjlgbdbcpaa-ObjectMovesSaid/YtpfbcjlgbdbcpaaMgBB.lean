import Derived.Test.YtpfbcjlgbdbcpaaMgBA
namespace Go.Proofs.Ytpfbcjlgbdbcpaa
open Go.RowKit
set_option linter.unusedVariables false
theorem ra_arr2 (G : Gh) (x y : Int) : RA 0 G (.agg [lt (.int .i64 x), lt (.int .i64 y)]) (.agg #[.int .i64 x, .int .i64 y]) := .agg [lt (.int .i64 x), lt (.int .i64 y)] [.int .i64 x, .int .i64 y] rfl (RL.two (.iv _ _ (.lit _)) (.iv _ _ (.lit _))).2 rfl
theorem objectMoves_walk (w : World) (x y z : Int) (wx : (Lit.int .i64 x).wf = true) (wy : (Lit.int .i64 y).wf = true) (wz : (Lit.int .i64 z).wf = true) (a : Option Addr) (len cap : Nat) (hs : StructRow w 4 a len cap) (u v : Int) (wu : (Lit.int .i64 u).wf = true) (wv : (Lit.int .i64 v).wf = true) :
    Calls Try.prog 4 #[.agg #[.int .i64 x, .int .i64 y, .int .i64 z, .slice a len cap], .agg #[.int .i64 u, .int .i64 v]] w fun e w' => e = .returned (.bool true) ∧ Below w.heap.size w w' := by
  obtain ⟨xs, e1, _, r1⟩ := hs.rwsA
  have b1 := hs.2.1
  have c1 := hs.1
  unfold maxLen at b1
  exact law_of (SF.mono (pf_ObjectMoves ⟨x, y, z, xs⟩ u v ⟨wf_i23 wx, wf_i23 wy, wf_i23 wz⟩ (by show xs.length ≤ _; omega)) fun r H' h => h.1) w _ (RL.two (RL.obj r1) (ra_arr2 _ _ _))
end Go.Proofs.Ytpfbcjlgbdbcpaa
