import Derived.Test.YtcjnikkmjhagmaaGreatDoorMgAW
import Derived.Test.YtcjnikkmjhagmaaGreatDoorMgBQ
import Derived.Test.YtcjnikkmjhagmaaGreatDoorMgAT
namespace Go.Proofs.YtcjnikkmjhagmaaGreatDoor
open Go.RowKit
theorem wf_i {x : Int} (h : (Lit.int .i64 x).wf = true) : -9223372036854775808 ≤ x ∧ x ≤ 9223372036854775807 := bounds_i64 h
theorem encodeParts_walk (w : World) (x y z : Int) (wx : (Lit.int .i64 x).wf = true) (wy : (Lit.int .i64 y).wf = true) (wz : (Lit.int .i64 z).wf = true) (a : Option Addr) (len cap : Nat) (hs : StructRow w 4 a len cap) (a2 : Option Addr) (len2 cap2 : Nat) (hs2 : StructRow w 5 a2 len2 cap2) :
    Calls Tryz.prog 6 #[.agg #[.int .i64 x, .int .i64 y, .int .i64 z, .slice a len cap], .slice a2 len2 cap2] w fun e w' => e = .returned (.bool true) ∧ Below w.heap.size w w' := by
  obtain ⟨xs, e1, _, r1⟩ := hs.rwsA
  obtain ⟨ys, e2, o2, r2⟩ := hs2.opsA
  have b1 := hs.2.1; have b2 := hs2.2.1
  have c1 := hs.1; have c2 := hs2.1
  unfold maxLen at b1 b2
  exact law_of (SF.mono (pf_EncodeParts ⟨x, y, z, xs⟩ ys ⟨wf_i wx, wf_i wy, wf_i wz⟩ (by show xs.length ≤ _; omega) (by omega) (fun i => okI_s o2 i)) fun r H' h => h.1) w _ (RL.two (RL.obj r1) (.iv _ _ r2))
end Go.Proofs.YtcjnikkmjhagmaaGreatDoor
