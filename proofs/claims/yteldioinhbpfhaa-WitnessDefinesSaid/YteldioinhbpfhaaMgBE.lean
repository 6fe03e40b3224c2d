import Derived.Test.YteldioinhbpfhaaMgAT
import Derived.Test.YteldioinhbpfhaaMgBD
import Derived.Test.YteldioinhbpfhaaMgAQ
namespace Go.Proofs.Yteldioinhbpfhaa
open Go.RowKit
theorem wf_i29 {x : Int} (h : (Lit.int .i64 x).wf = true) : -9223372036854775808 ≤ x ∧ x ≤ 9223372036854775807 := bounds_i64 h
theorem okI_o29 {xs : List Pk} (h : okI (flatP xs)) (i : Nat) : -9223372036854775808 ≤ (pkAt xs i).o ∧ (pkAt xs i).o ≤ 9223372036854775807 := by
  have := h (i * 2)
  rwa [flatP_o] at this
theorem okI_s29 {xs : List Op5} (h : okI (flatO xs)) : okS xs := fun i => by
  have := h (i * 5 + 2)
  rwa [flatO_s] at this
theorem witnessOrder_walk (w : World) (x y z : Int) (wx : (Lit.int .i64 x).wf = true) (wy : (Lit.int .i64 y).wf = true) (wz : (Lit.int .i64 z).wf = true) (a : Option Addr) (len cap : Nat) (hs : StructRow w 4 a len cap) (a2 : Option Addr) (len2 cap2 : Nat) (hs2 : StructRow w 5 a2 len2 cap2) (a3 : Option Addr) (len3 cap3 : Nat) (hs3 : StructRow w 2 a3 len3 cap3) :
    Calls Try.prog 3 #[.agg #[.int .i64 x, .int .i64 y, .int .i64 z, .slice a len cap], .slice a2 len2 cap2, .slice a3 len3 cap3] w fun e w' => e = .returned (.bool true) ∧ Below w.heap.size w w' := by
  obtain ⟨xs, e1, _, r1⟩ := hs.rwsA
  obtain ⟨ys, e2, o2, r2⟩ := hs2.opsA
  obtain ⟨zs, e3, o3, r3⟩ := hs3.pksA
  have b1 := hs.2.1; have b2 := hs2.2.1; have b3 := hs3.2.1
  have c1 := hs.1; have c2 := hs2.1; have c3 := hs3.1
  unfold maxLen at b1 b2 b3
  exact law_of (SF.mono (pf_WitnessOrder ⟨x, y, z, xs⟩ ys zs ⟨wf_i29 wx, wf_i29 wy, wf_i29 wz⟩ (okI_s29 o2) (by show xs.length ≤ _; omega) (by omega) (by omega) (okI_o29 o3)) fun r H' h => h.1) w _ (RL.three (RL.obj r1) (.iv _ _ r2) (.iv _ _ r3))
theorem witnessDefines_walk (w : World) (x y z : Int) (wx : (Lit.int .i64 x).wf = true) (wy : (Lit.int .i64 y).wf = true) (wz : (Lit.int .i64 z).wf = true) (a : Option Addr) (len cap : Nat) (hs : StructRow w 4 a len cap) (a2 : Option Addr) (len2 cap2 : Nat) (hs2 : StructRow w 5 a2 len2 cap2) (a3 : Option Addr) (len3 cap3 : Nat) (hs3 : StructRow w 2 a3 len3 cap3) :
    Calls Try.prog 4 #[.agg #[.int .i64 x, .int .i64 y, .int .i64 z, .slice a len cap], .slice a2 len2 cap2, .slice a3 len3 cap3] w fun e w' => e = .returned (.bool true) ∧ Below w.heap.size w w' := by
  obtain ⟨xs, e1, _, r1⟩ := hs.rwsA
  obtain ⟨ys, e2, o2, r2⟩ := hs2.opsA
  obtain ⟨zs, e3, o3, r3⟩ := hs3.pksA
  have b1 := hs.2.1; have b2 := hs2.2.1; have b3 := hs3.2.1
  have c1 := hs.1; have c2 := hs2.1; have c3 := hs3.1
  unfold maxLen at b1 b2 b3
  exact law_of (SF.mono (pf_WitnessDefines ⟨x, y, z, xs⟩ ys zs ⟨wf_i29 wx, wf_i29 wy, wf_i29 wz⟩ (okI_s29 o2) (by show xs.length ≤ _; omega) (by omega) (by omega) (okI_o29 o3)) fun r H' h => h.1) w _ (RL.three (RL.obj r1) (.iv _ _ r2) (.iv _ _ r3))
end Go.Proofs.Yteldioinhbpfhaa
