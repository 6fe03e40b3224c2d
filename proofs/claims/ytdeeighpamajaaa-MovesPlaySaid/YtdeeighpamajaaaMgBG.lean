import Derived.Test.YtdeeighpamajaaaMgBB
import Derived.Test.YtdeeighpamajaaaMgBF
namespace Go.Proofs.Ytdeeighpamajaaa
open Go.RowKit
theorem RL.mcaseP {G : Gh} {n : Nat} {a a2 a3 : Option Addr} {l c l2 c2 l3 c3 : Nat} {xs ys : List Int} {bs : List Bool} (h : RI G.fz (iInts xs) (.slice a l c)) (k : RI G.fz (iBools bs) (.slice a2 l2 c2)) (m : RI G.fz (iInts ys) (.slice a3 l3 c3)) : RA n G (mcA xs bs ys) (.agg #[.slice a l c, .slice a2 l2 c2, .slice a3 l3 c3]) :=
  .agg [_, _, _] [_, _, _] rfl (RL.cons (.iv _ _ h) (RL.cons (.iv _ _ k) (RL.cons (.iv _ _ m) (RL.nil _ _)))).2 rfl
theorem movesPlay_walk (w : World) (x y z : Int) (wx : (Lit.int .i64 x).wf = true) (wy : (Lit.int .i64 y).wf = true) (wz : (Lit.int .i64 z).wf = true) (a : Option Addr) (len cap : Nat) (hs : StructRow w 4 a len cap) (a2 : Option Addr) (len2 cap2 : Nat) (hs2 : StructRow w 5 a2 len2 cap2) (b : Option Addr) (l c : Nat) (us : List Int) (b2 : Option Addr) (l2 c2 : Nat) (bs : List Bool) (b3 : Option Addr) (l3 c3 : Nat) (vs : List Int)
    (h1 : IntRow w b l us ∧ l ≤ c ∧ c ≤ maxLen) (h2 : BoolRow w b2 l2 bs ∧ l2 ≤ c2 ∧ c2 ≤ maxLen) (h3 : IntRow w b3 l3 vs ∧ l3 ≤ c3 ∧ c3 ≤ maxLen) :
    Calls Try.prog 5 #[.agg #[.int .i64 x, .int .i64 y, .int .i64 z, .slice a len cap], .slice a2 len2 cap2, .agg #[.slice b l c, .slice b2 l2 c2, .slice b3 l3 c3]] w fun e w' => e = .returned (.bool true) ∧ Below w.heap.size w w' := by
  obtain ⟨xs, e1, _, r1⟩ := hs.rwsA
  obtain ⟨ys, e2, o2, r2⟩ := hs2.opsA
  have b1 := hs.2.1; have b2 := hs2.2.1
  have c1 := hs.1; have c2 := hs2.1
  obtain ⟨g1, g2, g3⟩ := h1
  obtain ⟨k1, k2, k3⟩ := h2
  obtain ⟨m1, m2, m3⟩ := h3
  have q1 := g1.1; have q2 := k1.1; have q3 := m1.1
  have r3 := ri_ints g1 g2 g3
  have r4 := ri_bools k1 k2 k3
  have r5 := ri_ints m1 m2 m3
  unfold maxLen at b1 b2 g3 k3 m3
  exact law_of (SF.mono (pf_MovesPlay ⟨x, y, z, xs⟩ ys us bs vs ⟨wf_i wx, wf_i wy, wf_i wz⟩ (by show xs.length ≤ _; omega) (by omega) (fun i => okI_s o2 i) (by omega) (by omega) (by omega)) fun r H' h => h.1) w _ (RL.three (RL.obj r1) (.iv _ _ r2) (RL.mcaseP r3 r4 r5))
end Go.Proofs.Ytdeeighpamajaaa
