import Derived.Test.YtdaenbgjafalcaaDoorMgBU
import Derived.Test.YtdaenbgjafalcaaDoorMgBN
import Derived.Test.YtdaenbgjafalcaaDoorMgBT
import Derived.Test.YtdaenbgjafalcaaDoorMgAU
namespace Go.Proofs.YtdaenbgjafalcaaDoor
open Go.ChangeShapes Go.WideShapes Go.ChangeAt Go.RowKit
set_option linter.unusedVariables false
theorem flatE_len : ∀ xs : List Ev3, (flatE xs).length = xs.length * 3
  | [] => rfl
  | x :: xs => by
    have := flatE_len xs
    unfold flatE at this ⊢
    rw [List.flatMap_cons, List.length_append, this, List.length_cons]
    show 3 + xs.length * 3 = _
    omega
theorem evs_of_flat {ys : List Int} {len : Nat} (hl : ys.length = len * 3) : ∃ xs : List Ev3, xs.length = len ∧ flatE xs = ys := by
  refine ⟨(List.range len).map fun i => ⟨ys.getD (i * 3) 0, ys.getD (i * 3 + 1) 0, ys.getD (i * 3 + 2) 0⟩, by simp, list_of_getD (by rw [flatE_len]; simp [hl]) fun j hj => ?_⟩
  rw [flatE_len] at hj
  simp only [List.length_map, List.length_range] at hj
  have h1 : j / 3 < len := by omega
  have h2 : j % 3 < 3 := by omega
  have h3 := flatE_at h2 ((List.range len).map fun i => (⟨ys.getD (i * 3) 0, ys.getD (i * 3 + 1) 0, ys.getD (i * 3 + 2) 0⟩ : Ev3)) (j / 3)
  rw [show j / 3 * 3 + j % 3 = j by omega] at h3
  rw [h3]
  have h4 : evAt ((List.range len).map fun i => (⟨ys.getD (i * 3) 0, ys.getD (i * 3 + 1) 0, ys.getD (i * 3 + 2) 0⟩ : Ev3)) (j / 3) = ⟨ys.getD (j / 3 * 3) 0, ys.getD (j / 3 * 3 + 1) 0, ys.getD (j / 3 * 3 + 2) 0⟩ := by
    unfold evAt; rw [List.getD_eq_getElem?_getD]; simp only [List.getElem?_map, List.getElem?_range h1, Option.map_some, Option.getD_some]
  rw [h4]
  have h5 : j % 3 = 0 ∨ j % 3 = 1 ∨ j % 3 = 2 := by omega
  rcases h5 with h | h | h <;> rw [h] <;> simp only [eFl, List.getD_cons_zero, List.getD_cons_succ] <;> exact congrArg (fun z => ys.getD z 0) (by omega)
theorem StructRow.evsA {w : World} {a : Option Addr} {len cap : Nat} (h : StructRow w 3 a len cap) : ∃ xs : List Ev3, xs.length = len ∧ okI (flatE xs) ∧ RI (fun b => w.heap[b]?) (.sl (fun j => .lit (.int .i64 ((flatE xs).getD j 0))) xs.length 3) (.slice a len cap) := by
  obtain ⟨ys, h1, h2, h3⟩ := h.flat (by decide)
  obtain ⟨xs, rfl, rfl⟩ := evs_of_flat h1
  exact ⟨xs, rfl, h2, h3⟩
end Go.Proofs.YtdaenbgjafalcaaDoor
namespace Go.Proofs.YtdaenbgjafalcaaDoor
open Go.RowKit
set_option linter.unusedVariables false
theorem wf_h26 {x : Int} (h : (Lit.int .i64 x).wf = true) : -9223372036854775808 ≤ x ∧ x ≤ 9223372036854775807 := bounds_i64 h
theorem evLo_of {xs : List Ev3} (h : okI (flatE xs)) : ∀ i, -9223372036854775808 ≤ (evAt xs i).n := fun i => by
  have h2 := h (i * 3 + 2)
  rw [flatE_n] at h2
  exact h2.1
theorem histtextReads_walk (w : World) (hB : BaseAt fun b => w.heap[b]?) (s : ByteArray) (hs : s.size ≤ maxLen) :
    Calls Tryd.prog 3 #[.string s] w fun e w' => e = .returned (.bool true) ∧ Below w.heap.size w w' :=
  haveI := hB
  law_of (SF.mono (pf_HisttextReads s pf_awake26) fun r H' h => h.1) w _ (RL.one (.iv _ _ (.lit _)))
theorem histtextPrints_walk (w : World) (hB : BaseAt fun b => w.heap[b]?) (x y z : Int) (wx : (Lit.int .i64 x).wf = true) (wy : (Lit.int .i64 y).wf = true) (wz : (Lit.int .i64 z).wf = true) (a : Option Addr) (len cap : Nat) (hs : StructRow w 4 a len cap) (a2 : Option Addr) (len2 cap2 : Nat) (hs2 : StructRow w 3 a2 len2 cap2) :
    Calls Tryd.prog 4 #[.agg #[.int .i64 x, .int .i64 y, .int .i64 z, .slice a len cap], .slice a2 len2 cap2] w fun e w' => e = .returned (.bool true) ∧ Below w.heap.size w w' := by
  haveI := hB
  obtain ⟨xs, e1, _, r1⟩ := hs.rwsA
  obtain ⟨ys, e2, o2, r2⟩ := hs2.evsA
  have b1 := hs.2.1; have b2 := hs2.2.1
  have c1 := hs.1; have c2 := hs2.1
  unfold maxLen at b1 b2
  exact law_of (SF.mono (pf_HisttextPrints ⟨x, y, z, xs⟩ ys ⟨wf_h26 wx, wf_h26 wy, wf_h26 wz⟩ (by show xs.length ≤ _; omega) (by omega) (evLo_of o2) pf_awake26) fun r H' h => h.1) w _ (RL.two (RL.obj r1) (.iv _ _ r2))
theorem histtextBack_walk (w : World) (hB : BaseAt fun b => w.heap[b]?) (x y z : Int) (wx : (Lit.int .i64 x).wf = true) (wy : (Lit.int .i64 y).wf = true) (wz : (Lit.int .i64 z).wf = true) (a : Option Addr) (len cap : Nat) (hs : StructRow w 4 a len cap) (a2 : Option Addr) (len2 cap2 : Nat) (hs2 : StructRow w 3 a2 len2 cap2) (s : ByteArray) (hl : s.size ≤ maxLen) :
    Calls Tryd.prog 5 #[.agg #[.int .i64 x, .int .i64 y, .int .i64 z, .slice a len cap], .slice a2 len2 cap2, .string s] w fun e w' => e = .returned (.bool true) ∧ Below w.heap.size w w' := by
  haveI := hB
  obtain ⟨xs, e1, _, r1⟩ := hs.rwsA
  obtain ⟨ys, e2, o2, r2⟩ := hs2.evsA
  have b1 := hs.2.1; have b2 := hs2.2.1
  have c1 := hs.1; have c2 := hs2.1
  unfold maxLen at b1 b2
  exact law_of (SF.mono (pf_HisttextBack ⟨x, y, z, xs⟩ ys s ⟨wf_h26 wx, wf_h26 wy, wf_h26 wz⟩ (by show xs.length ≤ _; omega) (by omega) (evLo_of o2) pf_awake26) fun r H' h => h.1) w _ (RL.three (RL.obj r1) (.iv _ _ r2) (.iv _ _ (.lit _)))
end Go.Proofs.YtdaenbgjafalcaaDoor
