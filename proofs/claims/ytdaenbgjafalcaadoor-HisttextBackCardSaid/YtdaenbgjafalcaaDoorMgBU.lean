import Derived.Test.YtdaenbgjafalcaaDoorMgAU
import Derived.Test.YtdaenbgjafalcaaDoorMgAH
import Derived.Test.YtdaenbgjafalcaaDoorMgAW
import Derived.Test.YtdaenbgjafalcaaDoorMgBC
import Derived.Test.YtdaenbgjafalcaaDoorMgBD
namespace Go.Proofs.YtdaenbgjafalcaaDoor
open Go.ChangeShapes Go.WideShapes Go.ChangeAt Go.RowKit
set_option linter.unusedVariables false
theorem list_of_getD {xs ys : List Int} (hl : xs.length = ys.length) (h : ∀ j, j < xs.length → xs.getD j 0 = ys.getD j 0) : xs = ys := by
  refine List.ext_getElem hl fun i h1 h2 => ?_
  have := h i h1
  simpa [List.getD, h1, h2] using this
def okI (ys : List Int) : Prop := ∀ j, -9223372036854775808 ≤ ys.getD j 0 ∧ ys.getD j 0 ≤ 9223372036854775807
theorem StructRow.flat {w : World} {a : Option Addr} {k len cap : Nat} (hk : 0 < k) (h : StructRow w k a len cap) : ∃ ys : List Int, ys.length = len * k ∧ okI ys ∧ RI (fun b => w.heap[b]?) (iFlat ys len k) (.slice a len cap) := by
  rcases Nat.eq_zero_or_pos len with h0 | h0
  · subst h0
    refine ⟨[], by simp, fun j => by simp, ?_⟩
    unfold iFlat
    cases a with
    | none => exact .nil _ _ _ h.2.1
    | some ad => exact .empty _ _ _ _ h.2.1
  · obtain ⟨b, off, ha, hc⟩ := h.2.2.2 h0
    subst ha
    have hx : ∀ j, j < len * k → ∃ z : Int, w.cell? ⟨b, off + j, none⟩ = some (.int .i64 z) ∧ -9223372036854775808 ≤ z ∧ z ≤ 9223372036854775807 := fun j hj => by
      have h1 : j / k < len := (Nat.div_lt_iff_lt_mul hk).2 hj
      have h2 : j % k < k := Nat.mod_lt _ hk
      obtain ⟨g, hg⟩ := hc (j / k) h1
      have h3 := hg (j % k) h2
      have h4 : off + j / k * k + j % k = off + j := by rw [Nat.add_assoc, Nat.div_add_mod']
      rw [h4] at h3
      exact ⟨_, h3⟩
    obtain ⟨f, hf⟩ := Go.Deep.choose_lt hx
    have hg : ∀ j, j < len * k → ((List.range (len * k)).map f).getD j 0 = f j := fun j hj => by simp [List.getD, hj]
    have h00 : 0 < len * k := Nat.mul_pos h0 hk
    obtain ⟨cs, t, fr, hb, _⟩ := cells_of_cell (hf 0 h00).1
    refine ⟨(List.range (len * k)).map f, by simp, fun j => ?_, ?_⟩
    · rcases Nat.lt_or_ge j (len * k) with hj | hj
      · rw [hg j hj]; exact (hf j hj).2
      · rw [List.getD_eq_getElem?_getD, List.getElem?_eq_none (by simpa using hj)]; simp
    · unfold iFlat
      refine .sl _ _ _ b off cap cs t fr (fun j => .int .i64 (((List.range (len * k)).map f).getD j 0)) hb (fun j hj => ?_) (fun j _ => .lit _) h.1 h.2.1
      have := (hf j hj).1
      rw [cell_of_heap hb] at this
      rw [hg j hj]; exact this
end Go.Proofs.YtdaenbgjafalcaaDoor
namespace Go.Proofs.YtdaenbgjafalcaaDoor
open Go.ChangeShapes Go.WideShapes Go.ChangeAt Go.RowKit
set_option linter.unusedVariables false
end Go.Proofs.YtdaenbgjafalcaaDoor
namespace Go.Proofs.YtdaenbgjafalcaaDoor
open Go.ChangeShapes Go.WideShapes Go.ChangeAt Go.RowKit
set_option linter.unusedVariables false
theorem rws_of_flat {ys : List Int} {len : Nat} (hl : ys.length = len * 4) : ∃ xs : List Rw, xs.length = len ∧ flatR xs = ys := by
  refine ⟨(List.range len).map fun i => ⟨ys.getD (i * 4) 0, ys.getD (i * 4 + 1) 0, ys.getD (i * 4 + 2) 0, ys.getD (i * 4 + 3) 0⟩, by simp, list_of_getD (by rw [flatR_len]; simp [hl]) fun j hj => ?_⟩
  rw [flatR_len] at hj
  simp only [List.length_map, List.length_range] at hj
  have h1 : j / 4 < len := by omega
  have h2 : j % 4 < 4 := by omega
  have h3 := flatR_at h2 ((List.range len).map fun i => (⟨ys.getD (i * 4) 0, ys.getD (i * 4 + 1) 0, ys.getD (i * 4 + 2) 0, ys.getD (i * 4 + 3) 0⟩ : Rw)) (j / 4)
  rw [show j / 4 * 4 + j % 4 = j by omega] at h3
  rw [h3]
  have h4 : rwAt ((List.range len).map fun i => (⟨ys.getD (i * 4) 0, ys.getD (i * 4 + 1) 0, ys.getD (i * 4 + 2) 0, ys.getD (i * 4 + 3) 0⟩ : Rw)) (j / 4) = ⟨ys.getD (j / 4 * 4) 0, ys.getD (j / 4 * 4 + 1) 0, ys.getD (j / 4 * 4 + 2) 0, ys.getD (j / 4 * 4 + 3) 0⟩ := by
    unfold rwAt; rw [List.getD_eq_getElem?_getD]; simp only [List.getElem?_map, List.getElem?_range h1, Option.map_some, Option.getD_some]
  rw [h4]
  have h5 : j % 4 = 0 ∨ j % 4 = 1 ∨ j % 4 = 2 ∨ j % 4 = 3 := by omega
  rcases h5 with h | h | h | h <;> rw [h] <;> simp only [rwFl, List.getD_cons_zero, List.getD_cons_succ] <;> exact congrArg (fun z => ys.getD z 0) (by omega)
theorem StructRow.rwsA {w : World} {a : Option Addr} {len cap : Nat} (h : StructRow w 4 a len cap) : ∃ xs : List Rw, xs.length = len ∧ okI (flatR xs) ∧ RI (fun b => w.heap[b]?) (.sl (fun j => .lit (.int .i64 ((flatR xs).getD j 0))) xs.length 4) (.slice a len cap) := by
  obtain ⟨ys, h1, h2, h3⟩ := h.flat (by decide)
  obtain ⟨xs, rfl, rfl⟩ := rws_of_flat h1
  exact ⟨xs, rfl, h2, h3⟩
theorem RL.obj {G : Gh} {n : Nat} {x y z : Int} {a : Option Addr} {len cap : Nat} {xs : List Rw} (h : RI G.fz (.sl (fun j => .lit (.int .i64 ((flatR xs).getD j 0))) xs.length 4) (.slice a len cap)) : RA n G (obA ⟨x, y, z, xs⟩) (.agg #[.int .i64 x, .int .i64 y, .int .i64 z, .slice a len cap]) :=
  .agg [_, _, _, _] [_, _, _, _] rfl (RL.cons (.iv _ _ (.lit _)) (RL.cons (.iv _ _ (.lit _)) (RL.cons (.iv _ _ (.lit _)) (RL.cons (.iv _ _ h) (RL.nil _ _))))).2 rfl
end Go.Proofs.YtdaenbgjafalcaaDoor
