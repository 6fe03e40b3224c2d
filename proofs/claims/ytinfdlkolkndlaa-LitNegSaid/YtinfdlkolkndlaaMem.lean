/- What the contracts say of memory, of any program: readings that stay when new memory is made. -/
import Derived.WalkKit
import Derived.WalkSpells
import Derived.WalkLawsBesides
import Derived.Below
namespace Go.Proofs.Ytinfdlkolkndlaa
open Go.RowKit

theorem ret_int {k : IntKind} {a b : Int} (h : a = b) : Ending.returned (.int k a) = .returned (.int k b) := by rw [h]
theorem ret_bool {a b : Bool} (h : a = b) : Ending.returned (.bool a) = .returned (.bool b) := by rw [h]
theorem ret_int2 {k : IntKind} {a b c d : Int} (h : a = b) (h' : c = d) : Ending.returned (.tuple #[.int k a, .int k c]) = .returned (.tuple #[.int k b, .int k d]) := by rw [h, h']
theorem ret_intb {k : IntKind} {a b : Int} {c d : Bool} (h : a = b) (h' : c = d) : Ending.returned (.tuple #[.int k a, .bool c]) = .returned (.tuple #[.int k b, .bool d]) := by rw [h, h']

/-! ### Lists of numbers that lie in memory -/

/-- The first len numbers at a are xs. -/
def IntRow (w : World) (a : Option Addr) (len : Nat) (xs : List Int) : Prop :=
  xs.length = len ∧ len ≤ maxLen ∧ (0 < len → ∃ b off, a = some ⟨b, off, none⟩ ∧ ∀ i, i < len → w.cell? ⟨b, off + i, none⟩ = some (.int .i64 (xs.getD i 0)))

theorem IntRow.later {w w' : World} {a : Option Addr} {len : Nat} {xs : List Int} (h : IntRow w a len xs) (hb : Below w.heap.size w w') : IntRow w' a len xs :=
  ⟨h.1, h.2.1, fun hp => by
    obtain ⟨b, off, ha, hc⟩ := h.2.2 hp
    exact ⟨b, off, ha, fun i hi => cell_later hb (hc i hi)⟩⟩

/-- Numbers that were laid into a new block. -/
theorem IntRow.made (w : World) (t : TypeId) (xs : List Int) (hm : xs.length ≤ maxLen) : IntRow (w.alloc (.cells (xs.map (Value.int .i64)).toArray t)) (some ⟨w.heap.size, 0, none⟩) xs.length xs :=
  ⟨rfl, hm, fun _ => ⟨w.heap.size, 0, rfl, fun i hi => by
    have h : (w.alloc (.cells (xs.map (Value.int .i64)).toArray t)).cell? ⟨w.heap.size, i, none⟩ = (xs.map (Value.int .i64))[i]? := by
      simp [go_sem]
    rw [Nat.zero_add, h]; simp [hi, List.getD]⟩⟩

/-! ### 'nothing that was there changes', step by step -/
theorem below_step {w a b : World} (h : Below w.heap.size w a) (k : Below a.heap.size a b) : Below w.heap.size w b := h.trans (k.mono h.size)
theorem below_alloc {w a : World} (h : Below w.heap.size w a) (o : Obj) : Below w.heap.size w (a.alloc o) := h.alloc h.size o
theorem below_drew {w a : World} (h : Below w.heap.size w a) : Below w.heap.size w a.drew := h.drew
theorem below_drewN {w a : World} (h : Below w.heap.size w a) (n : Nat) : Below w.heap.size w (a.drewN n) := Go.below_drewN h n

end Go.Proofs.Ytinfdlkolkndlaa
