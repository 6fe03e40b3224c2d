/- Blocks of numbers that a call makes and fills, of any program. -/
import Derived.Test.YtcifneenbdibeaaRows
import Derived.Test.YtcifneenbdibeaaOwn
import Derived.Deep.OwnRows
namespace Go.Proofs.Ytcifneenbdibeaa
open Go.RowKit
set_option linter.unusedVariables false

/-- Behind k rounds of storing f into n places. -/
def upTo {α : Type} (f : Nat → α) (z : α) (n k : Nat) : List α := (List.range n).map fun i => if i < k then f i else z
theorem upTo_length {α : Type} (f : Nat → α) (z : α) (n k : Nat) : (upTo f z n k).length = n := by simp [upTo]
theorem upTo_set {α : Type} (f : Nat → α) (z : α) (n k : Nat) : (upTo f z n k).set k (f k) = upTo f z n (k + 1) := by
  apply List.ext_getElem?
  intro i
  by_cases hi : i < n
  · by_cases hk : i = k
    · subst hk; simp [upTo, hi]
    · have h1 : i < k + 1 ↔ i < k := by omega
      rw [List.getElem?_set_ne (by omega)]; simp [upTo, hi, h1]
  · rw [List.getElem?_eq_none (by simp [upTo]; omega), List.getElem?_eq_none (by simp [upTo]; omega)]
theorem upTo_zero {α : Type} (f : Nat → α) (z : α) (n : Nat) : upTo f z n 0 = List.replicate n z := by
  apply List.ext_getElem?; intro i
  by_cases hi : i < n <;> simp [upTo, hi]
theorem upTo_full {α : Type} (f : Nat → α) (z : α) (n : Nat) : upTo f z n n = (List.range n).map f := by
  apply List.map_congr_left; intro i hi; rw [if_pos (List.mem_range.1 hi)]

theorem info_ints : (Try.prog.info? 22).map (fun i => (i.zero, i.size, i.bytes)) = some (some (.slice none 0 0), 1, 24) := by kernel_rfl
theorem info_int : (Try.prog.info? 3).map (fun i => (i.zero, i.size, i.bytes)) = some (some (.int .i64 0), 1, 8) := by kernel_rfl
theorem info_bool : (Try.prog.info? 4).map (fun i => (i.zero, i.size, i.bytes)) = some (some (.bool false), 1, 1) := by kernel_rfl

/-- The numbers xs lie in a block of their own. -/
theorem iblk_cell {w : World} {b : Nat} {xs : List Int} {t : TypeId} (h : Blk w b (xs.map (Value.int .i64)).toArray t) {k : Nat} (hk : k < xs.length) : w.cell? ⟨b, k, none⟩ = some (.int .i64 (xs.getD k 0)) := by
  rw [h.cell k]; simp [hk, List.getD]
theorem iblk_set {w : World} {b : Nat} {xs : List Int} {t : TypeId} (h : Blk w b (xs.map (Value.int .i64)).toArray t) (k : Nat) (y : Int) : Blk (w.setCell ⟨b, k, none⟩ (.int .i64 y)) b ((xs.set k y).map (Value.int .i64)).toArray t := by
  have := h.set k (.int .i64 y)
  rwa [show (xs.map (Value.int .i64)).toArray.setIfInBounds k (.int .i64 y) = ((xs.set k y).map (Value.int .i64)).toArray by simp [List.map_set]] at this
theorem iblk_own {w : World} {b B : Nat} {xs : List Int} (h : Blk w b (xs.map (Value.int .i64)).toArray 3) (hB : B ≤ b) (hm : xs.length ≤ maxLen) : OwnInts w B (.slice (some ⟨b, 0, none⟩) xs.length xs.length) xs :=
  ⟨by simp, Or.inr ⟨b, xs.length, _, rfl, hB, h, Nat.le_refl _, hm, by simp, by simp [List.take_of_length_le]⟩⟩
theorem madeInts (n : Nat) : madeCells #[Value.int .i64 0] n = ((List.replicate n (0 : Int)).map (Value.int .i64)).toArray := by
  apply Array.ext_getElem?; intro i
  by_cases hi : i < n <;> simp [madeCells, hi, Nat.mod_one]

theorem bblk_cell {w : World} {b : Nat} {xs : List Bool} {t : TypeId} (h : Blk w b (xs.map Value.bool).toArray t) {k : Nat} (hk : k < xs.length) : w.cell? ⟨b, k, none⟩ = some (.bool (xs.getD k false)) := by
  rw [h.cell k]; simp [hk, List.getD]
theorem bblk_set {w : World} {b : Nat} {xs : List Bool} {t : TypeId} (h : Blk w b (xs.map Value.bool).toArray t) (k : Nat) (y : Bool) : Blk (w.setCell ⟨b, k, none⟩ (.bool y)) b ((xs.set k y).map Value.bool).toArray t := by
  have := h.set k (.bool y)
  rwa [show (xs.map Value.bool).toArray.setIfInBounds k (.bool y) = ((xs.set k y).map Value.bool).toArray by simp [List.map_set]] at this
theorem bblk_own {w : World} {b B : Nat} {xs : List Bool} (h : Blk w b (xs.map Value.bool).toArray 4) (hB : B ≤ b) (hm : xs.length ≤ maxLen) : OwnBools w B (.slice (some ⟨b, 0, none⟩) xs.length xs.length) xs :=
  ⟨by simp, Or.inr ⟨b, xs.length, _, rfl, hB, h, Nat.le_refl _, hm, by simp, by simp [List.take_of_length_le]⟩⟩
theorem madeBools (n : Nat) : madeCells #[Value.bool false] n = ((List.replicate n false).map Value.bool).toArray := by
  apply Array.ext_getElem?; intro i
  by_cases hi : i < n <;> simp [madeCells, hi, Nat.mod_one]
end Go.Proofs.Ytcifneenbdibeaa
