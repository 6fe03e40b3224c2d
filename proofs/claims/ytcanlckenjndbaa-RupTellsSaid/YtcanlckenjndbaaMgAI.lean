import Derived.Test.YtcanlckenjndbaaProg
import Derived.Test.YtcanlckenjndbaaMgAE
namespace Go.Proofs.Ytcanlckenjndbaa
open Go.RowKit
def tyTab : List (Option TyRow) := [
  none,
  none,
  some { kind := TyKind.int IntKind.i64, size := 1, bytes := 8, zero := [Value.int IntKind.i64 0] },
  some { kind := TyKind.int IntKind.i64, size := 1, bytes := 8, zero := [Value.int IntKind.i64 0] },
  some { kind := TyKind.bool, size := 1, bytes := 1, zero := [Value.bool false] },
  some { kind := TyKind.int IntKind.u8, size := 1, bytes := 1, zero := [Value.int IntKind.u8 0] },
  none,
  some { kind := TyKind.st [(2, 0), (3, 1), (4, 2), (6, 3)], size := 4, bytes := 24, zero := [Value.int IntKind.i64 0, Value.int IntKind.i64 0, Value.bool false, Value.int IntKind.u8 0] },
  none,
  some { kind := TyKind.str, size := 1, bytes := 16, zero := [Value.string ByteArray.empty] },
  none,
  none,
  some { kind := TyKind.int IntKind.u64, size := 1, bytes := 8, zero := [Value.int IntKind.u64 0] },
  some { kind := TyKind.st [(9, 0), (12, 1)], size := 2, bytes := 24, zero := [Value.string ByteArray.empty, Value.int IntKind.u64 0] },
  none,
  none,
  none,
  none,
  some { kind := TyKind.st [(17, 0)], size := 1, bytes := 8, zero := [Value.pointer none] },
  none,
  some { kind := TyKind.other, size := 1, bytes := 16, zero := [Value.nilIface] },
  some { kind := TyKind.int IntKind.i32, size := 1, bytes := 4, zero := [Value.int IntKind.i32 0] },
  some { kind := TyKind.sl 3, size := 1, bytes := 24, zero := [Value.slice none 0 0] },
  some { kind := TyKind.sl 22, size := 1, bytes := 24, zero := [Value.slice none 0 0] },
  none,
  none,
  some { kind := TyKind.int IntKind.i64, size := 1, bytes := 8, zero := [Value.int IntKind.i64 0] },
  none,
  none,
  none,
  none,
  none,
  none,
  none,
  none,
  none,
  none,
  none,
  none,
  none,
  none,
  none,
  none,
  none,
  none,
  some { kind := TyKind.sl 4, size := 1, bytes := 24, zero := [Value.slice none 0 0] },
  none,
  some { kind := TyKind.st [(3, 0), (23, 1)], size := 2, bytes := 32, zero := [Value.int IntKind.i64 0, Value.slice none 0 0] },
  some { kind := TyKind.st [(3, 0), (23, 1)], size := 2, bytes := 32, zero := [Value.int IntKind.i64 0, Value.slice none 0 0] },
  none,
  none,
  none,
  none,
  some { kind := TyKind.st [(23, 0), (22, 1), (22, 2), (23, 3)], size := 4, bytes := 96, zero := [Value.slice none 0 0, Value.slice none 0 0, Value.slice none 0 0, Value.slice none 0 0] },
  some { kind := TyKind.st [(23, 0), (22, 1), (22, 2), (23, 3)], size := 4, bytes := 96, zero := [Value.slice none 0 0, Value.slice none 0 0, Value.slice none 0 0, Value.slice none 0 0] },
  some { kind := TyKind.map 3 23, size := 1, bytes := 8, zero := [Value.map none] },
  some { kind := TyKind.sl 113, size := 1, bytes := 24, zero := [Value.slice none 0 0] },
  none,
  none,
  none,
  none,
  none,
  none,
  none,
  none,
  none,
  none,
  some { kind := TyKind.other, size := 1, bytes := 8, zero := [Value.nilFunc] },
  none,
  none,
  none,
  some { kind := TyKind.sl 85, size := 1, bytes := 24, zero := [Value.slice none 0 0] },
  none,
  none,
  none,
  some { kind := TyKind.ptr 122, size := 1, bytes := 8, zero := [Value.pointer none] },
  none,
  none,
  some { kind := TyKind.sl 126, size := 1, bytes := 24, zero := [Value.slice none 0 0] },
  some { kind := TyKind.st [(78, 0), (3, 1), (4, 2)], size := 3, bytes := 40, zero := [Value.slice none 0 0, Value.int IntKind.i64 0, Value.bool false] },
  some { kind := TyKind.st [(78, 0), (3, 1), (4, 2)], size := 3, bytes := 40, zero := [Value.slice none 0 0, Value.int IntKind.i64 0, Value.bool false] },
  none,
  none,
  none,
  some { kind := TyKind.st [(3, 0), (3, 1), (22, 2), (22, 3)], size := 4, bytes := 64, zero := [Value.int IntKind.i64 0, Value.int IntKind.i64 0, Value.slice none 0 0, Value.slice none 0 0] },
  some { kind := TyKind.st [(3, 0), (3, 1), (22, 2), (22, 3)], size := 4, bytes := 64, zero := [Value.int IntKind.i64 0, Value.int IntKind.i64 0, Value.slice none 0 0, Value.slice none 0 0] },
  none,
  none,
  none,
  none,
  none,
  none,
  none,
  none,
  none,
  none,
  none,
  some { kind := TyKind.other, size := 1, bytes := 8, zero := [Value.nilFunc] },
  some { kind := TyKind.other, size := 1, bytes := 8, zero := [Value.nilFunc] },
  some { kind := TyKind.ptr 141, size := 1, bytes := 8, zero := [Value.pointer none] },
  none,
  none,
  none,
  none,
  none,
  none,
  none,
  none,
  none,
  none,
  none,
  none,
  some { kind := TyKind.st [(3, 0), (23, 1)], size := 2, bytes := 32, zero := [Value.int IntKind.i64 0, Value.slice none 0 0] },
  some { kind := TyKind.st [(3, 0), (23, 1)], size := 2, bytes := 32, zero := [Value.int IntKind.i64 0, Value.slice none 0 0] },
  none,
  none,
  none,
  none,
  none,
  none,
  some { kind := TyKind.map 3 22, size := 1, bytes := 8, zero := [Value.map none] },
  some { kind := TyKind.st [(120, 0), (22, 1), (3, 2), (4, 3)], size := 4, bytes := 48, zero := [Value.map none, Value.slice none 0 0, Value.int IntKind.i64 0, Value.bool false] },
  some { kind := TyKind.st [(120, 0), (22, 1), (3, 2), (4, 3)], size := 4, bytes := 48, zero := [Value.map none, Value.slice none 0 0, Value.int IntKind.i64 0, Value.bool false] },
  none,
  none,
  some { kind := TyKind.st [(3, 0), (22, 1)], size := 2, bytes := 32, zero := [Value.int IntKind.i64 0, Value.slice none 0 0] },
  some { kind := TyKind.st [(3, 0), (22, 1)], size := 2, bytes := 32, zero := [Value.int IntKind.i64 0, Value.slice none 0 0] },
  none,
  none,
  none,
  none,
  none,
  none,
  some { kind := TyKind.int IntKind.u64, size := 1, bytes := 8, zero := [Value.int IntKind.u64 0] },
  none,
  some { kind := TyKind.int IntKind.i64, size := 1, bytes := 8, zero := [Value.int IntKind.i64 0] },
  none,
  some { kind := TyKind.map 3 138, size := 1, bytes := 8, zero := [Value.map none] },
  some { kind := TyKind.st [], size := 0, bytes := 0, zero := [] },
  none,
  some { kind := TyKind.st [(45, 0)], size := 1, bytes := 24, zero := [Value.slice none 0 0] },
  some { kind := TyKind.st [(45, 0)], size := 1, bytes := 24, zero := [Value.slice none 0 0] },
  some { kind := TyKind.arr 3 3, size := 3, bytes := 24, zero := [Value.int IntKind.i64 0, Value.int IntKind.i64 0, Value.int IntKind.i64 0] },
  none,
  none,
  none,
  none,
  none,
  none,
  none,
  none,
  none,
  none,
  none,
  none,
  none,
  none,
  none,
  none,
  none,
  none,
  none,
  none,
  none,
  none,
  some { kind := TyKind.st [(17, 0), (17, 1), (17, 2), (9, 3)], size := 4, bytes := 40, zero := [Value.pointer none, Value.pointer none, Value.pointer none, Value.string ByteArray.empty] },
  none,
  none,
  some { kind := TyKind.st [(167, 0)], size := 0, bytes := 0, zero := [] },
  none,
  some { kind := TyKind.int IntKind.u32, size := 1, bytes := 4, zero := [Value.int IntKind.u32 0] },
  none,
  none,
  none,
  some { kind := TyKind.ptr 5, size := 1, bytes := 8, zero := [Value.pointer none] },
  none,
  none,
  some { kind := TyKind.st [(12, 0), (12, 1), (170, 2), (171, 3), (5, 4), (5, 5), (172, 6), (173, 7), (174, 8), (175, 9), (176, 10)], size := 11, bytes := 48, zero := [Value.int IntKind.u64 0, Value.int IntKind.u64 0, Value.int IntKind.u32 0, Value.int IntKind.u8 0, Value.int IntKind.u8 0, Value.int IntKind.u8 0, Value.int IntKind.u8 0, Value.nilFunc, Value.pointer none, Value.int IntKind.i32 0, Value.int IntKind.i32 0] },
  none,
  none]
def tt : TT := fun t => (tyTab[t]?).getD none
theorem tyTab_ok : ((List.range 180).map fun t => if ((tyTab[t]?).getD none).isSome then tyRow Try.prog t else none) = tyTab := by kernel_rfl
theorem tyOK : TyOK Try.prog tt := fun t r h => by
  have h' : (tyTab[t]?).getD none = some r := h
  have hlt : t < 180 := by
    rcases Nat.lt_or_ge t 180 with h1 | h1
    · exact h1
    · rw [List.getElem?_eq_none (by show _ ≤ t; exact h1)] at h'; cases h'
  have e := congrArg (fun l => l[t]?) tyTab_ok
  simp only [List.getElem?_map, List.getElem?_range hlt, Option.map_some] at e
  rw [h'] at e
  rw [← e] at h'
  simpa using h'
theorem tt_2 : tt 2 = some { kind := TyKind.int IntKind.i64, size := 1, bytes := 8, zero := [Value.int IntKind.i64 0] } := rfl
theorem tt_3 : tt 3 = some { kind := TyKind.int IntKind.i64, size := 1, bytes := 8, zero := [Value.int IntKind.i64 0] } := rfl
theorem tt_4 : tt 4 = some { kind := TyKind.bool, size := 1, bytes := 1, zero := [Value.bool false] } := rfl
theorem tt_5 : tt 5 = some { kind := TyKind.int IntKind.u8, size := 1, bytes := 1, zero := [Value.int IntKind.u8 0] } := rfl
theorem tt_7 : tt 7 = some { kind := TyKind.st [(2, 0), (3, 1), (4, 2), (6, 3)], size := 4, bytes := 24, zero := [Value.int IntKind.i64 0, Value.int IntKind.i64 0, Value.bool false, Value.int IntKind.u8 0] } := rfl
theorem tt_9 : tt 9 = some { kind := TyKind.str, size := 1, bytes := 16, zero := [Value.string ByteArray.empty] } := rfl
theorem tt_12 : tt 12 = some { kind := TyKind.int IntKind.u64, size := 1, bytes := 8, zero := [Value.int IntKind.u64 0] } := rfl
theorem tt_13 : tt 13 = some { kind := TyKind.st [(9, 0), (12, 1)], size := 2, bytes := 24, zero := [Value.string ByteArray.empty, Value.int IntKind.u64 0] } := rfl
theorem tt_18 : tt 18 = some { kind := TyKind.st [(17, 0)], size := 1, bytes := 8, zero := [Value.pointer none] } := rfl
theorem tt_20 : tt 20 = some { kind := TyKind.other, size := 1, bytes := 16, zero := [Value.nilIface] } := rfl
theorem tt_21 : tt 21 = some { kind := TyKind.int IntKind.i32, size := 1, bytes := 4, zero := [Value.int IntKind.i32 0] } := rfl
theorem tt_22 : tt 22 = some { kind := TyKind.sl 3, size := 1, bytes := 24, zero := [Value.slice none 0 0] } := rfl
theorem tt_23 : tt 23 = some { kind := TyKind.sl 22, size := 1, bytes := 24, zero := [Value.slice none 0 0] } := rfl
theorem tt_26 : tt 26 = some { kind := TyKind.int IntKind.i64, size := 1, bytes := 8, zero := [Value.int IntKind.i64 0] } := rfl
theorem tt_45 : tt 45 = some { kind := TyKind.sl 4, size := 1, bytes := 24, zero := [Value.slice none 0 0] } := rfl
theorem tt_47 : tt 47 = some { kind := TyKind.st [(3, 0), (23, 1)], size := 2, bytes := 32, zero := [Value.int IntKind.i64 0, Value.slice none 0 0] } := rfl
theorem tt_48 : tt 48 = some { kind := TyKind.st [(3, 0), (23, 1)], size := 2, bytes := 32, zero := [Value.int IntKind.i64 0, Value.slice none 0 0] } := rfl
theorem tt_53 : tt 53 = some { kind := TyKind.st [(23, 0), (22, 1), (22, 2), (23, 3)], size := 4, bytes := 96, zero := [Value.slice none 0 0, Value.slice none 0 0, Value.slice none 0 0, Value.slice none 0 0] } := rfl
theorem tt_54 : tt 54 = some { kind := TyKind.st [(23, 0), (22, 1), (22, 2), (23, 3)], size := 4, bytes := 96, zero := [Value.slice none 0 0, Value.slice none 0 0, Value.slice none 0 0, Value.slice none 0 0] } := rfl
theorem tt_55 : tt 55 = some { kind := TyKind.map 3 23, size := 1, bytes := 8, zero := [Value.map none] } := rfl
theorem tt_56 : tt 56 = some { kind := TyKind.sl 113, size := 1, bytes := 24, zero := [Value.slice none 0 0] } := rfl
theorem tt_67 : tt 67 = some { kind := TyKind.other, size := 1, bytes := 8, zero := [Value.nilFunc] } := rfl
theorem tt_71 : tt 71 = some { kind := TyKind.sl 85, size := 1, bytes := 24, zero := [Value.slice none 0 0] } := rfl
theorem tt_75 : tt 75 = some { kind := TyKind.ptr 122, size := 1, bytes := 8, zero := [Value.pointer none] } := rfl
theorem tt_78 : tt 78 = some { kind := TyKind.sl 126, size := 1, bytes := 24, zero := [Value.slice none 0 0] } := rfl
theorem tt_79 : tt 79 = some { kind := TyKind.st [(78, 0), (3, 1), (4, 2)], size := 3, bytes := 40, zero := [Value.slice none 0 0, Value.int IntKind.i64 0, Value.bool false] } := rfl
theorem tt_80 : tt 80 = some { kind := TyKind.st [(78, 0), (3, 1), (4, 2)], size := 3, bytes := 40, zero := [Value.slice none 0 0, Value.int IntKind.i64 0, Value.bool false] } := rfl
theorem tt_84 : tt 84 = some { kind := TyKind.st [(3, 0), (3, 1), (22, 2), (22, 3)], size := 4, bytes := 64, zero := [Value.int IntKind.i64 0, Value.int IntKind.i64 0, Value.slice none 0 0, Value.slice none 0 0] } := rfl
theorem tt_85 : tt 85 = some { kind := TyKind.st [(3, 0), (3, 1), (22, 2), (22, 3)], size := 4, bytes := 64, zero := [Value.int IntKind.i64 0, Value.int IntKind.i64 0, Value.slice none 0 0, Value.slice none 0 0] } := rfl
theorem tt_97 : tt 97 = some { kind := TyKind.other, size := 1, bytes := 8, zero := [Value.nilFunc] } := rfl
theorem tt_98 : tt 98 = some { kind := TyKind.other, size := 1, bytes := 8, zero := [Value.nilFunc] } := rfl
theorem tt_99 : tt 99 = some { kind := TyKind.ptr 141, size := 1, bytes := 8, zero := [Value.pointer none] } := rfl
theorem tt_112 : tt 112 = some { kind := TyKind.st [(3, 0), (23, 1)], size := 2, bytes := 32, zero := [Value.int IntKind.i64 0, Value.slice none 0 0] } := rfl
theorem tt_113 : tt 113 = some { kind := TyKind.st [(3, 0), (23, 1)], size := 2, bytes := 32, zero := [Value.int IntKind.i64 0, Value.slice none 0 0] } := rfl
theorem tt_120 : tt 120 = some { kind := TyKind.map 3 22, size := 1, bytes := 8, zero := [Value.map none] } := rfl
theorem tt_121 : tt 121 = some { kind := TyKind.st [(120, 0), (22, 1), (3, 2), (4, 3)], size := 4, bytes := 48, zero := [Value.map none, Value.slice none 0 0, Value.int IntKind.i64 0, Value.bool false] } := rfl
theorem tt_122 : tt 122 = some { kind := TyKind.st [(120, 0), (22, 1), (3, 2), (4, 3)], size := 4, bytes := 48, zero := [Value.map none, Value.slice none 0 0, Value.int IntKind.i64 0, Value.bool false] } := rfl
theorem tt_125 : tt 125 = some { kind := TyKind.st [(3, 0), (22, 1)], size := 2, bytes := 32, zero := [Value.int IntKind.i64 0, Value.slice none 0 0] } := rfl
theorem tt_126 : tt 126 = some { kind := TyKind.st [(3, 0), (22, 1)], size := 2, bytes := 32, zero := [Value.int IntKind.i64 0, Value.slice none 0 0] } := rfl
theorem tt_133 : tt 133 = some { kind := TyKind.int IntKind.u64, size := 1, bytes := 8, zero := [Value.int IntKind.u64 0] } := rfl
theorem tt_135 : tt 135 = some { kind := TyKind.int IntKind.i64, size := 1, bytes := 8, zero := [Value.int IntKind.i64 0] } := rfl
theorem tt_137 : tt 137 = some { kind := TyKind.map 3 138, size := 1, bytes := 8, zero := [Value.map none] } := rfl
theorem tt_138 : tt 138 = some { kind := TyKind.st [], size := 0, bytes := 0, zero := [] } := rfl
theorem tt_140 : tt 140 = some { kind := TyKind.st [(45, 0)], size := 1, bytes := 24, zero := [Value.slice none 0 0] } := rfl
theorem tt_141 : tt 141 = some { kind := TyKind.st [(45, 0)], size := 1, bytes := 24, zero := [Value.slice none 0 0] } := rfl
theorem tt_142 : tt 142 = some { kind := TyKind.arr 3 3, size := 3, bytes := 24, zero := [Value.int IntKind.i64 0, Value.int IntKind.i64 0, Value.int IntKind.i64 0] } := rfl
theorem tt_165 : tt 165 = some { kind := TyKind.st [(17, 0), (17, 1), (17, 2), (9, 3)], size := 4, bytes := 40, zero := [Value.pointer none, Value.pointer none, Value.pointer none, Value.string ByteArray.empty] } := rfl
theorem tt_168 : tt 168 = some { kind := TyKind.st [(167, 0)], size := 0, bytes := 0, zero := [] } := rfl
theorem tt_170 : tt 170 = some { kind := TyKind.int IntKind.u32, size := 1, bytes := 4, zero := [Value.int IntKind.u32 0] } := rfl
theorem tt_174 : tt 174 = some { kind := TyKind.ptr 5, size := 1, bytes := 8, zero := [Value.pointer none] } := rfl
theorem tt_177 : tt 177 = some { kind := TyKind.st [(12, 0), (12, 1), (170, 2), (171, 3), (5, 4), (5, 5), (172, 6), (173, 7), (174, 8), (175, 9), (176, 10)], size := 11, bytes := 48, zero := [Value.int IntKind.u64 0, Value.int IntKind.u64 0, Value.int IntKind.u32 0, Value.int IntKind.u8 0, Value.int IntKind.u8 0, Value.int IntKind.u8 0, Value.int IntKind.u8 0, Value.nilFunc, Value.pointer none, Value.int IntKind.i32 0, Value.int IntKind.i32 0] } := rfl
end Go.Proofs.Ytcanlckenjndbaa
namespace Go.Proofs.Ytcanlckenjndbaa
def lvar (l : Int) : Int := if 1 ≤ l ∧ l ≤ 100000 then l else if -100000 ≤ l ∧ l ≤ -1 then -l else 0
def lside (l : Int) : Bool := decide (lvar l ≠ 0 ∧ 0 < l)
def lcheck (l vars : Int) : Int := if vars < 0 ∨ 100000 < vars then 2 else if lvar l = 0 ∨ vars < lvar l then 10 else 0
def lneg (l : Int) : Int := if lvar l = 0 then 0 else -l
def lindex (l : Int) : Int := if lvar l = 0 then -1 else if l < 0 then 2 * lvar l - 1 else 2 * lvar l - 2
def lfrom (i : Int) : Int := if i < 0 ∨ 200000 ≤ i then 0 else if i % 2 = 1 then -(i / 2 + 1) else i / 2 + 1
def lmake (v : Int) (t : Bool) : Int := if v < 1 ∨ 100000 < v then 0 else if t then v else -v
def lmakeE (v : Int) (t : Bool) : Int := if lmake v t = 0 then 10 else 0
def lhas (xs : List Int) (v : Int) : Bool := xs.contains v
def lof (xs : List Int) (v : Int) : Int :=
  if v < 1 ∨ 100000 < v then 0 else if lhas xs v = true ∧ lhas xs (-v) = true then 2 else if lhas xs v = true then 1 else if lhas xs (-v) = true then -1 else 0
def lmost (xs : List Int) : Int := xs.foldl (fun m l => max m (lvar l)) 0
theorem lvar_bd (l : Int) : 0 ≤ lvar l ∧ lvar l ≤ 100000 := by unfold lvar; split <;> (try split) <;> omega
theorem lvar_range {l : Int} (h : lvar l ≠ 0) : -100000 ≤ l ∧ l ≤ 100000 ∧ l ≠ 0 := by unfold lvar at h; split at h <;> (try split at h) <;> omega
theorem lindex_bd (l : Int) : -1 ≤ lindex l ∧ lindex l ≤ 199999 := by have := lvar_bd l; unfold lindex; split <;> (try split) <;> omega
theorem lfrom_index {l : Int} (h : lvar l ≠ 0) : lfrom (lindex l) = l := by
  have := lvar_range h
  unfold lindex; rw [if_neg h]
  unfold lvar lfrom
  split <;> split <;> (try split) <;> (try split) <;> omega
theorem lmost_snoc (xs : List Int) (l : Int) : lmost (xs ++ [l]) = max (lmost xs) (lvar l) := by simp [lmost, List.foldl_append]
theorem lmost_bd (xs : List Int) : 0 ≤ lmost xs ∧ lmost xs ≤ 100000 := by
  suffices h : ∀ m : Int, 0 ≤ m → m ≤ 100000 → 0 ≤ xs.foldl (fun m l => max m (lvar l)) m ∧ xs.foldl (fun m l => max m (lvar l)) m ≤ 100000 from h 0 (by omega) (by omega)
  induction xs with
  | nil => intro m h1 h2; exact ⟨h1, h2⟩
  | cons x xs ih => intro m h1 h2; have := lvar_bd x; exact ih (max m (lvar x)) (by omega) (by omega)
theorem lhas_snoc (xs : List Int) (l v : Int) : lhas (xs ++ [l]) v = (lhas xs v || v == l) := by
  unfold lhas; rw [Bool.eq_iff_iff]; simp
theorem take_snoc (xs : List Int) (k : Nat) (h : k < xs.length) : xs.take (k + 1) = xs.take k ++ [xs.getD k 0] := by
  rw [List.take_succ_eq_append_getElem h]; simp [List.getD, h]
end Go.Proofs.Ytcanlckenjndbaa
namespace Go.Proofs.Ytcanlckenjndbaa
set_option linter.unusedVariables false
def aVal (l : List Int) (x : Int) : Int := if lvar x = 0 then 0 else if lhas l x = true then 1 else if lhas l (-x) = true then -1 else 0
def aIs (l : List Int) (v : Int) (x : Int) : Bool := decide (lvar x ≠ 0 ∧ aVal l x = v)
def aN (l c : List Int) (v : Int) : Nat := (c.filter (aIs l v)).length
def aCl (l c : List Int) : Int := if 0 < aN l c 1 then 1 else if 0 < aN l c 0 then 0 else -1
def aUnitOk (l c : List Int) : Bool := decide (aN l c 1 = 0 ∧ aN l c 0 = 1)
def aUnit (l c : List Int) : Int := if aUnitOk l c = true then (c.filter (aIs l 0)).headD 0 else 0
def aDup (l : List Int) : Prop := ¬ (l.map lvar).Nodup
instance (l : List Int) : Decidable (aDup l) := by unfold aDup; infer_instance
def aCheck (l : List Int) (vars : Int) : Int := if vars < 0 ∨ 100000 < vars then 2 else if (l.all fun x => lcheck x vars == 0) = false then 10 else if aDup l then 21 else 0
def aFull (l : List Int) (vars : Int) : Bool := decide ((l.length : Int) = vars ∧ aCheck l vars = 0)
def aModel (l : List Int) (vars : Int) : List Bool := if vars < 0 ∨ 100000 < vars then [] else (List.range vars.toNat).map fun i : Nat => lhas l ((i : Int) + 1)
def aFrom (m : List Bool) : List Int := if 100000 < m.length then [] else (List.range m.length).map fun i : Nat => lmake ((i : Int) + 1) (m.getD i false)
theorem lvar_neg (x : Int) : lvar (-x) = lvar x := by unfold lvar; repeat' split <;> omega
theorem aVal_cases (l : List Int) (x : Int) : (lvar x = 0 ∧ aVal l x = 0) ∨ (lvar x ≠ 0 ∧ ((lhas l x = true ∧ aVal l x = 1) ∨ (lhas l x = false ∧ lhas l (-x) = true ∧ aVal l x = -1) ∨ (lhas l x = false ∧ lhas l (-x) = false ∧ aVal l x = 0))) := by
  unfold aVal
  by_cases h : lvar x = 0
  · left; exact ⟨h, by rw [if_pos h]⟩
  · right
    refine ⟨h, ?_⟩
    rw [if_neg h]
    cases h1 : lhas l x <;> cases h2 : lhas l (-x) <;> simp
theorem aN_snoc (l c : List Int) (x v : Int) : aN l (c ++ [x]) v = aN l c v + if aIs l v x = true then 1 else 0 := by
  unfold aN
  rw [List.filter_append, List.length_append]
  by_cases h : aIs l v x = true
  · rw [if_pos h]; simp [h]
  · rw [if_neg h]; simp [h]
theorem aN_le (l c : List Int) (v : Int) : aN l c v ≤ c.length := List.length_filter_le _ _
theorem aN_pos (l c : List Int) (v : Int) : 0 < aN l c v ↔ ∃ x ∈ c, aIs l v x = true := by
  unfold aN
  rw [List.length_pos_iff_exists_mem]
  simp only [List.mem_filter]
theorem aIs_iff (l : List Int) (v x : Int) : aIs l v x = true ↔ (lvar x ≠ 0 ∧ aVal l x = v) := by unfold aIs; rw [decide_eq_true_eq]
def aLit (x : Int) : Bool := decide (lvar x ≠ 0)
def aMany (c : List Int) : Nat := (c.filter aLit).length
theorem aUnit_is {l c : List Int} (h : aUnitOk l c = true) : ∃ u, c.filter (aIs l 0) = [u] ∧ aUnit l c = u ∧ u ∈ c ∧ lvar u ≠ 0 ∧ aVal l u = 0 := by
  have h2 : aN l c 1 = 0 ∧ aN l c 0 = 1 := by unfold aUnitOk at h; exact of_decide_eq_true h
  obtain ⟨u, hu⟩ := List.length_eq_one_iff.1 h2.2
  have hm : u ∈ c.filter (aIs l 0) := by rw [hu]; simp
  rw [List.mem_filter, aIs_iff] at hm
  exact ⟨u, hu, by unfold aUnit; rw [if_pos h, hu]; rfl, hm.1, hm.2.1, hm.2.2⟩
theorem aUnit_at {l c : List Int} (h : aUnitOk l c = true) {x : Int} (hx : x ∈ c) (hv : lvar x ≠ 0) (h0 : aVal l x = 0) : aUnit l c = x := by
  obtain ⟨u, hu, e, _⟩ := aUnit_is h
  have hm : x ∈ c.filter (aIs l 0) := List.mem_filter.2 ⟨hx, (aIs_iff _ _ _).2 ⟨hv, h0⟩⟩
  rw [hu] at hm
  rw [e]; exact (List.mem_singleton.1 hm).symm
end Go.Proofs.Ytcanlckenjndbaa
