import Derived.Test.YtdaenbgjafalcaaDoorProg
import Derived.Test.YtdaenbgjafalcaaDoorMgAE
import Derived.Shelf.Strconv.Itoa3
import Derived.Test.YtdaenbgjafalcaaDoorMgAH
import Derived.Lib.AtoiAllCases
import Derived.Lib.ItoaNum
import Derived.Lib.Strings
namespace Go.Proofs.YtdaenbgjafalcaaDoor
open Go.RowKit
def tyTab : List (Option TyRow) := [
  none,
  none,
  some { kind := TyKind.int IntKind.i64, size := 1, bytes := 8, zero := [Value.int IntKind.i64 0] },
  some { kind := TyKind.int IntKind.i64, size := 1, bytes := 8, zero := [Value.int IntKind.i64 0] },
  some { kind := TyKind.bool, size := 1, bytes := 1, zero := [Value.bool false] },
  some { kind := TyKind.int IntKind.u8, size := 1, bytes := 1, zero := [Value.int IntKind.u8 0] },
  none,
  some { kind := TyKind.st [(2, 0), (3, 1), (4, 2), (6, 3)], size := 4, bytes := 24, zero := [Value.int IntKind.i64 0, Value.int IntKind.i64 0, Value.bool false, Value.int IntKind.u8 0] },
  none,
  some { kind := TyKind.str, size := 1, bytes := 16, zero := [Value.string ByteArray.empty] },
  none,
  none,
  some { kind := TyKind.int IntKind.u64, size := 1, bytes := 8, zero := [Value.int IntKind.u64 0] },
  some { kind := TyKind.st [(9, 0), (12, 1)], size := 2, bytes := 24, zero := [Value.string ByteArray.empty, Value.int IntKind.u64 0] },
  none,
  none,
  none,
  none,
  some { kind := TyKind.st [(17, 0)], size := 1, bytes := 8, zero := [Value.pointer none] },
  none,
  some { kind := TyKind.other, size := 1, bytes := 16, zero := [Value.nilIface] },
  some { kind := TyKind.int IntKind.i32, size := 1, bytes := 4, zero := [Value.int IntKind.i32 0] },
  none,
  some { kind := TyKind.sl 98, size := 1, bytes := 24, zero := [Value.slice none 0 0] },
  some { kind := TyKind.st [(3, 0), (3, 1), (3, 2), (23, 3)], size := 4, bytes := 48, zero := [Value.int IntKind.i64 0, Value.int IntKind.i64 0, Value.int IntKind.i64 0, Value.slice none 0 0] },
  some { kind := TyKind.st [(3, 0), (3, 1), (3, 2), (23, 3)], size := 4, bytes := 48, zero := [Value.int IntKind.i64 0, Value.int IntKind.i64 0, Value.int IntKind.i64 0, Value.slice none 0 0] },
  some { kind := TyKind.sl 51, size := 1, bytes := 24, zero := [Value.slice none 0 0] },
  some { kind := TyKind.st [(25, 0), (26, 4)], size := 5, bytes := 72, zero := [Value.int IntKind.i64 0, Value.int IntKind.i64 0, Value.int IntKind.i64 0, Value.slice none 0 0, Value.slice none 0 0] },
  some { kind := TyKind.st [(25, 0), (26, 4)], size := 5, bytes := 72, zero := [Value.int IntKind.i64 0, Value.int IntKind.i64 0, Value.int IntKind.i64 0, Value.slice none 0 0, Value.slice none 0 0] },
  some { kind := TyKind.int IntKind.i64, size := 1, bytes := 8, zero := [Value.int IntKind.i64 0] },
  none,
  none,
  none,
  none,
  none,
  none,
  none,
  none,
  none,
  none,
  none,
  none,
  none,
  none,
  none,
  some { kind := TyKind.sl 47, size := 1, bytes := 24, zero := [Value.slice none 0 0] },
  none,
  some { kind := TyKind.sl 49, size := 1, bytes := 24, zero := [Value.slice none 0 0] },
  some { kind := TyKind.st [(3, 0), (3, 1), (9, 2)], size := 3, bytes := 32, zero := [Value.int IntKind.i64 0, Value.int IntKind.i64 0, Value.string ByteArray.empty] },
  some { kind := TyKind.st [(3, 0), (3, 1), (9, 2)], size := 3, bytes := 32, zero := [Value.int IntKind.i64 0, Value.int IntKind.i64 0, Value.string ByteArray.empty] },
  some { kind := TyKind.st [(3, 0), (3, 1), (3, 2)], size := 3, bytes := 24, zero := [Value.int IntKind.i64 0, Value.int IntKind.i64 0, Value.int IntKind.i64 0] },
  some { kind := TyKind.st [(3, 0), (3, 1), (3, 2)], size := 3, bytes := 24, zero := [Value.int IntKind.i64 0, Value.int IntKind.i64 0, Value.int IntKind.i64 0] },
  none,
  none,
  none,
  none,
  none,
  some { kind := TyKind.sl 64, size := 1, bytes := 24, zero := [Value.slice none 0 0] },
  none,
  none,
  none,
  none,
  none,
  none,
  some { kind := TyKind.sl 101, size := 1, bytes := 24, zero := [Value.slice none 0 0] },
  none,
  none,
  none,
  some { kind := TyKind.ptr 71, size := 1, bytes := 8, zero := [Value.pointer none] },
  some { kind := TyKind.sl 5, size := 1, bytes := 24, zero := [Value.slice none 0 0] },
  some { kind := TyKind.st [(68, 0), (69, 1)], size := 2, bytes := 32, zero := [Value.pointer none, Value.slice none 0 0] },
  some { kind := TyKind.st [(68, 0), (69, 1)], size := 2, bytes := 32, zero := [Value.pointer none, Value.slice none 0 0] },
  some { kind := TyKind.other, size := 1, bytes := 16, zero := [Value.nilIface] },
  some { kind := TyKind.other, size := 1, bytes := 16, zero := [Value.nilIface] },
  none,
  none,
  none,
  none,
  none,
  none,
  none,
  some { kind := TyKind.sl 3, size := 1, bytes := 24, zero := [Value.slice none 0 0] },
  none,
  none,
  none,
  none,
  none,
  none,
  none,
  none,
  none,
  none,
  none,
  none,
  none,
  none,
  none,
  some { kind := TyKind.st [(3, 0), (3, 1), (3, 2), (3, 3)], size := 4, bytes := 32, zero := [Value.int IntKind.i64 0, Value.int IntKind.i64 0, Value.int IntKind.i64 0, Value.int IntKind.i64 0] },
  some { kind := TyKind.st [(3, 0), (3, 1), (3, 2), (3, 3)], size := 4, bytes := 32, zero := [Value.int IntKind.i64 0, Value.int IntKind.i64 0, Value.int IntKind.i64 0, Value.int IntKind.i64 0] },
  some { kind := TyKind.map 3 3, size := 1, bytes := 8, zero := [Value.map none] },
  none,
  some { kind := TyKind.st [(3, 0), (3, 1), (9, 2)], size := 3, bytes := 32, zero := [Value.int IntKind.i64 0, Value.int IntKind.i64 0, Value.string ByteArray.empty] },
  none,
  none,
  none,
  none,
  none,
  none,
  none,
  some { kind := TyKind.st [(3, 0), (3, 1), (3, 2), (23, 3)], size := 4, bytes := 48, zero := [Value.int IntKind.i64 0, Value.int IntKind.i64 0, Value.int IntKind.i64 0, Value.slice none 0 0] },
  none,
  some { kind := TyKind.st [(3, 0), (3, 1), (3, 2), (3, 3)], size := 4, bytes := 32, zero := [Value.int IntKind.i64 0, Value.int IntKind.i64 0, Value.int IntKind.i64 0, Value.int IntKind.i64 0] },
  some { kind := TyKind.sl 9, size := 1, bytes := 24, zero := [Value.slice none 0 0] },
  none,
  some { kind := TyKind.ptr 5, size := 1, bytes := 8, zero := [Value.pointer none] },
  none,
  none,
  none,
  none,
  none,
  none,
  none,
  none,
  none,
  none,
  none,
  none,
  none,
  none,
  none,
  none,
  none,
  none,
  some { kind := TyKind.int IntKind.u64, size := 1, bytes := 8, zero := [Value.int IntKind.u64 0] },
  none,
  none,
  none,
  none,
  some { kind := TyKind.int IntKind.i64, size := 1, bytes := 8, zero := [Value.int IntKind.i64 0] },
  none,
  none,
  some { kind := TyKind.ptr 156, size := 1, bytes := 8, zero := [Value.pointer none] },
  none,
  none,
  some { kind := TyKind.other, size := 1, bytes := 8, zero := [Value.nilFunc] },
  none,
  none,
  some { kind := TyKind.int IntKind.u32, size := 1, bytes := 4, zero := [Value.int IntKind.u32 0] },
  none,
  some { kind := TyKind.other, size := 1, bytes := 8, zero := [Value.nilFunc] },
  some { kind := TyKind.int IntKind.u64, size := 1, bytes := 8, zero := [Value.int IntKind.u64 0] },
  none,
  none,
  none,
  none,
  some { kind := TyKind.st [(9, 0), (9, 1), (73, 2)], size := 3, bytes := 48, zero := [Value.string ByteArray.empty, Value.string ByteArray.empty, Value.nilIface] },
  some { kind := TyKind.st [(9, 0), (9, 1), (73, 2)], size := 3, bytes := 48, zero := [Value.string ByteArray.empty, Value.string ByteArray.empty, Value.nilIface] },
  none,
  none,
  none,
  some { kind := TyKind.ptr 162, size := 1, bytes := 8, zero := [Value.pointer none] },
  some { kind := TyKind.st [(9, 0)], size := 1, bytes := 16, zero := [Value.string ByteArray.empty] },
  some { kind := TyKind.st [(9, 0)], size := 1, bytes := 16, zero := [Value.string ByteArray.empty] },
  none,
  none,
  some { kind := TyKind.st [(17, 0), (17, 1), (17, 2), (9, 3)], size := 4, bytes := 40, zero := [Value.pointer none, Value.pointer none, Value.pointer none, Value.string ByteArray.empty] },
  none,
  none,
  some { kind := TyKind.st [(167, 0)], size := 0, bytes := 0, zero := [] },
  none,
  none,
  none,
  none,
  none,
  none,
  none,
  some { kind := TyKind.st [(12, 0), (12, 1), (147, 2), (171, 3), (5, 4), (5, 5), (172, 6), (173, 7), (114, 8), (174, 9), (175, 10)], size := 11, bytes := 48, zero := [Value.int IntKind.u64 0, Value.int IntKind.u64 0, Value.int IntKind.u32 0, Value.int IntKind.u8 0, Value.int IntKind.u8 0, Value.int IntKind.u8 0, Value.int IntKind.u8 0, Value.nilFunc, Value.pointer none, Value.int IntKind.i32 0, Value.int IntKind.i32 0] },
  none]
def tt : TT := fun t => (tyTab[t]?).getD none
theorem tyTab_ok : ((List.range 178).map fun t => if ((tyTab[t]?).getD none).isSome then tyRow Tryd.prog t else none) = tyTab := by kernel_rfl
theorem tyOK : TyOK Tryd.prog tt := fun t r h => by
  have h' : (tyTab[t]?).getD none = some r := h
  have hlt : t < 178 := by
    rcases Nat.lt_or_ge t 178 with h1 | h1
    · exact h1
    · rw [List.getElem?_eq_none (by show _ ≤ t; exact h1)] at h'; cases h'
  have e := congrArg (fun l => l[t]?) tyTab_ok
  simp only [List.getElem?_map, List.getElem?_range hlt, Option.map_some] at e
  rw [h'] at e
  rw [← e] at h'
  simpa using h'
theorem tt_2 : tt 2 = some { kind := TyKind.int IntKind.i64, size := 1, bytes := 8, zero := [Value.int IntKind.i64 0] } := rfl
theorem tt_3 : tt 3 = some { kind := TyKind.int IntKind.i64, size := 1, bytes := 8, zero := [Value.int IntKind.i64 0] } := rfl
theorem tt_4 : tt 4 = some { kind := TyKind.bool, size := 1, bytes := 1, zero := [Value.bool false] } := rfl
theorem tt_5 : tt 5 = some { kind := TyKind.int IntKind.u8, size := 1, bytes := 1, zero := [Value.int IntKind.u8 0] } := rfl
theorem tt_7 : tt 7 = some { kind := TyKind.st [(2, 0), (3, 1), (4, 2), (6, 3)], size := 4, bytes := 24, zero := [Value.int IntKind.i64 0, Value.int IntKind.i64 0, Value.bool false, Value.int IntKind.u8 0] } := rfl
theorem tt_9 : tt 9 = some { kind := TyKind.str, size := 1, bytes := 16, zero := [Value.string ByteArray.empty] } := rfl
theorem tt_12 : tt 12 = some { kind := TyKind.int IntKind.u64, size := 1, bytes := 8, zero := [Value.int IntKind.u64 0] } := rfl
theorem tt_13 : tt 13 = some { kind := TyKind.st [(9, 0), (12, 1)], size := 2, bytes := 24, zero := [Value.string ByteArray.empty, Value.int IntKind.u64 0] } := rfl
theorem tt_18 : tt 18 = some { kind := TyKind.st [(17, 0)], size := 1, bytes := 8, zero := [Value.pointer none] } := rfl
theorem tt_20 : tt 20 = some { kind := TyKind.other, size := 1, bytes := 16, zero := [Value.nilIface] } := rfl
theorem tt_21 : tt 21 = some { kind := TyKind.int IntKind.i32, size := 1, bytes := 4, zero := [Value.int IntKind.i32 0] } := rfl
theorem tt_23 : tt 23 = some { kind := TyKind.sl 98, size := 1, bytes := 24, zero := [Value.slice none 0 0] } := rfl
theorem tt_24 : tt 24 = some { kind := TyKind.st [(3, 0), (3, 1), (3, 2), (23, 3)], size := 4, bytes := 48, zero := [Value.int IntKind.i64 0, Value.int IntKind.i64 0, Value.int IntKind.i64 0, Value.slice none 0 0] } := rfl
theorem tt_25 : tt 25 = some { kind := TyKind.st [(3, 0), (3, 1), (3, 2), (23, 3)], size := 4, bytes := 48, zero := [Value.int IntKind.i64 0, Value.int IntKind.i64 0, Value.int IntKind.i64 0, Value.slice none 0 0] } := rfl
theorem tt_26 : tt 26 = some { kind := TyKind.sl 51, size := 1, bytes := 24, zero := [Value.slice none 0 0] } := rfl
theorem tt_27 : tt 27 = some { kind := TyKind.st [(25, 0), (26, 4)], size := 5, bytes := 72, zero := [Value.int IntKind.i64 0, Value.int IntKind.i64 0, Value.int IntKind.i64 0, Value.slice none 0 0, Value.slice none 0 0] } := rfl
theorem tt_28 : tt 28 = some { kind := TyKind.st [(25, 0), (26, 4)], size := 5, bytes := 72, zero := [Value.int IntKind.i64 0, Value.int IntKind.i64 0, Value.int IntKind.i64 0, Value.slice none 0 0, Value.slice none 0 0] } := rfl
theorem tt_29 : tt 29 = some { kind := TyKind.int IntKind.i64, size := 1, bytes := 8, zero := [Value.int IntKind.i64 0] } := rfl
theorem tt_45 : tt 45 = some { kind := TyKind.sl 47, size := 1, bytes := 24, zero := [Value.slice none 0 0] } := rfl
theorem tt_47 : tt 47 = some { kind := TyKind.sl 49, size := 1, bytes := 24, zero := [Value.slice none 0 0] } := rfl
theorem tt_48 : tt 48 = some { kind := TyKind.st [(3, 0), (3, 1), (9, 2)], size := 3, bytes := 32, zero := [Value.int IntKind.i64 0, Value.int IntKind.i64 0, Value.string ByteArray.empty] } := rfl
theorem tt_49 : tt 49 = some { kind := TyKind.st [(3, 0), (3, 1), (9, 2)], size := 3, bytes := 32, zero := [Value.int IntKind.i64 0, Value.int IntKind.i64 0, Value.string ByteArray.empty] } := rfl
theorem tt_50 : tt 50 = some { kind := TyKind.st [(3, 0), (3, 1), (3, 2)], size := 3, bytes := 24, zero := [Value.int IntKind.i64 0, Value.int IntKind.i64 0, Value.int IntKind.i64 0] } := rfl
theorem tt_51 : tt 51 = some { kind := TyKind.st [(3, 0), (3, 1), (3, 2)], size := 3, bytes := 24, zero := [Value.int IntKind.i64 0, Value.int IntKind.i64 0, Value.int IntKind.i64 0] } := rfl
theorem tt_57 : tt 57 = some { kind := TyKind.sl 64, size := 1, bytes := 24, zero := [Value.slice none 0 0] } := rfl
theorem tt_64 : tt 64 = some { kind := TyKind.sl 101, size := 1, bytes := 24, zero := [Value.slice none 0 0] } := rfl
theorem tt_68 : tt 68 = some { kind := TyKind.ptr 71, size := 1, bytes := 8, zero := [Value.pointer none] } := rfl
theorem tt_69 : tt 69 = some { kind := TyKind.sl 5, size := 1, bytes := 24, zero := [Value.slice none 0 0] } := rfl
theorem tt_70 : tt 70 = some { kind := TyKind.st [(68, 0), (69, 1)], size := 2, bytes := 32, zero := [Value.pointer none, Value.slice none 0 0] } := rfl
theorem tt_71 : tt 71 = some { kind := TyKind.st [(68, 0), (69, 1)], size := 2, bytes := 32, zero := [Value.pointer none, Value.slice none 0 0] } := rfl
theorem tt_72 : tt 72 = some { kind := TyKind.other, size := 1, bytes := 16, zero := [Value.nilIface] } := rfl
theorem tt_73 : tt 73 = some { kind := TyKind.other, size := 1, bytes := 16, zero := [Value.nilIface] } := rfl
theorem tt_81 : tt 81 = some { kind := TyKind.sl 3, size := 1, bytes := 24, zero := [Value.slice none 0 0] } := rfl
theorem tt_97 : tt 97 = some { kind := TyKind.st [(3, 0), (3, 1), (3, 2), (3, 3)], size := 4, bytes := 32, zero := [Value.int IntKind.i64 0, Value.int IntKind.i64 0, Value.int IntKind.i64 0, Value.int IntKind.i64 0] } := rfl
theorem tt_98 : tt 98 = some { kind := TyKind.st [(3, 0), (3, 1), (3, 2), (3, 3)], size := 4, bytes := 32, zero := [Value.int IntKind.i64 0, Value.int IntKind.i64 0, Value.int IntKind.i64 0, Value.int IntKind.i64 0] } := rfl
theorem tt_99 : tt 99 = some { kind := TyKind.map 3 3, size := 1, bytes := 8, zero := [Value.map none] } := rfl
theorem tt_101 : tt 101 = some { kind := TyKind.st [(3, 0), (3, 1), (9, 2)], size := 3, bytes := 32, zero := [Value.int IntKind.i64 0, Value.int IntKind.i64 0, Value.string ByteArray.empty] } := rfl
theorem tt_109 : tt 109 = some { kind := TyKind.st [(3, 0), (3, 1), (3, 2), (23, 3)], size := 4, bytes := 48, zero := [Value.int IntKind.i64 0, Value.int IntKind.i64 0, Value.int IntKind.i64 0, Value.slice none 0 0] } := rfl
theorem tt_111 : tt 111 = some { kind := TyKind.st [(3, 0), (3, 1), (3, 2), (3, 3)], size := 4, bytes := 32, zero := [Value.int IntKind.i64 0, Value.int IntKind.i64 0, Value.int IntKind.i64 0, Value.int IntKind.i64 0] } := rfl
theorem tt_112 : tt 112 = some { kind := TyKind.sl 9, size := 1, bytes := 24, zero := [Value.slice none 0 0] } := rfl
theorem tt_114 : tt 114 = some { kind := TyKind.ptr 5, size := 1, bytes := 8, zero := [Value.pointer none] } := rfl
theorem tt_133 : tt 133 = some { kind := TyKind.int IntKind.u64, size := 1, bytes := 8, zero := [Value.int IntKind.u64 0] } := rfl
theorem tt_138 : tt 138 = some { kind := TyKind.int IntKind.i64, size := 1, bytes := 8, zero := [Value.int IntKind.i64 0] } := rfl
theorem tt_141 : tt 141 = some { kind := TyKind.ptr 156, size := 1, bytes := 8, zero := [Value.pointer none] } := rfl
theorem tt_144 : tt 144 = some { kind := TyKind.other, size := 1, bytes := 8, zero := [Value.nilFunc] } := rfl
theorem tt_147 : tt 147 = some { kind := TyKind.int IntKind.u32, size := 1, bytes := 4, zero := [Value.int IntKind.u32 0] } := rfl
theorem tt_149 : tt 149 = some { kind := TyKind.other, size := 1, bytes := 8, zero := [Value.nilFunc] } := rfl
theorem tt_150 : tt 150 = some { kind := TyKind.int IntKind.u64, size := 1, bytes := 8, zero := [Value.int IntKind.u64 0] } := rfl
theorem tt_155 : tt 155 = some { kind := TyKind.st [(9, 0), (9, 1), (73, 2)], size := 3, bytes := 48, zero := [Value.string ByteArray.empty, Value.string ByteArray.empty, Value.nilIface] } := rfl
theorem tt_156 : tt 156 = some { kind := TyKind.st [(9, 0), (9, 1), (73, 2)], size := 3, bytes := 48, zero := [Value.string ByteArray.empty, Value.string ByteArray.empty, Value.nilIface] } := rfl
theorem tt_160 : tt 160 = some { kind := TyKind.ptr 162, size := 1, bytes := 8, zero := [Value.pointer none] } := rfl
theorem tt_161 : tt 161 = some { kind := TyKind.st [(9, 0)], size := 1, bytes := 16, zero := [Value.string ByteArray.empty] } := rfl
theorem tt_162 : tt 162 = some { kind := TyKind.st [(9, 0)], size := 1, bytes := 16, zero := [Value.string ByteArray.empty] } := rfl
theorem tt_165 : tt 165 = some { kind := TyKind.st [(17, 0), (17, 1), (17, 2), (9, 3)], size := 4, bytes := 40, zero := [Value.pointer none, Value.pointer none, Value.pointer none, Value.string ByteArray.empty] } := rfl
theorem tt_168 : tt 168 = some { kind := TyKind.st [(167, 0)], size := 0, bytes := 0, zero := [] } := rfl
theorem tt_176 : tt 176 = some { kind := TyKind.st [(12, 0), (12, 1), (147, 2), (171, 3), (5, 4), (5, 5), (172, 6), (173, 7), (114, 8), (174, 9), (175, 10)], size := 11, bytes := 48, zero := [Value.int IntKind.u64 0, Value.int IntKind.u64 0, Value.int IntKind.u32 0, Value.int IntKind.u8 0, Value.int IntKind.u8 0, Value.int IntKind.u8 0, Value.int IntKind.u8 0, Value.nilFunc, Value.pointer none, Value.int IntKind.i32 0, Value.int IntKind.i32 0] } := rfl
end Go.Proofs.YtdaenbgjafalcaaDoor
namespace Go.Proofs.YtdaenbgjafalcaaDoor
open Go.RowKit Go.Shelf Go.Lib Go.Sort
set_option linter.unusedVariables false
def itoaM_ren : Go.Shelf.Ren := ⟨fun | 171 => 54 | 243 => 70 | 246 => 77 | 283 => 82 | 284 => 83 | 285 => 84 | 286 => 85 | 129 => 93 | 317 => 92 | 318 => 94 | 319 => 95 | 320 => 96 | 337 => 100 | 338 => 101 | n => n, fun | 3 => 3 | 9 => 9 | 2 => 2 | 4 => 4 | 171 => 132 | 0 => 0 | 53 => 133 | 37 => 69 | 5 => 5 | 173 => 136 | 212 => 146 | 51 => 147 | 20 => 20 | 213 => 148 | 46 => 150 | 232 => 163 | 233 => 164 | n => n, fun | 17 => 1 | 18 => 4 | 19 => 5 | n => n⟩
theorem itoaM : Go.Proofs.LaysM.n171 Tryd.prog itoaM_ren := {
  mixed := by kernel_rfl
  f129 := Tryd.func93.trans (congrArg some (by kernel_rfl))
  f171 := Tryd.func54.trans (congrArg some (by kernel_rfl))
  f243 := Tryd.func70.trans (congrArg some (by kernel_rfl))
  f246 := Tryd.func77.trans (congrArg some (by kernel_rfl))
  f283 := Tryd.func82.trans (congrArg some (by kernel_rfl))
  f284 := Tryd.func83.trans (congrArg some (by kernel_rfl))
  f285 := Tryd.func84.trans (congrArg some (by kernel_rfl))
  f286 := Tryd.func85.trans (congrArg some (by kernel_rfl))
  f317 := Tryd.func92.trans (congrArg some (by kernel_rfl))
  f318 := Tryd.func94.trans (congrArg some (by kernel_rfl))
  f319 := Tryd.func95.trans (congrArg some (by kernel_rfl))
  f320 := Tryd.func96.trans (congrArg some (by kernel_rfl))
  f337 := Tryd.func100.trans (congrArg some (by kernel_rfl))
  f338 := Tryd.func101.trans (congrArg some (by kernel_rfl))
  t0 := Tryd.underlying0
  a0 := Tryd.isAgg0
  z0 := Tryd.sizeOf0
  v0 := Tryd.zeroValue0
  t2 := Tryd.underlying2
  a2 := Tryd.isAgg2
  z2 := Tryd.sizeOf2
  v2 := Tryd.zeroValue2
  t3 := Tryd.underlying3
  a3 := Tryd.isAgg3
  z3 := Tryd.sizeOf3
  v3 := Tryd.zeroValue3
  t4 := Tryd.underlying4
  a4 := Tryd.isAgg4
  z4 := Tryd.sizeOf4
  v4 := Tryd.zeroValue4
  t5 := Tryd.underlying5
  a5 := Tryd.isAgg5
  z5 := Tryd.sizeOf5
  v5 := Tryd.zeroValue5
  t9 := Tryd.underlying9
  a9 := Tryd.isAgg9
  z9 := Tryd.sizeOf9
  v9 := Tryd.zeroValue9
  t20 := Tryd.underlying20
  a20 := Tryd.isAgg20
  z20 := Tryd.sizeOf20
  v20 := Tryd.zeroValue20
  t37 := Tryd.underlying69
  a37 := Tryd.isAgg69
  z37 := Tryd.sizeOf69
  v37 := Tryd.zeroValue69
  t46 := Tryd.underlying150
  a46 := Tryd.isAgg150
  z46 := Tryd.sizeOf150
  v46 := Tryd.zeroValue150
  t51 := Tryd.underlying147
  a51 := Tryd.isAgg147
  z51 := Tryd.sizeOf147
  v51 := Tryd.zeroValue147
  t53 := Tryd.underlying133
  a53 := Tryd.isAgg133
  z53 := Tryd.sizeOf133
  v53 := Tryd.zeroValue133
  t171 := Tryd.underlying132
  a171 := Tryd.isAgg132
  z171 := Tryd.sizeOf132
  v171 := Tryd.zeroValue132
  t173 := Tryd.underlying136
  a173 := Tryd.isAgg136
  z173 := Tryd.sizeOf136
  v173 := Tryd.zeroValue136
  t212 := Tryd.underlying146
  a212 := Tryd.isAgg146
  z212 := Tryd.sizeOf146
  v212 := Tryd.zeroValue146
  t213 := Tryd.underlying148
  a213 := Tryd.isAgg148
  z213 := Tryd.sizeOf148
  t232 := Tryd.underlying163
  a232 := Tryd.isAgg163
  z232 := Tryd.sizeOf163
  v232 := Tryd.zeroValue163
  t233 := Tryd.underlying164
  a233 := Tryd.isAgg164
  z233 := Tryd.sizeOf164
  v233 := Tryd.zeroValue164
  g17 := by kernel_rfl
  g18 := by kernel_rfl
  g19 := by kernel_rfl
  i0 := by kernel_rfl
  i2 := by kernel_rfl
  i3 := by kernel_rfl
  i4 := by kernel_rfl
  i5 := by kernel_rfl
  i9 := by kernel_rfl
  i20 := by kernel_rfl
  i37 := by kernel_rfl
  i46 := by kernel_rfl
  i51 := by kernel_rfl
  i53 := by kernel_rfl
  i171 := by kernel_rfl
  i173 := by kernel_rfl
  i212 := by kernel_rfl
  i232 := by kernel_rfl
  i233 := by kernel_rfl
  m17 := by kernel_rfl
  m18 := by kernel_rfl
  m19 := by kernel_rfl }
def itoaB (i : Int) : ByteArray := ⟨(Lib.itoa i).toArray⟩
theorem base_tab {G : Gh} {H : AHeap} {w : World} (hi : Inv G H w) : Lib.TabIs Tryd.prog w "internal/strconv.uint64pow10" .u64 Lib.pow10Tab := by
  obtain ⟨x, hx, t, fr, rfl⟩ := G.bs _ (List.Mem.head _)
  have hh := hi.fz _ _ hx
  have hg : Tryd.prog.globalNamed "internal/strconv.uint64pow10" = some 1 := by kernel_rfl
  have hh' : w.heap[1]? = _ := hh
  unfold Lib.TabIs World.var?
  rw [hg, Option.bind_some, hh']
theorem grown_below (w : World) (k : Nat) (os : Array Obj) : Below w.heap.size w (grow (w.drewN k) os) := by
  have h := Go.below_drewN (Below.refl w.heap.size w) k
  refine ⟨h.os, h.tape, h.output, ?_, fun b hb => ?_⟩
  · have := h.size
    show w.heap.size ≤ ((w.drewN k).heap ++ os).size
    rw [Array.size_append]; omega
  · show ((w.drewN k).heap ++ os)[b]? = _
    rw [Array.getElem?_append_left (by have := h.size; omega)]
    exact h.block b hb
theorem pf_ItoaG (i : Int) (h0 : -9223372036854775808 ≤ i) (h1 : i ≤ 9223372036854775807) : PF Tryd.prog 54 [lt (.int .i64 i)] fun r H' => r = lt (.string (itoaB i)) ∧ H' = [] :=
  PF_of_walk ⟨_, Tryd.func54, by kernel_rfl, rfl⟩ fun G w vs hi hr => by
    obtain ⟨v1, us, rfl, r1, hr⟩ := hr.uncons
    rw [hr.unnil, r1.lit_inv]
    have h := Any.strconv_Itoa itoaM i h0 h1 w (base_tab hi)
    refine (show Calls Tryd.prog 54 #[.int .i64 i] w _ from h).mono ?_
    rintro e w' ⟨rfl, k, os, rfl⟩
    exact ⟨rfl, grown_below _ _ _⟩
end Go.Proofs.YtdaenbgjafalcaaDoor
namespace Go.Proofs.YtdaenbgjafalcaaDoor
open Go.Lib
set_option linter.unusedVariables false
def isDg (c : UInt8) : Bool := decide (48 ≤ c.toNat ∧ c.toNat ≤ 57)
def dv (a : Nat) : List UInt8 → Nat
  | [] => a
  | c :: r => dv (a * 10 + (c.toNat - 48)) r
theorem dv_ge : ∀ (l : List UInt8) (a : Nat), a ≤ dv a l
  | [], a => Nat.le_refl _
  | c :: r, a => Nat.le_trans (by omega) (dv_ge r _)
theorem dv_snoc : ∀ (l : List UInt8) (a : Nat) (c : UInt8), dv a (l ++ [c]) = dv a l * 10 + (c.toNat - 48)
  | [], a, c => rfl
  | d :: r, a, c => dv_snoc r _ c
theorem parse_dv : ∀ (l : List UInt8) (a : Nat), a < 18446744073709551616 → l.all isDg = true → parseUint10 a l = if dv a l < 18446744073709551616 then .ok (dv a l) else .range
  | [], a, ha, _ => by rw [show dv a [] = a from rfl, if_pos ha]; rfl
  | c :: r, a, ha, h => by
    simp only [List.all_cons, Bool.and_eq_true] at h
    have hc : 48 ≤ c.toNat ∧ c.toNat ≤ 57 := of_decide_eq_true h.1
    have hg := dv_ge r (a * 10 + (c.toNat - 48))
    rw [show dv a (c :: r) = dv (a * 10 + (c.toNat - 48)) r from rfl, parseUint10, if_pos hc]
    by_cases h1 : 1844674407370955162 ≤ a
    · rw [if_pos h1, if_neg (by omega)]
    · rw [if_neg h1]
      by_cases h2 : 18446744073709551616 ≤ a * 10 + (c.toNat - 48)
      · rw [if_pos h2, if_neg (by omega)]
      · rw [if_neg h2, parse_dv r _ (by omega) h.2]
theorem dg_of {u : Nat} (h : u < 10) : (UInt8.ofNat (48 + u)).toNat = 48 + u := by
  rw [UInt8.toNat_ofNat']; omega
theorem dg_is {u : Nat} (h : u < 10) : isDg (UInt8.ofNat (48 + u)) = true := by
  have := dg_of h
  simp only [isDg, this]; exact decide_eq_true (by omega)
def noLz (l : List UInt8) : Bool := decide (l.length = 1) || (match l with | [] => false | c :: _ => decide (c.toNat ≠ 48))
theorem dec_dv (u : Nat) : (decDigits u).all isDg = true ∧ noLz (decDigits u) = true ∧ dv 0 (decDigits u) = u ∧ (1 ≤ u → ∃ c r, decDigits u = c :: r ∧ c.toNat ≠ 48) := by
  induction u using Nat.strongRecOn with
  | ind u ih =>
    rw [decDigits]
    by_cases h : u < 10
    · rw [dif_pos h]
      have := dg_of h
      exact ⟨by rw [List.all_cons, dg_is h]; rfl, rfl, by show 0 * 10 + ((UInt8.ofNat (48 + u)).toNat - 48) = u; omega, fun h1 => ⟨_, _, rfl, by omega⟩⟩
    · rw [dif_neg h]
      obtain ⟨h1, h2, h3, h4⟩ := ih (u / 10) (by omega)
      obtain ⟨c, r, h5, h6⟩ := h4 (by omega)
      have hm : u % 10 < 10 := by omega
      refine ⟨by rw [List.all_append, h1, List.all_cons, dg_is hm]; rfl, ?_, by rw [dv_snoc, h3, dg_of hm]; omega, fun _ => ⟨c, r ++ [UInt8.ofNat (48 + u % 10)], by rw [h5]; rfl, h6⟩⟩
      rw [h5]; simp [noLz, h6]
def magOf (l : List UInt8) : List UInt8 := trimPrefix l [45]
def numOk (l : List UInt8) : Bool := !(magOf l).isEmpty && l != [45, 48] && noLz (magOf l) && (magOf l).all isDg
theorem magOf_minus (r : List UInt8) : magOf (45 :: r) = r := by simp [magOf, trimPrefix, hasPrefix]
theorem magOf_plain {c : UInt8} {r : List UInt8} (h : c ≠ 45) : magOf (c :: r) = c :: r := by
  have : hasPrefix (c :: r) [45] = false := by simp [hasPrefix, List.isPrefixOf, Ne.symm h]
  simp [magOf, trimPrefix, this]
def numV (l : List UInt8) : Int := match l with | 45 :: r => -(dv 0 r : Int) | l => dv 0 l
theorem numV_minus (r : List UInt8) : numV (45 :: r) = -(dv 0 r : Int) := rfl
theorem numV_plain {c : UInt8} {r : List UInt8} (h : c ≠ 45) : numV (c :: r) = dv 0 (c :: r) := by
  unfold numV; split
  · rename_i e; simp at e; exact absurd e.1 h
  · rfl
theorem atoi_num {l : List UInt8} (h : numOk l = true) : atoiAll l = if -9223372036854775808 ≤ numV l ∧ numV l ≤ 9223372036854775807 then .ok (numV l) else .range := by
  simp only [numOk, Bool.and_eq_true, Bool.not_eq_true', List.isEmpty_eq_false_iff] at h
  obtain ⟨⟨⟨h1, h2⟩, h3⟩, h4⟩ := h
  cases l with
  | nil => exact absurd rfl h1
  | cons c r =>
    by_cases hc : c = 45
    · subst hc
      rw [magOf_minus] at h1 h3 h4
      rw [atoiAll_minus, numV_minus, parseMag, if_neg h1, parse_dv r 0 (by omega) h4]
      by_cases hb : dv 0 r < 18446744073709551616
      · rw [if_pos hb]
        simp only [signed]
        by_cases h5 : 9223372036854775808 < dv 0 r
        · rw [if_pos h5, if_neg (by omega)]
        · rw [if_neg h5, if_pos (by omega)]
      · rw [if_neg hb, if_neg (by omega)]; rfl
    · rw [magOf_plain hc] at h1 h3 h4
      have hdc : 48 ≤ c.toNat ∧ c.toNat ≤ 57 := of_decide_eq_true (by simp only [List.all_cons, Bool.and_eq_true] at h4; exact h4.1)
      rw [atoiAll_plain c r (by omega) (by omega), numV_plain hc, parseMag, if_neg h1, parse_dv _ 0 (by omega) h4]
      by_cases hb : dv 0 (c :: r) < 18446744073709551616
      · rw [if_pos hb]
        simp only [signless]
        by_cases h5 : 9223372036854775808 ≤ dv 0 (c :: r)
        · rw [if_pos h5, if_neg (by omega)]
        · rw [if_neg h5, if_pos (by omega)]
      · rw [if_neg hb, if_neg (by omega)]; rfl
def numR (l : List UInt8) (lo hi : Int) : Int × Int := if numOk l = false then (0, 5) else if -9223372036854775808 ≤ numV l ∧ numV l ≤ 9223372036854775807 ∧ lo ≤ numV l ∧ numV l ≤ hi then (numV l, 0) else (0, 7)
theorem itoa_num (n : Int) : numOk (itoa n) = true ∧ numV (itoa n) = n := by
  unfold itoa
  by_cases h : n < 0
  · rw [if_pos h]
    have e9 : -((n.natAbs : Nat) : Int) = n := by omega
    obtain ⟨h1, h2, h3, h4⟩ := dec_dv n.natAbs
    obtain ⟨c, r, h5, h6⟩ := h4 (by omega)
    have h7 : c ≠ 48 := fun e => h6 (by rw [e]; rfl)
    refine ⟨?_, by rw [numV_minus, h3, e9]⟩
    simp only [numOk, magOf_minus, h1, h2, Bool.and_true]
    rw [h5]; simp [h7]
  · rw [if_neg h]
    obtain ⟨h1, h2, h3, h4⟩ := dec_dv n.toNat
    cases hl : decDigits n.toNat with
    | nil => rw [hl] at h2; simp [noLz] at h2
    | cons c r =>
      rw [hl] at h1 h2 h3
      have hdc : 48 ≤ c.toNat ∧ c.toNat ≤ 57 := of_decide_eq_true (by simp only [List.all_cons, Bool.and_eq_true] at h1; exact h1.1)
      have hc : c ≠ 45 := fun e => by rw [e] at hdc; exact absurd hdc.1 (by decide)
      refine ⟨?_, by rw [numV_plain hc, h3]; omega⟩
      simp only [numOk, magOf_plain hc, h1, h2, Bool.and_true]
      simp [hc]
end Go.Proofs.YtdaenbgjafalcaaDoor
