import Derived.Test.YtghdacijcnmhlaaDoorProg
import Derived.Test.YtghdacijcnmhlaaDoorMgAD
import Derived.Shelf.Strconv.Itoa3
import Derived.Test.YtghdacijcnmhlaaDoorMgAF
import Derived.Lib.AtoiAllCases
import Derived.Lib.ItoaNum
import Derived.Lib.Strings
namespace Go.Proofs.YtghdacijcnmhlaaDoor
open Go.RowKit
def tyTab : List (Option TyRow) := [
  none,
  none,
  some { kind := TyKind.int IntKind.i64, size := 1, bytes := 8, zero := [Value.int IntKind.i64 0] },
  some { kind := TyKind.int IntKind.i64, size := 1, bytes := 8, zero := [Value.int IntKind.i64 0] },
  some { kind := TyKind.bool, size := 1, bytes := 1, zero := [Value.bool false] },
  some { kind := TyKind.int IntKind.u8, size := 1, bytes := 1, zero := [Value.int IntKind.u8 0] },
  none,
  some { kind := TyKind.st [(2, 0), (3, 1), (4, 2), (6, 3)], size := 4, bytes := 24, zero := [Value.int IntKind.i64 0, Value.int IntKind.i64 0, Value.bool false, Value.int IntKind.u8 0] },
  none,
  some { kind := TyKind.str, size := 1, bytes := 16, zero := [Value.string ByteArray.empty] },
  none,
  none,
  some { kind := TyKind.int IntKind.u64, size := 1, bytes := 8, zero := [Value.int IntKind.u64 0] },
  some { kind := TyKind.st [(9, 0), (12, 1)], size := 2, bytes := 24, zero := [Value.string ByteArray.empty, Value.int IntKind.u64 0] },
  none,
  none,
  none,
  none,
  some { kind := TyKind.st [(17, 0)], size := 1, bytes := 8, zero := [Value.pointer none] },
  none,
  some { kind := TyKind.other, size := 1, bytes := 16, zero := [Value.nilIface] },
  some { kind := TyKind.int IntKind.i32, size := 1, bytes := 4, zero := [Value.int IntKind.i32 0] },
  none,
  some { kind := TyKind.sl 52, size := 1, bytes := 24, zero := [Value.slice none 0 0] },
  some { kind := TyKind.int IntKind.i64, size := 1, bytes := 8, zero := [Value.int IntKind.i64 0] },
  none,
  none,
  none,
  none,
  none,
  none,
  some { kind := TyKind.sl 3, size := 1, bytes := 24, zero := [Value.slice none 0 0] },
  none,
  none,
  none,
  none,
  none,
  none,
  none,
  none,
  none,
  some { kind := TyKind.sl 31, size := 1, bytes := 24, zero := [Value.slice none 0 0] },
  none,
  none,
  none,
  none,
  none,
  none,
  some { kind := TyKind.sl 53, size := 1, bytes := 24, zero := [Value.slice none 0 0] },
  none,
  none,
  some { kind := TyKind.st [(3, 0), (3, 1), (31, 2), (31, 3)], size := 4, bytes := 64, zero := [Value.int IntKind.i64 0, Value.int IntKind.i64 0, Value.slice none 0 0, Value.slice none 0 0] },
  some { kind := TyKind.st [(3, 0), (3, 1), (31, 2), (31, 3)], size := 4, bytes := 64, zero := [Value.int IntKind.i64 0, Value.int IntKind.i64 0, Value.slice none 0 0, Value.slice none 0 0] },
  some { kind := TyKind.sl 58, size := 1, bytes := 24, zero := [Value.slice none 0 0] },
  some { kind := TyKind.st [(53, 0), (3, 1), (3, 2), (24, 3)], size := 4, bytes := 48, zero := [Value.slice none 0 0, Value.int IntKind.i64 0, Value.int IntKind.i64 0, Value.int IntKind.i64 0] },
  some { kind := TyKind.st [(53, 0), (3, 1), (3, 2), (24, 3)], size := 4, bytes := 48, zero := [Value.slice none 0 0, Value.int IntKind.i64 0, Value.int IntKind.i64 0, Value.int IntKind.i64 0] },
  none,
  some { kind := TyKind.st [(3, 0), (3, 1), (9, 2)], size := 3, bytes := 32, zero := [Value.int IntKind.i64 0, Value.int IntKind.i64 0, Value.string ByteArray.empty] },
  some { kind := TyKind.st [(3, 0), (3, 1), (9, 2)], size := 3, bytes := 32, zero := [Value.int IntKind.i64 0, Value.int IntKind.i64 0, Value.string ByteArray.empty] },
  none,
  some { kind := TyKind.sl 62, size := 1, bytes := 24, zero := [Value.slice none 0 0] },
  none,
  some { kind := TyKind.sl 63, size := 1, bytes := 24, zero := [Value.slice none 0 0] },
  some { kind := TyKind.st [(3, 0), (3, 1), (9, 2)], size := 3, bytes := 32, zero := [Value.int IntKind.i64 0, Value.int IntKind.i64 0, Value.string ByteArray.empty] },
  none,
  none,
  none,
  none,
  none,
  some { kind := TyKind.ptr 72, size := 1, bytes := 8, zero := [Value.pointer none] },
  some { kind := TyKind.sl 5, size := 1, bytes := 24, zero := [Value.slice none 0 0] },
  some { kind := TyKind.st [(69, 0), (70, 1)], size := 2, bytes := 32, zero := [Value.pointer none, Value.slice none 0 0] },
  some { kind := TyKind.st [(69, 0), (70, 1)], size := 2, bytes := 32, zero := [Value.pointer none, Value.slice none 0 0] },
  none,
  none,
  some { kind := TyKind.st [(3, 0), (3, 1), (31, 2), (31, 3)], size := 4, bytes := 64, zero := [Value.int IntKind.i64 0, Value.int IntKind.i64 0, Value.slice none 0 0, Value.slice none 0 0] },
  some { kind := TyKind.other, size := 1, bytes := 16, zero := [Value.nilIface] },
  some { kind := TyKind.other, size := 1, bytes := 16, zero := [Value.nilIface] },
  none,
  none,
  none,
  none,
  none,
  none,
  none,
  none,
  none,
  some { kind := TyKind.ptr 55, size := 1, bytes := 8, zero := [Value.pointer none] },
  none,
  none,
  none,
  none,
  none,
  some { kind := TyKind.st [(31, 0), (3, 1), (3, 2), (3, 3)], size := 4, bytes := 48, zero := [Value.slice none 0 0, Value.int IntKind.i64 0, Value.int IntKind.i64 0, Value.int IntKind.i64 0] },
  some { kind := TyKind.st [(31, 0), (3, 1), (3, 2), (3, 3)], size := 4, bytes := 48, zero := [Value.slice none 0 0, Value.int IntKind.i64 0, Value.int IntKind.i64 0, Value.int IntKind.i64 0] },
  none,
  none,
  some { kind := TyKind.other, size := 1, bytes := 8, zero := [Value.nilFunc] },
  none,
  none,
  none,
  none,
  some { kind := TyKind.ptr 5, size := 1, bytes := 8, zero := [Value.pointer none] },
  none,
  some { kind := TyKind.map 3 105, size := 1, bytes := 8, zero := [Value.map none] },
  some { kind := TyKind.st [], size := 0, bytes := 0, zero := [] },
  none,
  none,
  none,
  none,
  none,
  none,
  none,
  none,
  some { kind := TyKind.other, size := 1, bytes := 8, zero := [Value.nilFunc] },
  none,
  none,
  some { kind := TyKind.int IntKind.i64, size := 1, bytes := 8, zero := [Value.int IntKind.i64 0] },
  none,
  some { kind := TyKind.int IntKind.i64, size := 1, bytes := 8, zero := [Value.int IntKind.i64 0] },
  none,
  none,
  some { kind := TyKind.ptr 136, size := 1, bytes := 8, zero := [Value.pointer none] },
  none,
  none,
  none,
  some { kind := TyKind.int IntKind.u64, size := 1, bytes := 8, zero := [Value.int IntKind.u64 0] },
  none,
  none,
  none,
  none,
  none,
  none,
  some { kind := TyKind.int IntKind.u64, size := 1, bytes := 8, zero := [Value.int IntKind.u64 0] },
  none,
  some { kind := TyKind.st [(9, 0), (9, 1), (77, 2)], size := 3, bytes := 48, zero := [Value.string ByteArray.empty, Value.string ByteArray.empty, Value.nilIface] },
  some { kind := TyKind.st [(9, 0), (9, 1), (77, 2)], size := 3, bytes := 48, zero := [Value.string ByteArray.empty, Value.string ByteArray.empty, Value.nilIface] },
  none,
  none,
  none,
  some { kind := TyKind.int IntKind.u32, size := 1, bytes := 4, zero := [Value.int IntKind.u32 0] },
  none,
  none,
  none,
  some { kind := TyKind.ptr 146, size := 1, bytes := 8, zero := [Value.pointer none] },
  some { kind := TyKind.st [(9, 0)], size := 1, bytes := 16, zero := [Value.string ByteArray.empty] },
  some { kind := TyKind.st [(9, 0)], size := 1, bytes := 16, zero := [Value.string ByteArray.empty] },
  none,
  none,
  none,
  some { kind := TyKind.st [(17, 0), (17, 1), (17, 2), (9, 3)], size := 4, bytes := 40, zero := [Value.pointer none, Value.pointer none, Value.pointer none, Value.string ByteArray.empty] },
  none,
  none,
  some { kind := TyKind.st [(152, 0)], size := 0, bytes := 0, zero := [] },
  none,
  none,
  none,
  none,
  none,
  none,
  some { kind := TyKind.st [(12, 0), (12, 1), (140, 2), (155, 3), (5, 4), (5, 5), (156, 6), (157, 7), (102, 8), (158, 9), (159, 10)], size := 11, bytes := 48, zero := [Value.int IntKind.u64 0, Value.int IntKind.u64 0, Value.int IntKind.u32 0, Value.int IntKind.u8 0, Value.int IntKind.u8 0, Value.int IntKind.u8 0, Value.int IntKind.u8 0, Value.nilFunc, Value.pointer none, Value.int IntKind.i32 0, Value.int IntKind.i32 0] },
  none]
def tt : TT := fun t => (tyTab[t]?).getD none
theorem tyTab_ok : ((List.range 162).map fun t => if ((tyTab[t]?).getD none).isSome then tyRow Tryd.prog t else none) = tyTab := by kernel_rfl
theorem tyOK : TyOK Tryd.prog tt := fun t r h => by
  have h' : (tyTab[t]?).getD none = some r := h
  have hlt : t < 162 := by
    rcases Nat.lt_or_ge t 162 with h1 | h1
    · exact h1
    · rw [List.getElem?_eq_none (by show _ ≤ t; exact h1)] at h'; cases h'
  have e := congrArg (fun l => l[t]?) tyTab_ok
  simp only [List.getElem?_map, List.getElem?_range hlt, Option.map_some] at e
  rw [h'] at e
  rw [← e] at h'
  simpa using h'
theorem tt_2 : tt 2 = some { kind := TyKind.int IntKind.i64, size := 1, bytes := 8, zero := [Value.int IntKind.i64 0] } := rfl
theorem tt_3 : tt 3 = some { kind := TyKind.int IntKind.i64, size := 1, bytes := 8, zero := [Value.int IntKind.i64 0] } := rfl
theorem tt_4 : tt 4 = some { kind := TyKind.bool, size := 1, bytes := 1, zero := [Value.bool false] } := rfl
theorem tt_5 : tt 5 = some { kind := TyKind.int IntKind.u8, size := 1, bytes := 1, zero := [Value.int IntKind.u8 0] } := rfl
theorem tt_7 : tt 7 = some { kind := TyKind.st [(2, 0), (3, 1), (4, 2), (6, 3)], size := 4, bytes := 24, zero := [Value.int IntKind.i64 0, Value.int IntKind.i64 0, Value.bool false, Value.int IntKind.u8 0] } := rfl
theorem tt_9 : tt 9 = some { kind := TyKind.str, size := 1, bytes := 16, zero := [Value.string ByteArray.empty] } := rfl
theorem tt_12 : tt 12 = some { kind := TyKind.int IntKind.u64, size := 1, bytes := 8, zero := [Value.int IntKind.u64 0] } := rfl
theorem tt_13 : tt 13 = some { kind := TyKind.st [(9, 0), (12, 1)], size := 2, bytes := 24, zero := [Value.string ByteArray.empty, Value.int IntKind.u64 0] } := rfl
theorem tt_18 : tt 18 = some { kind := TyKind.st [(17, 0)], size := 1, bytes := 8, zero := [Value.pointer none] } := rfl
theorem tt_20 : tt 20 = some { kind := TyKind.other, size := 1, bytes := 16, zero := [Value.nilIface] } := rfl
theorem tt_21 : tt 21 = some { kind := TyKind.int IntKind.i32, size := 1, bytes := 4, zero := [Value.int IntKind.i32 0] } := rfl
theorem tt_23 : tt 23 = some { kind := TyKind.sl 52, size := 1, bytes := 24, zero := [Value.slice none 0 0] } := rfl
theorem tt_24 : tt 24 = some { kind := TyKind.int IntKind.i64, size := 1, bytes := 8, zero := [Value.int IntKind.i64 0] } := rfl
theorem tt_31 : tt 31 = some { kind := TyKind.sl 3, size := 1, bytes := 24, zero := [Value.slice none 0 0] } := rfl
theorem tt_41 : tt 41 = some { kind := TyKind.sl 31, size := 1, bytes := 24, zero := [Value.slice none 0 0] } := rfl
theorem tt_48 : tt 48 = some { kind := TyKind.sl 53, size := 1, bytes := 24, zero := [Value.slice none 0 0] } := rfl
theorem tt_51 : tt 51 = some { kind := TyKind.st [(3, 0), (3, 1), (31, 2), (31, 3)], size := 4, bytes := 64, zero := [Value.int IntKind.i64 0, Value.int IntKind.i64 0, Value.slice none 0 0, Value.slice none 0 0] } := rfl
theorem tt_52 : tt 52 = some { kind := TyKind.st [(3, 0), (3, 1), (31, 2), (31, 3)], size := 4, bytes := 64, zero := [Value.int IntKind.i64 0, Value.int IntKind.i64 0, Value.slice none 0 0, Value.slice none 0 0] } := rfl
theorem tt_53 : tt 53 = some { kind := TyKind.sl 58, size := 1, bytes := 24, zero := [Value.slice none 0 0] } := rfl
theorem tt_54 : tt 54 = some { kind := TyKind.st [(53, 0), (3, 1), (3, 2), (24, 3)], size := 4, bytes := 48, zero := [Value.slice none 0 0, Value.int IntKind.i64 0, Value.int IntKind.i64 0, Value.int IntKind.i64 0] } := rfl
theorem tt_55 : tt 55 = some { kind := TyKind.st [(53, 0), (3, 1), (3, 2), (24, 3)], size := 4, bytes := 48, zero := [Value.slice none 0 0, Value.int IntKind.i64 0, Value.int IntKind.i64 0, Value.int IntKind.i64 0] } := rfl
theorem tt_57 : tt 57 = some { kind := TyKind.st [(3, 0), (3, 1), (9, 2)], size := 3, bytes := 32, zero := [Value.int IntKind.i64 0, Value.int IntKind.i64 0, Value.string ByteArray.empty] } := rfl
theorem tt_58 : tt 58 = some { kind := TyKind.st [(3, 0), (3, 1), (9, 2)], size := 3, bytes := 32, zero := [Value.int IntKind.i64 0, Value.int IntKind.i64 0, Value.string ByteArray.empty] } := rfl
theorem tt_60 : tt 60 = some { kind := TyKind.sl 62, size := 1, bytes := 24, zero := [Value.slice none 0 0] } := rfl
theorem tt_62 : tt 62 = some { kind := TyKind.sl 63, size := 1, bytes := 24, zero := [Value.slice none 0 0] } := rfl
theorem tt_63 : tt 63 = some { kind := TyKind.st [(3, 0), (3, 1), (9, 2)], size := 3, bytes := 32, zero := [Value.int IntKind.i64 0, Value.int IntKind.i64 0, Value.string ByteArray.empty] } := rfl
theorem tt_69 : tt 69 = some { kind := TyKind.ptr 72, size := 1, bytes := 8, zero := [Value.pointer none] } := rfl
theorem tt_70 : tt 70 = some { kind := TyKind.sl 5, size := 1, bytes := 24, zero := [Value.slice none 0 0] } := rfl
theorem tt_71 : tt 71 = some { kind := TyKind.st [(69, 0), (70, 1)], size := 2, bytes := 32, zero := [Value.pointer none, Value.slice none 0 0] } := rfl
theorem tt_72 : tt 72 = some { kind := TyKind.st [(69, 0), (70, 1)], size := 2, bytes := 32, zero := [Value.pointer none, Value.slice none 0 0] } := rfl
theorem tt_75 : tt 75 = some { kind := TyKind.st [(3, 0), (3, 1), (31, 2), (31, 3)], size := 4, bytes := 64, zero := [Value.int IntKind.i64 0, Value.int IntKind.i64 0, Value.slice none 0 0, Value.slice none 0 0] } := rfl
theorem tt_76 : tt 76 = some { kind := TyKind.other, size := 1, bytes := 16, zero := [Value.nilIface] } := rfl
theorem tt_77 : tt 77 = some { kind := TyKind.other, size := 1, bytes := 16, zero := [Value.nilIface] } := rfl
theorem tt_87 : tt 87 = some { kind := TyKind.ptr 55, size := 1, bytes := 8, zero := [Value.pointer none] } := rfl
theorem tt_93 : tt 93 = some { kind := TyKind.st [(31, 0), (3, 1), (3, 2), (3, 3)], size := 4, bytes := 48, zero := [Value.slice none 0 0, Value.int IntKind.i64 0, Value.int IntKind.i64 0, Value.int IntKind.i64 0] } := rfl
theorem tt_94 : tt 94 = some { kind := TyKind.st [(31, 0), (3, 1), (3, 2), (3, 3)], size := 4, bytes := 48, zero := [Value.slice none 0 0, Value.int IntKind.i64 0, Value.int IntKind.i64 0, Value.int IntKind.i64 0] } := rfl
theorem tt_97 : tt 97 = some { kind := TyKind.other, size := 1, bytes := 8, zero := [Value.nilFunc] } := rfl
theorem tt_102 : tt 102 = some { kind := TyKind.ptr 5, size := 1, bytes := 8, zero := [Value.pointer none] } := rfl
theorem tt_104 : tt 104 = some { kind := TyKind.map 3 105, size := 1, bytes := 8, zero := [Value.map none] } := rfl
theorem tt_105 : tt 105 = some { kind := TyKind.st [], size := 0, bytes := 0, zero := [] } := rfl
theorem tt_114 : tt 114 = some { kind := TyKind.other, size := 1, bytes := 8, zero := [Value.nilFunc] } := rfl
theorem tt_117 : tt 117 = some { kind := TyKind.int IntKind.i64, size := 1, bytes := 8, zero := [Value.int IntKind.i64 0] } := rfl
theorem tt_119 : tt 119 = some { kind := TyKind.int IntKind.i64, size := 1, bytes := 8, zero := [Value.int IntKind.i64 0] } := rfl
theorem tt_122 : tt 122 = some { kind := TyKind.ptr 136, size := 1, bytes := 8, zero := [Value.pointer none] } := rfl
theorem tt_126 : tt 126 = some { kind := TyKind.int IntKind.u64, size := 1, bytes := 8, zero := [Value.int IntKind.u64 0] } := rfl
theorem tt_133 : tt 133 = some { kind := TyKind.int IntKind.u64, size := 1, bytes := 8, zero := [Value.int IntKind.u64 0] } := rfl
theorem tt_135 : tt 135 = some { kind := TyKind.st [(9, 0), (9, 1), (77, 2)], size := 3, bytes := 48, zero := [Value.string ByteArray.empty, Value.string ByteArray.empty, Value.nilIface] } := rfl
theorem tt_136 : tt 136 = some { kind := TyKind.st [(9, 0), (9, 1), (77, 2)], size := 3, bytes := 48, zero := [Value.string ByteArray.empty, Value.string ByteArray.empty, Value.nilIface] } := rfl
theorem tt_140 : tt 140 = some { kind := TyKind.int IntKind.u32, size := 1, bytes := 4, zero := [Value.int IntKind.u32 0] } := rfl
theorem tt_144 : tt 144 = some { kind := TyKind.ptr 146, size := 1, bytes := 8, zero := [Value.pointer none] } := rfl
theorem tt_145 : tt 145 = some { kind := TyKind.st [(9, 0)], size := 1, bytes := 16, zero := [Value.string ByteArray.empty] } := rfl
theorem tt_146 : tt 146 = some { kind := TyKind.st [(9, 0)], size := 1, bytes := 16, zero := [Value.string ByteArray.empty] } := rfl
theorem tt_150 : tt 150 = some { kind := TyKind.st [(17, 0), (17, 1), (17, 2), (9, 3)], size := 4, bytes := 40, zero := [Value.pointer none, Value.pointer none, Value.pointer none, Value.string ByteArray.empty] } := rfl
theorem tt_153 : tt 153 = some { kind := TyKind.st [(152, 0)], size := 0, bytes := 0, zero := [] } := rfl
theorem tt_160 : tt 160 = some { kind := TyKind.st [(12, 0), (12, 1), (140, 2), (155, 3), (5, 4), (5, 5), (156, 6), (157, 7), (102, 8), (158, 9), (159, 10)], size := 11, bytes := 48, zero := [Value.int IntKind.u64 0, Value.int IntKind.u64 0, Value.int IntKind.u32 0, Value.int IntKind.u8 0, Value.int IntKind.u8 0, Value.int IntKind.u8 0, Value.int IntKind.u8 0, Value.nilFunc, Value.pointer none, Value.int IntKind.i32 0, Value.int IntKind.i32 0] } := rfl
end Go.Proofs.YtghdacijcnmhlaaDoor
namespace Go.Proofs.YtghdacijcnmhlaaDoor
open Go.RowKit Go.Shelf Go.Lib Go.Sort
set_option linter.unusedVariables false
def itoaM_ren : Go.Shelf.Ren := ⟨fun | 171 => 65 | 243 => 73 | 246 => 78 | 283 => 85 | 284 => 86 | 285 => 87 | 286 => 88 | 129 => 93 | 317 => 92 | 318 => 94 | 319 => 95 | 320 => 96 | 337 => 99 | 338 => 100 | n => n, fun | 3 => 3 | 9 => 9 | 2 => 2 | 4 => 4 | 171 => 125 | 0 => 0 | 53 => 126 | 37 => 70 | 5 => 5 | 173 => 129 | 212 => 139 | 51 => 140 | 20 => 20 | 213 => 141 | 46 => 133 | 232 => 148 | 233 => 149 | n => n, fun | 17 => 3 | 18 => 4 | 19 => 5 | n => n⟩
theorem itoaM : Go.Proofs.LaysM.n171 Tryd.prog itoaM_ren := {
  mixed := by kernel_rfl
  f129 := Tryd.func93.trans (congrArg some (by kernel_rfl))
  f171 := Tryd.func65.trans (congrArg some (by kernel_rfl))
  f243 := Tryd.func73.trans (congrArg some (by kernel_rfl))
  f246 := Tryd.func78.trans (congrArg some (by kernel_rfl))
  f283 := Tryd.func85.trans (congrArg some (by kernel_rfl))
  f284 := Tryd.func86.trans (congrArg some (by kernel_rfl))
  f285 := Tryd.func87.trans (congrArg some (by kernel_rfl))
  f286 := Tryd.func88.trans (congrArg some (by kernel_rfl))
  f317 := Tryd.func92.trans (congrArg some (by kernel_rfl))
  f318 := Tryd.func94.trans (congrArg some (by kernel_rfl))
  f319 := Tryd.func95.trans (congrArg some (by kernel_rfl))
  f320 := Tryd.func96.trans (congrArg some (by kernel_rfl))
  f337 := Tryd.func99.trans (congrArg some (by kernel_rfl))
  f338 := Tryd.func100.trans (congrArg some (by kernel_rfl))
  t0 := Tryd.underlying0
  a0 := Tryd.isAgg0
  z0 := Tryd.sizeOf0
  v0 := Tryd.zeroValue0
  t2 := Tryd.underlying2
  a2 := Tryd.isAgg2
  z2 := Tryd.sizeOf2
  v2 := Tryd.zeroValue2
  t3 := Tryd.underlying3
  a3 := Tryd.isAgg3
  z3 := Tryd.sizeOf3
  v3 := Tryd.zeroValue3
  t4 := Tryd.underlying4
  a4 := Tryd.isAgg4
  z4 := Tryd.sizeOf4
  v4 := Tryd.zeroValue4
  t5 := Tryd.underlying5
  a5 := Tryd.isAgg5
  z5 := Tryd.sizeOf5
  v5 := Tryd.zeroValue5
  t9 := Tryd.underlying9
  a9 := Tryd.isAgg9
  z9 := Tryd.sizeOf9
  v9 := Tryd.zeroValue9
  t20 := Tryd.underlying20
  a20 := Tryd.isAgg20
  z20 := Tryd.sizeOf20
  v20 := Tryd.zeroValue20
  t37 := Tryd.underlying70
  a37 := Tryd.isAgg70
  z37 := Tryd.sizeOf70
  v37 := Tryd.zeroValue70
  t46 := Tryd.underlying133
  a46 := Tryd.isAgg133
  z46 := Tryd.sizeOf133
  v46 := Tryd.zeroValue133
  t51 := Tryd.underlying140
  a51 := Tryd.isAgg140
  z51 := Tryd.sizeOf140
  v51 := Tryd.zeroValue140
  t53 := Tryd.underlying126
  a53 := Tryd.isAgg126
  z53 := Tryd.sizeOf126
  v53 := Tryd.zeroValue126
  t171 := Tryd.underlying125
  a171 := Tryd.isAgg125
  z171 := Tryd.sizeOf125
  v171 := Tryd.zeroValue125
  t173 := Tryd.underlying129
  a173 := Tryd.isAgg129
  z173 := Tryd.sizeOf129
  v173 := Tryd.zeroValue129
  t212 := Tryd.underlying139
  a212 := Tryd.isAgg139
  z212 := Tryd.sizeOf139
  v212 := Tryd.zeroValue139
  t213 := Tryd.underlying141
  a213 := Tryd.isAgg141
  z213 := Tryd.sizeOf141
  t232 := Tryd.underlying148
  a232 := Tryd.isAgg148
  z232 := Tryd.sizeOf148
  v232 := Tryd.zeroValue148
  t233 := Tryd.underlying149
  a233 := Tryd.isAgg149
  z233 := Tryd.sizeOf149
  v233 := Tryd.zeroValue149
  g17 := by kernel_rfl
  g18 := by kernel_rfl
  g19 := by kernel_rfl
  i0 := by kernel_rfl
  i2 := by kernel_rfl
  i3 := by kernel_rfl
  i4 := by kernel_rfl
  i5 := by kernel_rfl
  i9 := by kernel_rfl
  i20 := by kernel_rfl
  i37 := by kernel_rfl
  i46 := by kernel_rfl
  i51 := by kernel_rfl
  i53 := by kernel_rfl
  i171 := by kernel_rfl
  i173 := by kernel_rfl
  i212 := by kernel_rfl
  i232 := by kernel_rfl
  i233 := by kernel_rfl
  m17 := by kernel_rfl
  m18 := by kernel_rfl
  m19 := by kernel_rfl }
def itoaB (i : Int) : ByteArray := ⟨(Lib.itoa i).toArray⟩
theorem base_tab {G : Gh} {H : AHeap} {w : World} (hi : Inv G H w) : Lib.TabIs Tryd.prog w "internal/strconv.uint64pow10" .u64 Lib.pow10Tab := by
  obtain ⟨x, hx, t, fr, rfl⟩ := G.bs _ (List.Mem.head _)
  have hh := hi.fz _ _ hx
  have hg : Tryd.prog.globalNamed "internal/strconv.uint64pow10" = some 3 := by kernel_rfl
  have hh' : w.heap[3]? = _ := hh
  unfold Lib.TabIs World.var?
  rw [hg, Option.bind_some, hh']
theorem grown_below (w : World) (k : Nat) (os : Array Obj) : Below w.heap.size w (grow (w.drewN k) os) := by
  have h := Go.below_drewN (Below.refl w.heap.size w) k
  refine ⟨h.os, h.tape, h.output, ?_, fun b hb => ?_⟩
  · have := h.size
    show w.heap.size ≤ ((w.drewN k).heap ++ os).size
    rw [Array.size_append]; omega
  · show ((w.drewN k).heap ++ os)[b]? = _
    rw [Array.getElem?_append_left (by have := h.size; omega)]
    exact h.block b hb
theorem pf_ItoaG (i : Int) (h0 : -9223372036854775808 ≤ i) (h1 : i ≤ 9223372036854775807) : PF Tryd.prog 65 [lt (.int .i64 i)] fun r H' => r = lt (.string (itoaB i)) ∧ H' = [] :=
  PF_of_walk ⟨_, Tryd.func65, by kernel_rfl, rfl⟩ fun G w vs hi hr => by
    obtain ⟨v1, us, rfl, r1, hr⟩ := hr.uncons
    rw [hr.unnil, r1.lit_inv]
    have h := Any.strconv_Itoa itoaM i h0 h1 w (base_tab hi)
    refine (show Calls Tryd.prog 65 #[.int .i64 i] w _ from h).mono ?_
    rintro e w' ⟨rfl, k, os, rfl⟩
    exact ⟨rfl, grown_below _ _ _⟩
end Go.Proofs.YtghdacijcnmhlaaDoor
namespace Go.Proofs.YtghdacijcnmhlaaDoor
open Go.Lib
set_option linter.unusedVariables false
def isDg (c : UInt8) : Bool := decide (48 ≤ c.toNat ∧ c.toNat ≤ 57)
def dv (a : Nat) : List UInt8 → Nat
  | [] => a
  | c :: r => dv (a * 10 + (c.toNat - 48)) r
theorem dv_ge : ∀ (l : List UInt8) (a : Nat), a ≤ dv a l
  | [], a => Nat.le_refl _
  | c :: r, a => Nat.le_trans (by omega) (dv_ge r _)
theorem parse_dv : ∀ (l : List UInt8) (a : Nat), a < 18446744073709551616 → l.all isDg = true → parseUint10 a l = if dv a l < 18446744073709551616 then .ok (dv a l) else .range
  | [], a, ha, _ => by rw [show dv a [] = a from rfl, if_pos ha]; rfl
  | c :: r, a, ha, h => by
    simp only [List.all_cons, Bool.and_eq_true] at h
    have hc : 48 ≤ c.toNat ∧ c.toNat ≤ 57 := of_decide_eq_true h.1
    have hg := dv_ge r (a * 10 + (c.toNat - 48))
    rw [show dv a (c :: r) = dv (a * 10 + (c.toNat - 48)) r from rfl, parseUint10, if_pos hc]
    by_cases h1 : 1844674407370955162 ≤ a
    · rw [if_pos h1, if_neg (by omega)]
    · rw [if_neg h1]
      by_cases h2 : 18446744073709551616 ≤ a * 10 + (c.toNat - 48)
      · rw [if_pos h2, if_neg (by omega)]
      · rw [if_neg h2, parse_dv r _ (by omega) h.2]
def noLz (l : List UInt8) : Bool := decide (l.length = 1) || (match l with | [] => false | c :: _ => decide (c.toNat ≠ 48))
def magOf (l : List UInt8) : List UInt8 := trimPrefix l [45]
def numOk (l : List UInt8) : Bool := !(magOf l).isEmpty && l != [45, 48] && noLz (magOf l) && (magOf l).all isDg
theorem magOf_minus (r : List UInt8) : magOf (45 :: r) = r := by simp [magOf, trimPrefix, hasPrefix]
theorem magOf_plain {c : UInt8} {r : List UInt8} (h : c ≠ 45) : magOf (c :: r) = c :: r := by
  have : hasPrefix (c :: r) [45] = false := by simp [hasPrefix, List.isPrefixOf, Ne.symm h]
  simp [magOf, trimPrefix, this]
def numV (l : List UInt8) : Int := match l with | 45 :: r => -(dv 0 r : Int) | l => dv 0 l
theorem numV_minus (r : List UInt8) : numV (45 :: r) = -(dv 0 r : Int) := rfl
theorem numV_plain {c : UInt8} {r : List UInt8} (h : c ≠ 45) : numV (c :: r) = dv 0 (c :: r) := by
  unfold numV; split
  · rename_i e; simp at e; exact absurd e.1 h
  · rfl
theorem atoi_num {l : List UInt8} (h : numOk l = true) : atoiAll l = if -9223372036854775808 ≤ numV l ∧ numV l ≤ 9223372036854775807 then .ok (numV l) else .range := by
  simp only [numOk, Bool.and_eq_true, Bool.not_eq_true', List.isEmpty_eq_false_iff] at h
  obtain ⟨⟨⟨h1, h2⟩, h3⟩, h4⟩ := h
  cases l with
  | nil => exact absurd rfl h1
  | cons c r =>
    by_cases hc : c = 45
    · subst hc
      rw [magOf_minus] at h1 h3 h4
      rw [atoiAll_minus, numV_minus, parseMag, if_neg h1, parse_dv r 0 (by omega) h4]
      by_cases hb : dv 0 r < 18446744073709551616
      · rw [if_pos hb]
        simp only [signed]
        by_cases h5 : 9223372036854775808 < dv 0 r
        · rw [if_pos h5, if_neg (by omega)]
        · rw [if_neg h5, if_pos (by omega)]
      · rw [if_neg hb, if_neg (by omega)]; rfl
    · rw [magOf_plain hc] at h1 h3 h4
      have hdc : 48 ≤ c.toNat ∧ c.toNat ≤ 57 := of_decide_eq_true (by simp only [List.all_cons, Bool.and_eq_true] at h4; exact h4.1)
      rw [atoiAll_plain c r (by omega) (by omega), numV_plain hc, parseMag, if_neg h1, parse_dv _ 0 (by omega) h4]
      by_cases hb : dv 0 (c :: r) < 18446744073709551616
      · rw [if_pos hb]
        simp only [signless]
        by_cases h5 : 9223372036854775808 ≤ dv 0 (c :: r)
        · rw [if_pos h5, if_neg (by omega)]
        · rw [if_neg h5, if_pos (by omega)]
      · rw [if_neg hb, if_neg (by omega)]; rfl
def numR (l : List UInt8) (lo hi : Int) : Int × Int := if numOk l = false then (0, 5) else if -9223372036854775808 ≤ numV l ∧ numV l ≤ 9223372036854775807 ∧ lo ≤ numV l ∧ numV l ≤ hi then (numV l, 0) else (0, 7)
end Go.Proofs.YtghdacijcnmhlaaDoor
namespace Go.Proofs.YtghdacijcnmhlaaDoor
open Go.RowKit
set_option linter.unusedVariables false
set_option linter.unusedSimpArgs false
section
variable {P : Program} {tt : TT}
theorem SnapC.rif2 {HD H : AHeap} {x : AV} {y : IV} (h : SnapC HD x y) (hs : ∀ (o : Nat) (obj : AObj), HD[o]? = some (some obj) → H[o]? = some (some obj)) {G : Gh} {w : World} {fz : Nat → Option Obj} (hi : Inv G H w) (hfz : ∀ b x, G.fz b = some x → fz b = some x) (hown : ∀ (o : Nat) (obj : AObj), HD[o]? = some (some obj) → G.sz o ≠ 0 → fz (G.mu o).1 = w.heap[(G.mu o).1]?) : ∀ {v : Value}, RA H.length G x v → RI fz y v := by
  induction h with
  | iv x => intro v hr; cases hr with | iv _ _ h => exact h.mono hfz
  | nil get sz => intro v hr; have := hr.lit_inv; subst this; exact .nil _ _ 0 (Nat.zero_le _)
  | osl o off len sz get obj ys h0 ho h1 h2 ih =>
    intro v hr
    cases hr with
    | onil => exact .nil _ _ 0 (Nat.zero_le _)
    | osl _ _ _ _ b a cap k1 k2 k3 k4 k5 k6 =>
      by_cases hl : len = 0
      · subst hl; exact .empty _ _ _ _ k5
      · have hpos : 0 < len * sz := Nat.mul_pos (by omega) (by omega)
        obtain ⟨m0, cs, m1, m2, m3, m4, m5, m6⟩ := hi.real (hs _ _ ho) (fun e => by have := h1 0 hpos; rw [e] at this; simp at this)
        rw [← hown o obj ho m0] at m1
        have ha := k3 (by omega)
        subst ha
        rw [k2] at m1
        refine .sl get len sz b ((G.mu o).2 + off) cap cs obj.t (0, 0) (fun j => cs.toList.getD ((G.mu o).2 + off + j) undef) m1 (fun j hj => ?_) (fun j hj => ?_) k4 k5
        · obtain ⟨u, hu, _⟩ := m3.cell (h1 j hj)
          rw [← Nat.add_assoc] at hu
          rw [← Array.getElem?_toList, hu, List.getD_eq_getElem?_getD, hu]; rfl
        · obtain ⟨u, hu, hr⟩ := m3.cell (h1 j hj)
          rw [← Nat.add_assoc] at hu
          rw [List.getD_eq_getElem?_getD, hu]
          exact ih j hj hr
  | optr o off ext get obj ys h0 ho h1 h2 ih =>
    intro v hr
    cases hr with
    | optr _ _ k1 =>
      obtain ⟨m0, cs, m1, m2, m3, m4, m5, m6⟩ := hi.real (hs _ _ ho) (fun e => by have := h1 0 (by omega); rw [e] at this; simp at this)
      rw [← hown o obj ho m0] at m1
      refine .ptr get ext _ ((G.mu o).2 + off) cs obj.t (0, 0) (fun j => cs.toList.getD ((G.mu o).2 + off + j) undef) m1 (fun j hj => ?_) (fun j hj => ?_)
      · obtain ⟨u, hu, _⟩ := m3.cell (h1 j hj)
        rw [← Nat.add_assoc] at hu
        rw [← Array.getElem?_toList, hu, List.getD_eq_getElem?_getD, hu]; rfl
      · obtain ⟨u, hu, hr⟩ := m3.cell (h1 j hj)
        rw [← Nat.add_assoc] at hu
        rw [List.getD_eq_getElem?_getD, hu]
        exact ih j hj hr
inductive FrzV (HD : AHeap) : AV → AV → Prop
  | same (x : AV) : FrzV HD x x
  | iv (x : AV) (y : IV) : SnapC HD x y → FrzV HD x (.iv y)
  | agg (xs ys : List AV) : xs.length = ys.length → (∀ (i : Nat) (x y : AV), xs[i]? = some x → ys[i]? = some y → FrzV HD x y) → ys.all AV.one = true → FrzV HD (.agg xs) (.agg ys)
theorem FrzV.ra {HD H : AHeap} {x y : AV} (h : FrzV HD x y) (hs : ∀ (o : Nat) (obj : AObj), HD[o]? = some (some obj) → H[o]? = some (some obj)) {G : Gh} {w : World} {fz : Nat → Option Obj} (hi : Inv G H w) (hfz : ∀ b x, G.fz b = some x → fz b = some x) (hown : ∀ (o : Nat) (obj : AObj), HD[o]? = some (some obj) → G.sz o ≠ 0 → fz (G.mu o).1 = w.heap[(G.mu o).1]?) : ∀ {v : Value}, RA H.length G x v → RA H.length { G with fz := fz, bs := baseOk_up hfz G.bs } y v := by
  induction h with
  | same x => intro v hr; exact RA.fzmono hfz hr
  | iv x y h => intro v hr; exact .iv _ _ (h.rif2 hs hi hfz hown hr)
  | agg xs ys h1 h2 h3 ih =>
    intro v hr
    cases hr with
    | agg _ vs k1 k2 k3 =>
      refine .agg _ _ (h1.symm.trans k1) (fun i y u e e' => ?_) h3
      obtain ⟨x, hx⟩ := at_of_len h1.symm e
      exact ih i x y hx e (k2 i x u hx e')
def onlyH (ds : List Nat) (H : AHeap) : AHeap := H.mapIdx fun i x => if i ∈ ds then x else none
def setN : List Nat → AHeap → AHeap
  | [], H => H
  | d :: ds, H => setN ds (H.set d none)
theorem onlyH_at {ds : List Nat} {H : AHeap} {o : Nat} {obj : AObj} : (onlyH ds H)[o]? = some (some obj) ↔ o ∈ ds ∧ H[o]? = some (some obj) := by
  unfold onlyH
  rw [List.getElem?_mapIdx]
  by_cases h : o ∈ ds
  · simp [h]
  · cases H[o]? <;> simp [h]
theorem only_mk {ds : List Nat} {H : AHeap} {o : Nat} {obj : AObj} (h : o ∈ ds) (e : H[o]? = some (some obj)) : (onlyH ds H)[o]? = some (some obj) := onlyH_at.2 ⟨h, e⟩
theorem setN_len : ∀ (ds : List Nat) (H : AHeap), (setN ds H).length = H.length
  | [], H => rfl
  | d :: ds, H => by show (setN ds _).length = _; rw [setN_len, List.length_set]
theorem setN_at : ∀ {ds : List Nat} {H : AHeap} {o : Nat} {obj : AObj}, (setN ds H)[o]? = some (some obj) → o ∉ ds ∧ H[o]? = some (some obj)
  | [], H, o, obj, h => ⟨by simp, h⟩
  | d :: ds, H, o, obj, h => by
    obtain ⟨h1, h2⟩ := setN_at (ds := ds) h
    rw [List.getElem?_set] at h2
    by_cases hd : d = o
    · rw [if_pos hd] at h2; split at h2 <;> simp at h2
    · rw [if_neg hd] at h2
      exact ⟨by simp only [List.mem_cons, not_or]; exact ⟨fun e => hd e.symm, h1⟩, h2⟩
def FrL (HD : AHeap) (fr fr' : List AV) : Prop := fr.length = fr'.length ∧ ∀ (i : Nat) (x y : AV), fr[i]? = some x → fr'[i]? = some y → FrzV HD x y
theorem FrL.same (HD : AHeap) (fr : List AV) : FrL HD fr fr := ⟨rfl, fun i x y h1 h2 => by rw [h1] at h2; cases h2; exact .same _⟩
theorem FrL.upd {HD : AHeap} {fr0 : List AV} : ∀ {ups : List (Nat × AV)} {fr : List AV}, FrL HD fr0 fr → (∀ p ∈ ups, FrzV HD (fr0.getD p.1 uD) p.2) → FrL HD fr0 (updS fr ups)
  | [], fr, h, _ => h
  | (i, y) :: ups, fr, h, hp => by
    refine FrL.upd (ups := ups) (fr := fr.set i y) ⟨by rw [List.length_set]; exact h.1, fun j x z h1 h2 => ?_⟩ fun p hq => hp p (List.mem_cons_of_mem _ hq)
    rw [List.getElem?_set] at h2
    by_cases hij : i = j
    · subst hij
      rw [if_pos rfl] at h2
      split at h2
      · cases h2
        have := hp (i, y) (List.mem_cons_self ..)
        rw [List.getD_eq_getElem?_getD, h1] at this
        exact this
      · cases h2
    · rw [if_neg hij] at h2; exact h.2 j x z h1 h2
open Classical in
theorem Inv.freeze {G : Gh} {H : AHeap} {w : World} (hi : Inv G H w) (ds : List Nat) : ∃ fz : Nat → Option Obj, ∃ hfz : (∀ b x, G.fz b = some x → fz b = some x), (∀ b x y, G.kp b = some x → fz b = some y → ∃ z, G.fz b = some z) ∧ Inv { G with fz := fz, bs := baseOk_up hfz G.bs } (setN ds H) w ∧ ∀ x y v, FrzV (onlyH ds H) x y → RA H.length G x v → RA H.length { G with fz := fz, bs := baseOk_up hfz G.bs } y v := by
  let fz : Nat → Option Obj := fun b => match G.kp b with | some _ => G.fz b | none => if ∃ o obj, (setN ds H)[o]? = some (some obj) ∧ G.sz o ≠ 0 ∧ (G.mu o).1 = b then none else w.heap[b]?
  have hfz : ∀ b x, G.fz b = some x → fz b = some x := fun b x e => by
    show (match G.kp b with | some _ => G.fz b | none => _) = some x
    split
    · exact e
    · split
      · rename_i h
        obtain ⟨o, obj, k1, k2, k3⟩ := h
        obtain ⟨_, cs, m1, m2, m3, m4, m5, m6⟩ := (hi.obj o obj (setN_at k1).2).resolve_left fun q => k2 q.2
        rw [k3, e] at m5; cases m5
      · exact hi.fz b x e
  have hown : ∀ o obj, (onlyH ds H)[o]? = some (some obj) → G.sz o ≠ 0 → fz (G.mu o).1 = w.heap[(G.mu o).1]? := fun o obj e hs => by
    obtain ⟨e1, e2⟩ := onlyH_at.1 e
    obtain ⟨_, cs, m1, m2, m3, m4, m5, m6⟩ := (hi.obj o obj e2).resolve_left fun q => hs q.2
    show (match G.kp (G.mu o).1 with | some _ => G.fz _ | none => _) = _
    rw [m6]
    show (if _ then _ else _) = _
    rw [if_neg]
    rintro ⟨o', obj', k1, k2, k3⟩
    obtain ⟨k4, k5⟩ := setN_at k1
    exact hi.inj o' o _ _ k5 e2 (fun h => k4 (h ▸ e1)) k2 hs k3
  refine ⟨fz, hfz, fun b x y e e' => ?_, ⟨hi.os, hi.tape, hi.output, fun b x e => ?_, hi.kp, fun o ho => by rw [setN_len]; exact hi.dom o ho, fun o x e => hi.live o x (setN_at e).2, fun o x e => ?_, fun o o' x x' e e' => hi.inj o o' x x' (setN_at e).2 (setN_at e').2⟩, fun x y v h hr => h.ra (fun o obj h => (onlyH_at.1 h).2) hi hfz hown hr⟩
  · have e2 : fz b = some y := e'
    simp only [fz, e] at e2
    exact ⟨y, e2⟩
  · have e2 : fz b = some x := e
    simp only [fz] at e2
    split at e2
    · exact hi.fz b x e2
    · split at e2
      · cases e2
      · exact e2
  · refine (hi.obj o x (setN_at e).2).imp id fun ⟨k0, cs, k1, k2, k3, k4, k5, k6⟩ => ⟨k0, cs, k1, k2, ?_, k4, ?_, k6⟩
    · show RL (setN ds H).length _ _ _
      rw [setN_len]
      exact ⟨k3.1, fun i z u f f' => RA.fzmono hfz (k3.2 i z u f f')⟩
    · show (match G.kp (G.mu o).1 with | some _ => G.fz _ | none => _) = _
      rw [k6]
      show (if _ then _ else _) = _
      rw [if_pos ⟨o, x, e, k0, rfl⟩]
theorem Rst.freeze {G : Gh} {s : AS} {a : Act} {w : World} (hr : Rst G s a w) (ds : List Nat) {fr' : List AV} (hf : FrL (onlyH ds s.H) s.fr fr') : ∃ G', Gh.le s.H.length G G' ∧ Rst G' ⟨fr', setN ds s.H⟩ a w := by
  obtain ⟨h1, h2, hi⟩ := hr
  obtain ⟨fz, k1, k2, k3, k4⟩ := hi.freeze ds
  refine ⟨{ G with fz := fz, bs := baseOk_up k1 G.bs }, ⟨fun _ _ => rfl, fun _ _ => rfl, fun _ h => h, fun _ _ h => h, k1, fun _ _ e => e, k2, rfl, rfl, rfl⟩, h1, ⟨hf.1.symm.trans h2.1, fun i y v e e' => ?_⟩, k3⟩
  obtain ⟨x, hx⟩ := at_of_len hf.1.symm e
  show RA (setN ds s.H).length _ _ _
  rw [setN_len]
  exact k4 x y v (hf.2 i x y hx e) (h2.2 i x v hx e')
theorem AL.freeze {ops : Array Oper} {l : List Oper} {Q : Exit → AS → Prop} {s : AS} (ds : List Nat) (ups : List (Nat × AV)) (hu : ∀ p ∈ ups, FrzV (onlyH ds s.H) (s.fr.getD p.1 uD) p.2) (h : AL P ops l Q ⟨updS s.fr ups, setN ds s.H⟩) : AL P ops l Q s := fun G a w hr => by
  obtain ⟨G', hle, hr'⟩ := hr.freeze ds ((FrL.same _ _).upd hu)
  exact wpList_mono (fun e a w p => Post.step hle (by show _ ≤ (setN ds s.H).length; rw [setN_len]; exact Nat.le_refl _) p) _ _ _ (h G' a w hr')
theorem PF.tells {f : FuncId} {args : List AV} {x : AV} {H : AHeap} (hargs : ∀ a ∈ args, Ids 0 a) (hx : ∀ k, x.ren k = x) (h : PF P f args fun r H' => r = x ∧ H' = []) : SF P f args H fun r H1 => r = x ∧ H1 = H :=
  (h.among hargs).mono fun r H' ⟨r1, H1, ⟨e1, e2⟩, e3, e4⟩ => by subst e1 e2; exact ⟨e3.trans (hx _), by rw [e4]; simp [renH]⟩
def ids0 : AV → Bool
  | .iv _ => true
  | .agg [] | .tup [] => true
  | .agg [.iv _] | .tup [.iv _] => true
  | .agg [.iv _, .iv _] | .tup [.iv _, .iv _] => true
  | .agg [.iv _, .iv _, .iv _] | .tup [.iv _, .iv _, .iv _] => true
  | _ => false
theorem SnapL.same {H : AHeap} : ∀ {xs : List AV}, (∀ x ∈ xs, Ids 0 x) → SnapL H xs xs
  | [], _ => SnapL.nil _
  | x :: xs, h => SnapL.cons (.same _ (h x (List.mem_cons_self ..))) (SnapL.same fun y hy => h y (List.mem_cons_of_mem _ hy))
theorem SnapC.lits {H : AHeap} {o off len : Nat} {obj : AObj} (vs : Nat → Value) (ho : H[o]? = some (some obj)) (h : ∀ j, j < len → obj.cells[off + j]? = some (lt (vs j))) : SnapC H (.osl o off len 1) (.sl (fun j => .lit (vs j)) len 1) :=
  .osl o off len 1 _ obj (fun j => lt (vs j)) (by omega) ho (fun j hj => h j (by omega)) fun j _ => .iv _
end
end Go.Proofs.YtghdacijcnmhlaaDoor
