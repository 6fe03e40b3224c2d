import Derived.Test.YthfjnlapelkbnaaDoorProg
import Derived.Test.YthfjnlapelkbnaaDoorMgAF
import Derived.Shelf.Strconv.Itoa3
import Derived.Test.YthfjnlapelkbnaaDoorMgAI
import Derived.Lib.AtoiAllCases
import Derived.Lib.ItoaNum
import Derived.Lib.Strings
namespace Go.Proofs.YthfjnlapelkbnaaDoor
open Go.RowKit
def tyTab : List (Option TyRow) := [
  none,
  none,
  some { kind := TyKind.int IntKind.i64, size := 1, bytes := 8, zero := [Value.int IntKind.i64 0] },
  some { kind := TyKind.int IntKind.i64, size := 1, bytes := 8, zero := [Value.int IntKind.i64 0] },
  some { kind := TyKind.bool, size := 1, bytes := 1, zero := [Value.bool false] },
  some { kind := TyKind.int IntKind.u8, size := 1, bytes := 1, zero := [Value.int IntKind.u8 0] },
  none,
  some { kind := TyKind.st [(2, 0), (3, 1), (4, 2), (6, 3)], size := 4, bytes := 24, zero := [Value.int IntKind.i64 0, Value.int IntKind.i64 0, Value.bool false, Value.int IntKind.u8 0] },
  none,
  some { kind := TyKind.str, size := 1, bytes := 16, zero := [Value.string ByteArray.empty] },
  none,
  none,
  some { kind := TyKind.int IntKind.u64, size := 1, bytes := 8, zero := [Value.int IntKind.u64 0] },
  some { kind := TyKind.st [(9, 0), (12, 1)], size := 2, bytes := 24, zero := [Value.string ByteArray.empty, Value.int IntKind.u64 0] },
  none,
  none,
  none,
  none,
  some { kind := TyKind.st [(17, 0)], size := 1, bytes := 8, zero := [Value.pointer none] },
  none,
  some { kind := TyKind.other, size := 1, bytes := 16, zero := [Value.nilIface] },
  some { kind := TyKind.int IntKind.i32, size := 1, bytes := 4, zero := [Value.int IntKind.i32 0] },
  none,
  some { kind := TyKind.sl 39, size := 1, bytes := 24, zero := [Value.slice none 0 0] },
  none,
  some { kind := TyKind.sl 46, size := 1, bytes := 24, zero := [Value.slice none 0 0] },
  none,
  none,
  none,
  none,
  none,
  none,
  some { kind := TyKind.int IntKind.i64, size := 1, bytes := 8, zero := [Value.int IntKind.i64 0] },
  none,
  none,
  none,
  none,
  none,
  none,
  some { kind := TyKind.sl 41, size := 1, bytes := 24, zero := [Value.slice none 0 0] },
  some { kind := TyKind.st [(3, 0), (3, 1), (9, 2)], size := 3, bytes := 32, zero := [Value.int IntKind.i64 0, Value.int IntKind.i64 0, Value.string ByteArray.empty] },
  some { kind := TyKind.st [(3, 0), (3, 1), (9, 2)], size := 3, bytes := 32, zero := [Value.int IntKind.i64 0, Value.int IntKind.i64 0, Value.string ByteArray.empty] },
  some { kind := TyKind.arr 2 3, size := 2, bytes := 16, zero := [Value.int IntKind.i64 0, Value.int IntKind.i64 0] },
  none,
  none,
  none,
  some { kind := TyKind.sl 48, size := 1, bytes := 24, zero := [Value.slice none 0 0] },
  none,
  some { kind := TyKind.st [(3, 0), (3, 1), (9, 2)], size := 3, bytes := 32, zero := [Value.int IntKind.i64 0, Value.int IntKind.i64 0, Value.string ByteArray.empty] },
  none,
  some { kind := TyKind.ptr 53, size := 1, bytes := 8, zero := [Value.pointer none] },
  some { kind := TyKind.sl 5, size := 1, bytes := 24, zero := [Value.slice none 0 0] },
  some { kind := TyKind.st [(50, 0), (51, 1)], size := 2, bytes := 32, zero := [Value.pointer none, Value.slice none 0 0] },
  some { kind := TyKind.st [(50, 0), (51, 1)], size := 2, bytes := 32, zero := [Value.pointer none, Value.slice none 0 0] },
  some { kind := TyKind.other, size := 1, bytes := 16, zero := [Value.nilIface] },
  some { kind := TyKind.other, size := 1, bytes := 16, zero := [Value.nilIface] },
  none,
  none,
  none,
  none,
  none,
  some { kind := TyKind.ptr 5, size := 1, bytes := 8, zero := [Value.pointer none] },
  none,
  none,
  none,
  some { kind := TyKind.other, size := 1, bytes := 8, zero := [Value.nilFunc] },
  none,
  none,
  none,
  none,
  none,
  none,
  some { kind := TyKind.int IntKind.i64, size := 1, bytes := 8, zero := [Value.int IntKind.i64 0] },
  none,
  none,
  some { kind := TyKind.ptr 88, size := 1, bytes := 8, zero := [Value.pointer none] },
  none,
  none,
  none,
  none,
  some { kind := TyKind.other, size := 1, bytes := 8, zero := [Value.nilFunc] },
  some { kind := TyKind.int IntKind.u64, size := 1, bytes := 8, zero := [Value.int IntKind.u64 0] },
  some { kind := TyKind.ptr 67, size := 1, bytes := 8, zero := [Value.pointer none] },
  some { kind := TyKind.int IntKind.u64, size := 1, bytes := 8, zero := [Value.int IntKind.u64 0] },
  none,
  none,
  none,
  some { kind := TyKind.st [(9, 0), (9, 1), (55, 2)], size := 3, bytes := 48, zero := [Value.string ByteArray.empty, Value.string ByteArray.empty, Value.nilIface] },
  some { kind := TyKind.st [(9, 0), (9, 1), (55, 2)], size := 3, bytes := 48, zero := [Value.string ByteArray.empty, Value.string ByteArray.empty, Value.nilIface] },
  none,
  none,
  none,
  none,
  none,
  none,
  none,
  some { kind := TyKind.ptr 98, size := 1, bytes := 8, zero := [Value.pointer none] },
  some { kind := TyKind.st [(9, 0)], size := 1, bytes := 16, zero := [Value.string ByteArray.empty] },
  some { kind := TyKind.st [(9, 0)], size := 1, bytes := 16, zero := [Value.string ByteArray.empty] },
  none,
  none,
  some { kind := TyKind.int IntKind.u32, size := 1, bytes := 4, zero := [Value.int IntKind.u32 0] },
  none,
  none,
  none,
  none,
  none,
  some { kind := TyKind.st [(17, 0), (17, 1), (17, 2), (9, 3)], size := 4, bytes := 40, zero := [Value.pointer none, Value.pointer none, Value.pointer none, Value.string ByteArray.empty] },
  none,
  none,
  some { kind := TyKind.st [(109, 0)], size := 0, bytes := 0, zero := [] },
  none,
  none,
  none,
  none,
  none,
  none,
  none,
  some { kind := TyKind.st [(12, 0), (12, 1), (101, 2), (113, 3), (5, 4), (5, 5), (114, 6), (115, 7), (61, 8), (116, 9), (117, 10)], size := 11, bytes := 48, zero := [Value.int IntKind.u64 0, Value.int IntKind.u64 0, Value.int IntKind.u32 0, Value.int IntKind.u8 0, Value.int IntKind.u8 0, Value.int IntKind.u8 0, Value.int IntKind.u8 0, Value.nilFunc, Value.pointer none, Value.int IntKind.i32 0, Value.int IntKind.i32 0] },
  none]
def tt : TT := fun t => (tyTab[t]?).getD none
theorem tyTab_ok : ((List.range 120).map fun t => if ((tyTab[t]?).getD none).isSome then tyRow Tryd.prog t else none) = tyTab := by kernel_rfl
theorem tyOK : TyOK Tryd.prog tt := fun t r h => by
  have h' : (tyTab[t]?).getD none = some r := h
  have hlt : t < 120 := by
    rcases Nat.lt_or_ge t 120 with h1 | h1
    · exact h1
    · rw [List.getElem?_eq_none (by show _ ≤ t; exact h1)] at h'; cases h'
  have e := congrArg (fun l => l[t]?) tyTab_ok
  simp only [List.getElem?_map, List.getElem?_range hlt, Option.map_some] at e
  rw [h'] at e
  rw [← e] at h'
  simpa using h'
theorem tt_2 : tt 2 = some { kind := TyKind.int IntKind.i64, size := 1, bytes := 8, zero := [Value.int IntKind.i64 0] } := rfl
theorem tt_3 : tt 3 = some { kind := TyKind.int IntKind.i64, size := 1, bytes := 8, zero := [Value.int IntKind.i64 0] } := rfl
theorem tt_4 : tt 4 = some { kind := TyKind.bool, size := 1, bytes := 1, zero := [Value.bool false] } := rfl
theorem tt_5 : tt 5 = some { kind := TyKind.int IntKind.u8, size := 1, bytes := 1, zero := [Value.int IntKind.u8 0] } := rfl
theorem tt_7 : tt 7 = some { kind := TyKind.st [(2, 0), (3, 1), (4, 2), (6, 3)], size := 4, bytes := 24, zero := [Value.int IntKind.i64 0, Value.int IntKind.i64 0, Value.bool false, Value.int IntKind.u8 0] } := rfl
theorem tt_9 : tt 9 = some { kind := TyKind.str, size := 1, bytes := 16, zero := [Value.string ByteArray.empty] } := rfl
theorem tt_12 : tt 12 = some { kind := TyKind.int IntKind.u64, size := 1, bytes := 8, zero := [Value.int IntKind.u64 0] } := rfl
theorem tt_13 : tt 13 = some { kind := TyKind.st [(9, 0), (12, 1)], size := 2, bytes := 24, zero := [Value.string ByteArray.empty, Value.int IntKind.u64 0] } := rfl
theorem tt_18 : tt 18 = some { kind := TyKind.st [(17, 0)], size := 1, bytes := 8, zero := [Value.pointer none] } := rfl
theorem tt_20 : tt 20 = some { kind := TyKind.other, size := 1, bytes := 16, zero := [Value.nilIface] } := rfl
theorem tt_21 : tt 21 = some { kind := TyKind.int IntKind.i32, size := 1, bytes := 4, zero := [Value.int IntKind.i32 0] } := rfl
theorem tt_23 : tt 23 = some { kind := TyKind.sl 39, size := 1, bytes := 24, zero := [Value.slice none 0 0] } := rfl
theorem tt_25 : tt 25 = some { kind := TyKind.sl 46, size := 1, bytes := 24, zero := [Value.slice none 0 0] } := rfl
theorem tt_32 : tt 32 = some { kind := TyKind.int IntKind.i64, size := 1, bytes := 8, zero := [Value.int IntKind.i64 0] } := rfl
theorem tt_39 : tt 39 = some { kind := TyKind.sl 41, size := 1, bytes := 24, zero := [Value.slice none 0 0] } := rfl
theorem tt_40 : tt 40 = some { kind := TyKind.st [(3, 0), (3, 1), (9, 2)], size := 3, bytes := 32, zero := [Value.int IntKind.i64 0, Value.int IntKind.i64 0, Value.string ByteArray.empty] } := rfl
theorem tt_41 : tt 41 = some { kind := TyKind.st [(3, 0), (3, 1), (9, 2)], size := 3, bytes := 32, zero := [Value.int IntKind.i64 0, Value.int IntKind.i64 0, Value.string ByteArray.empty] } := rfl
theorem tt_42 : tt 42 = some { kind := TyKind.arr 2 3, size := 2, bytes := 16, zero := [Value.int IntKind.i64 0, Value.int IntKind.i64 0] } := rfl
theorem tt_46 : tt 46 = some { kind := TyKind.sl 48, size := 1, bytes := 24, zero := [Value.slice none 0 0] } := rfl
theorem tt_48 : tt 48 = some { kind := TyKind.st [(3, 0), (3, 1), (9, 2)], size := 3, bytes := 32, zero := [Value.int IntKind.i64 0, Value.int IntKind.i64 0, Value.string ByteArray.empty] } := rfl
theorem tt_50 : tt 50 = some { kind := TyKind.ptr 53, size := 1, bytes := 8, zero := [Value.pointer none] } := rfl
theorem tt_51 : tt 51 = some { kind := TyKind.sl 5, size := 1, bytes := 24, zero := [Value.slice none 0 0] } := rfl
theorem tt_52 : tt 52 = some { kind := TyKind.st [(50, 0), (51, 1)], size := 2, bytes := 32, zero := [Value.pointer none, Value.slice none 0 0] } := rfl
theorem tt_53 : tt 53 = some { kind := TyKind.st [(50, 0), (51, 1)], size := 2, bytes := 32, zero := [Value.pointer none, Value.slice none 0 0] } := rfl
theorem tt_54 : tt 54 = some { kind := TyKind.other, size := 1, bytes := 16, zero := [Value.nilIface] } := rfl
theorem tt_55 : tt 55 = some { kind := TyKind.other, size := 1, bytes := 16, zero := [Value.nilIface] } := rfl
theorem tt_61 : tt 61 = some { kind := TyKind.ptr 5, size := 1, bytes := 8, zero := [Value.pointer none] } := rfl
theorem tt_65 : tt 65 = some { kind := TyKind.other, size := 1, bytes := 8, zero := [Value.nilFunc] } := rfl
theorem tt_72 : tt 72 = some { kind := TyKind.int IntKind.i64, size := 1, bytes := 8, zero := [Value.int IntKind.i64 0] } := rfl
theorem tt_75 : tt 75 = some { kind := TyKind.ptr 88, size := 1, bytes := 8, zero := [Value.pointer none] } := rfl
theorem tt_80 : tt 80 = some { kind := TyKind.other, size := 1, bytes := 8, zero := [Value.nilFunc] } := rfl
theorem tt_81 : tt 81 = some { kind := TyKind.int IntKind.u64, size := 1, bytes := 8, zero := [Value.int IntKind.u64 0] } := rfl
theorem tt_82 : tt 82 = some { kind := TyKind.ptr 67, size := 1, bytes := 8, zero := [Value.pointer none] } := rfl
theorem tt_83 : tt 83 = some { kind := TyKind.int IntKind.u64, size := 1, bytes := 8, zero := [Value.int IntKind.u64 0] } := rfl
theorem tt_87 : tt 87 = some { kind := TyKind.st [(9, 0), (9, 1), (55, 2)], size := 3, bytes := 48, zero := [Value.string ByteArray.empty, Value.string ByteArray.empty, Value.nilIface] } := rfl
theorem tt_88 : tt 88 = some { kind := TyKind.st [(9, 0), (9, 1), (55, 2)], size := 3, bytes := 48, zero := [Value.string ByteArray.empty, Value.string ByteArray.empty, Value.nilIface] } := rfl
theorem tt_96 : tt 96 = some { kind := TyKind.ptr 98, size := 1, bytes := 8, zero := [Value.pointer none] } := rfl
theorem tt_97 : tt 97 = some { kind := TyKind.st [(9, 0)], size := 1, bytes := 16, zero := [Value.string ByteArray.empty] } := rfl
theorem tt_98 : tt 98 = some { kind := TyKind.st [(9, 0)], size := 1, bytes := 16, zero := [Value.string ByteArray.empty] } := rfl
theorem tt_101 : tt 101 = some { kind := TyKind.int IntKind.u32, size := 1, bytes := 4, zero := [Value.int IntKind.u32 0] } := rfl
theorem tt_107 : tt 107 = some { kind := TyKind.st [(17, 0), (17, 1), (17, 2), (9, 3)], size := 4, bytes := 40, zero := [Value.pointer none, Value.pointer none, Value.pointer none, Value.string ByteArray.empty] } := rfl
theorem tt_110 : tt 110 = some { kind := TyKind.st [(109, 0)], size := 0, bytes := 0, zero := [] } := rfl
theorem tt_118 : tt 118 = some { kind := TyKind.st [(12, 0), (12, 1), (101, 2), (113, 3), (5, 4), (5, 5), (114, 6), (115, 7), (61, 8), (116, 9), (117, 10)], size := 11, bytes := 48, zero := [Value.int IntKind.u64 0, Value.int IntKind.u64 0, Value.int IntKind.u32 0, Value.int IntKind.u8 0, Value.int IntKind.u8 0, Value.int IntKind.u8 0, Value.int IntKind.u8 0, Value.nilFunc, Value.pointer none, Value.int IntKind.i32 0, Value.int IntKind.i32 0] } := rfl
end Go.Proofs.YthfjnlapelkbnaaDoor
namespace Go.Proofs.YthfjnlapelkbnaaDoor
open Go.RowKit Go.Shelf Go.Lib Go.Sort
set_option linter.unusedVariables false
def itoaM_ren : Go.Shelf.Ren := ⟨fun | 171 => 29 | 243 => 38 | 246 => 52 | 283 => 59 | 284 => 60 | 285 => 61 | 286 => 62 | 129 => 66 | 317 => 65 | 318 => 67 | 319 => 68 | 320 => 69 | 337 => 70 | 338 => 71 | n => n, fun | 3 => 3 | 9 => 9 | 2 => 2 | 4 => 4 | 171 => 90 | 0 => 0 | 53 => 83 | 37 => 51 | 5 => 5 | 173 => 93 | 212 => 100 | 51 => 101 | 20 => 20 | 213 => 102 | 46 => 81 | 232 => 105 | 233 => 106 | n => n, fun | 17 => 3 | 18 => 4 | 19 => 5 | n => n⟩
theorem itoaM : Go.Proofs.LaysM.n171 Tryd.prog itoaM_ren := {
  mixed := by kernel_rfl
  f129 := Tryd.func66.trans (congrArg some (by kernel_rfl))
  f171 := Tryd.func29.trans (congrArg some (by kernel_rfl))
  f243 := Tryd.func38.trans (congrArg some (by kernel_rfl))
  f246 := Tryd.func52.trans (congrArg some (by kernel_rfl))
  f283 := Tryd.func59.trans (congrArg some (by kernel_rfl))
  f284 := Tryd.func60.trans (congrArg some (by kernel_rfl))
  f285 := Tryd.func61.trans (congrArg some (by kernel_rfl))
  f286 := Tryd.func62.trans (congrArg some (by kernel_rfl))
  f317 := Tryd.func65.trans (congrArg some (by kernel_rfl))
  f318 := Tryd.func67.trans (congrArg some (by kernel_rfl))
  f319 := Tryd.func68.trans (congrArg some (by kernel_rfl))
  f320 := Tryd.func69.trans (congrArg some (by kernel_rfl))
  f337 := Tryd.func70.trans (congrArg some (by kernel_rfl))
  f338 := Tryd.func71.trans (congrArg some (by kernel_rfl))
  t0 := Tryd.underlying0
  a0 := Tryd.isAgg0
  z0 := Tryd.sizeOf0
  v0 := Tryd.zeroValue0
  t2 := Tryd.underlying2
  a2 := Tryd.isAgg2
  z2 := Tryd.sizeOf2
  v2 := Tryd.zeroValue2
  t3 := Tryd.underlying3
  a3 := Tryd.isAgg3
  z3 := Tryd.sizeOf3
  v3 := Tryd.zeroValue3
  t4 := Tryd.underlying4
  a4 := Tryd.isAgg4
  z4 := Tryd.sizeOf4
  v4 := Tryd.zeroValue4
  t5 := Tryd.underlying5
  a5 := Tryd.isAgg5
  z5 := Tryd.sizeOf5
  v5 := Tryd.zeroValue5
  t9 := Tryd.underlying9
  a9 := Tryd.isAgg9
  z9 := Tryd.sizeOf9
  v9 := Tryd.zeroValue9
  t20 := Tryd.underlying20
  a20 := Tryd.isAgg20
  z20 := Tryd.sizeOf20
  v20 := Tryd.zeroValue20
  t37 := Tryd.underlying51
  a37 := Tryd.isAgg51
  z37 := Tryd.sizeOf51
  v37 := Tryd.zeroValue51
  t46 := Tryd.underlying81
  a46 := Tryd.isAgg81
  z46 := Tryd.sizeOf81
  v46 := Tryd.zeroValue81
  t51 := Tryd.underlying101
  a51 := Tryd.isAgg101
  z51 := Tryd.sizeOf101
  v51 := Tryd.zeroValue101
  t53 := Tryd.underlying83
  a53 := Tryd.isAgg83
  z53 := Tryd.sizeOf83
  v53 := Tryd.zeroValue83
  t171 := Tryd.underlying90
  a171 := Tryd.isAgg90
  z171 := Tryd.sizeOf90
  v171 := Tryd.zeroValue90
  t173 := Tryd.underlying93
  a173 := Tryd.isAgg93
  z173 := Tryd.sizeOf93
  v173 := Tryd.zeroValue93
  t212 := Tryd.underlying100
  a212 := Tryd.isAgg100
  z212 := Tryd.sizeOf100
  v212 := Tryd.zeroValue100
  t213 := Tryd.underlying102
  a213 := Tryd.isAgg102
  z213 := Tryd.sizeOf102
  t232 := Tryd.underlying105
  a232 := Tryd.isAgg105
  z232 := Tryd.sizeOf105
  v232 := Tryd.zeroValue105
  t233 := Tryd.underlying106
  a233 := Tryd.isAgg106
  z233 := Tryd.sizeOf106
  v233 := Tryd.zeroValue106
  g17 := by kernel_rfl
  g18 := by kernel_rfl
  g19 := by kernel_rfl
  i0 := by kernel_rfl
  i2 := by kernel_rfl
  i3 := by kernel_rfl
  i4 := by kernel_rfl
  i5 := by kernel_rfl
  i9 := by kernel_rfl
  i20 := by kernel_rfl
  i37 := by kernel_rfl
  i46 := by kernel_rfl
  i51 := by kernel_rfl
  i53 := by kernel_rfl
  i171 := by kernel_rfl
  i173 := by kernel_rfl
  i212 := by kernel_rfl
  i232 := by kernel_rfl
  i233 := by kernel_rfl
  m17 := by kernel_rfl
  m18 := by kernel_rfl
  m19 := by kernel_rfl }
def itoaB (i : Int) : ByteArray := ⟨(Lib.itoa i).toArray⟩
theorem base_tab {G : Gh} {H : AHeap} {w : World} (hi : Inv G H w) : Lib.TabIs Tryd.prog w "internal/strconv.uint64pow10" .u64 Lib.pow10Tab := by
  obtain ⟨x, hx, t, fr, rfl⟩ := G.bs _ (List.Mem.head _)
  have hh := hi.fz _ _ hx
  have hg : Tryd.prog.globalNamed "internal/strconv.uint64pow10" = some 3 := by kernel_rfl
  have hh' : w.heap[3]? = _ := hh
  unfold Lib.TabIs World.var?
  rw [hg, Option.bind_some, hh']
theorem grown_below (w : World) (k : Nat) (os : Array Obj) : Below w.heap.size w (grow (w.drewN k) os) := by
  have h := Go.below_drewN (Below.refl w.heap.size w) k
  refine ⟨h.os, h.tape, h.output, ?_, fun b hb => ?_⟩
  · have := h.size
    show w.heap.size ≤ ((w.drewN k).heap ++ os).size
    rw [Array.size_append]; omega
  · show ((w.drewN k).heap ++ os)[b]? = _
    rw [Array.getElem?_append_left (by have := h.size; omega)]
    exact h.block b hb
theorem pf_ItoaG (i : Int) (h0 : -9223372036854775808 ≤ i) (h1 : i ≤ 9223372036854775807) : PF Tryd.prog 29 [lt (.int .i64 i)] fun r H' => r = lt (.string (itoaB i)) ∧ H' = [] :=
  PF_of_walk ⟨_, Tryd.func29, by kernel_rfl, rfl⟩ fun G w vs hi hr => by
    obtain ⟨v1, us, rfl, r1, hr⟩ := hr.uncons
    rw [hr.unnil, r1.lit_inv]
    have h := Any.strconv_Itoa itoaM i h0 h1 w (base_tab hi)
    refine (show Calls Tryd.prog 29 #[.int .i64 i] w _ from h).mono ?_
    rintro e w' ⟨rfl, k, os, rfl⟩
    exact ⟨rfl, grown_below _ _ _⟩
end Go.Proofs.YthfjnlapelkbnaaDoor
namespace Go.Proofs.YthfjnlapelkbnaaDoor
open Go.Lib
set_option linter.unusedVariables false
def isDg (c : UInt8) : Bool := decide (48 ≤ c.toNat ∧ c.toNat ≤ 57)
def dv (a : Nat) : List UInt8 → Nat
  | [] => a
  | c :: r => dv (a * 10 + (c.toNat - 48)) r
theorem dv_ge : ∀ (l : List UInt8) (a : Nat), a ≤ dv a l
  | [], a => Nat.le_refl _
  | c :: r, a => Nat.le_trans (by omega) (dv_ge r _)
theorem parse_dv : ∀ (l : List UInt8) (a : Nat), a < 18446744073709551616 → l.all isDg = true → parseUint10 a l = if dv a l < 18446744073709551616 then .ok (dv a l) else .range
  | [], a, ha, _ => by rw [show dv a [] = a from rfl, if_pos ha]; rfl
  | c :: r, a, ha, h => by
    simp only [List.all_cons, Bool.and_eq_true] at h
    have hc : 48 ≤ c.toNat ∧ c.toNat ≤ 57 := of_decide_eq_true h.1
    have hg := dv_ge r (a * 10 + (c.toNat - 48))
    rw [show dv a (c :: r) = dv (a * 10 + (c.toNat - 48)) r from rfl, parseUint10, if_pos hc]
    by_cases h1 : 1844674407370955162 ≤ a
    · rw [if_pos h1, if_neg (by omega)]
    · rw [if_neg h1]
      by_cases h2 : 18446744073709551616 ≤ a * 10 + (c.toNat - 48)
      · rw [if_pos h2, if_neg (by omega)]
      · rw [if_neg h2, parse_dv r _ (by omega) h.2]
def noLz (l : List UInt8) : Bool := decide (l.length = 1) || (match l with | [] => false | c :: _ => decide (c.toNat ≠ 48))
def magOf (l : List UInt8) : List UInt8 := trimPrefix l [45]
def numOk (l : List UInt8) : Bool := !(magOf l).isEmpty && l != [45, 48] && noLz (magOf l) && (magOf l).all isDg
theorem magOf_minus (r : List UInt8) : magOf (45 :: r) = r := by simp [magOf, trimPrefix, hasPrefix]
theorem magOf_plain {c : UInt8} {r : List UInt8} (h : c ≠ 45) : magOf (c :: r) = c :: r := by
  have : hasPrefix (c :: r) [45] = false := by simp [hasPrefix, List.isPrefixOf, Ne.symm h]
  simp [magOf, trimPrefix, this]
def numV (l : List UInt8) : Int := match l with | 45 :: r => -(dv 0 r : Int) | l => dv 0 l
theorem numV_minus (r : List UInt8) : numV (45 :: r) = -(dv 0 r : Int) := rfl
theorem numV_plain {c : UInt8} {r : List UInt8} (h : c ≠ 45) : numV (c :: r) = dv 0 (c :: r) := by
  unfold numV; split
  · rename_i e; simp at e; exact absurd e.1 h
  · rfl
theorem atoi_num {l : List UInt8} (h : numOk l = true) : atoiAll l = if -9223372036854775808 ≤ numV l ∧ numV l ≤ 9223372036854775807 then .ok (numV l) else .range := by
  simp only [numOk, Bool.and_eq_true, Bool.not_eq_true', List.isEmpty_eq_false_iff] at h
  obtain ⟨⟨⟨h1, h2⟩, h3⟩, h4⟩ := h
  cases l with
  | nil => exact absurd rfl h1
  | cons c r =>
    by_cases hc : c = 45
    · subst hc
      rw [magOf_minus] at h1 h3 h4
      rw [atoiAll_minus, numV_minus, parseMag, if_neg h1, parse_dv r 0 (by omega) h4]
      by_cases hb : dv 0 r < 18446744073709551616
      · rw [if_pos hb]
        simp only [signed]
        by_cases h5 : 9223372036854775808 < dv 0 r
        · rw [if_pos h5, if_neg (by omega)]
        · rw [if_neg h5, if_pos (by omega)]
      · rw [if_neg hb, if_neg (by omega)]; rfl
    · rw [magOf_plain hc] at h1 h3 h4
      have hdc : 48 ≤ c.toNat ∧ c.toNat ≤ 57 := of_decide_eq_true (by simp only [List.all_cons, Bool.and_eq_true] at h4; exact h4.1)
      rw [atoiAll_plain c r (by omega) (by omega), numV_plain hc, parseMag, if_neg h1, parse_dv _ 0 (by omega) h4]
      by_cases hb : dv 0 (c :: r) < 18446744073709551616
      · rw [if_pos hb]
        simp only [signless]
        by_cases h5 : 9223372036854775808 ≤ dv 0 (c :: r)
        · rw [if_pos h5, if_neg (by omega)]
        · rw [if_neg h5, if_pos (by omega)]
      · rw [if_neg hb, if_neg (by omega)]; rfl
def numR (l : List UInt8) (lo hi : Int) : Int × Int := if numOk l = false then (0, 5) else if -9223372036854775808 ≤ numV l ∧ numV l ≤ 9223372036854775807 ∧ lo ≤ numV l ∧ numV l ≤ hi then (numV l, 0) else (0, 7)
end Go.Proofs.YthfjnlapelkbnaaDoor
