import Derived.Test.YtdaenbgjafalcaaDoorMgAA
import Derived.Test.YtdaenbgjafalcaaDoorMgAI
import Derived.Lib.Builder
import Derived.Lib.UnsafeStr
import Derived.Lib.Hide
import Derived.BigGuardPart
import Derived.StillTailTactics
import Derived.Shelf.RegionOpenPlain
import Derived.Lib.Walk
import Derived.WalkKit
import Derived.Laws.Externs
import Derived.Test.YtdaenbgjafalcaaDoorMgAL
namespace Go.Proofs.YtdaenbgjafalcaaDoor
open Go.RowKit Go.Shelf Go.Lib
set_option linter.unusedVariables false
set_option linter.unusedSimpArgs false
theorem bl_info : (Tryd.prog.info? 71).map (·.size) = some 2 := by kernel_rfl
theorem bl_lies : liesAt Tryd.prog Tryd.prog.depth 71 (2 / Tryd.prog.cellsOf 71) 0 71 1 = true := by kernel_rfl
set_option maxRecDepth 100000 in
set_option maxHeartbeats 1000000 in
theorem bl_used (b : Nat) (w : World) (h0 : w.cell? ⟨b, 0, none⟩ = some (.pointer (some ⟨b, 0, none⟩))) : Calls Tryd.prog 52 #[.pointer (some ⟨b, 0, none⟩)] w fun e w' => e = .returned (.tuple #[]) ∧ w' = w := by
  obtain ⟨j, hj, _⟩ := Option.map_eq_some_iff.1 bl_info
  go_enter Tryd.func52, Tryd.ntmps52
  go_wp2
  rw [Lib.run_neq_ptr_same w _ Tryd.underlying68 hj]
  go_wp2
  go_end0
  exact ⟨rfl, rfl⟩
set_option maxRecDepth 100000 in
set_option maxHeartbeats 1000000 in
theorem bl_fresh (b : Nat) (w : World) (h0 : w.cell? ⟨b, 0, none⟩ = some (.pointer none)) (hsh : w.shape? b = some (71, 2)) (hfz : w.frozen? ⟨b, 0, none⟩ = false) : Calls Tryd.prog 52 #[.pointer (some ⟨b, 0, none⟩)] w fun e w' => e = .returned (.tuple #[]) ∧ w' = w.setCell ⟨b, 0, none⟩ (.pointer (some ⟨b, 0, none⟩)) := by
  obtain ⟨j, hj, hjs⟩ := Option.map_eq_some_iff.1 bl_info
  go_enter Tryd.func52, Tryd.ntmps52
  go_wp2
  rw [Lib.run_to_unsafe w ⟨b, 0, none⟩ Tryd.underlying68 Tryd.underlying125 hj (by rw [hjs]; decide) hsh (Nat.zero_lt_succ 1)]
  simp only [Result.andThen]
  rw [Oper.upon_value]
  go_wp2
  rw [run_callFunc_extern Tryd.func68 (by kernel_rfl) (by kernel_rfl) (by kernel_rfl) (e := Extern.AbiNoEscape.same) (by kernel_rfl)]
  rw [Lib.run_noEscape]
  simp only [Result.andThen]
  rw [Oper.upon_value]
  go_wp2
  rw [Lib.run_from_unsafe w ⟨b, 0, none⟩ Tryd.underlying125 Tryd.underlying68 hj hsh bl_lies]
  simp only [Result.andThen]
  rw [Oper.upon_value]
  go_wp2
  go_end0
  exact ⟨rfl, rfl⟩
theorem bl_bytesAt {P : Program} {e : TypeId} (hc : P.cellsOf e = 1) (count a n : Nat) (hn : a + n ≤ count) : liesAt P P.depth e count a e n = true := by
  have hd : P.depth = (2 * (P.types.size + Made.depth) + 1) + 1 := rfl
  rw [hd]
  simp only [liesAt, Bool.or_eq_true]
  left
  rw [hd]
  simp [rowAt, hc, hn, sameLayout, Nat.mod_one]
theorem bl_unsafe {P : Program} (w : World) (pt it ty e : TypeId) (hp : P.underlying pt = some (.pointer e)) (hc : P.cellsOf e = 1) (g a cells : Nat) (hsh : w.shape? g = some (e, cells)) (l : List UInt8) (h0 : l ≠ []) (hn : a + l.length ≤ cells) (h63 : l.length ≤ 9223372036854775807)
    (hcell : ∀ j x, l[j]? = some x → w.cell? ((⟨g, a, none⟩ : Addr).add j) = some (.int .u8 x.toNat)) :
    (Builtin.unsafeString_ #[pt, it] ty #[.pointer (some ⟨g, a, none⟩), .int .i64 l.length]).run P w = .ok (.string ⟨l.toArray⟩) (w.freeze ⟨g, a, none⟩ l.length) := by
  have hl : l.length ≠ 0 := by simpa using h0
  have hlb := Lib.run_loadBytes (P := P) w l ⟨g, a, none⟩ .empty hcell
  have hlies := bl_bytesAt (P := P) hc (cells / P.cellsOf e) a l.length (by rw [hc]; simpa using hn)
  have h63' : ¬ (9223372036854775807 : Int) < (l.length : Int) := by omega
  have hdef : Builtin.unsafeString_ #[pt, it] ty #[.pointer (some ⟨g, a, none⟩), .int .i64 l.length] =
      (do
        let n ← asInt (.int .i64 l.length)
        if n < 0 then runtimePanic (.error "unsafe.String: len out of range")
        if n > IntKind.i64.max then unsupported (.unsafePointer "String: a length above the largest int")
        if n = 0 then pure (.string .empty)
        else if ← variablesAt ⟨g, a, none⟩ (← elemOf pt) n.toNat then do
          let s ← loadBytes ⟨g, a, none⟩ .empty n.toNat
          freeze ⟨g, a, none⟩ n.toNat
          pure (.string s)
        else unsupported (.unsafePointer "String: not so many bytes at ptr")) := rfl
  rw [hdef]
  have hmax : IntKind.i64.max = 9223372036854775807 := rfl
  have hneg : ¬ (l.length : Int) < 0 := by omega
  simp [asInt, asIntOf, hmax, h63', hneg, hl, variablesAt, hsh, elemOf, run_underlying hp, hlies, hlb]
theorem bl_grown (w : World) (g a n : Nat) : w.grownBy (w.drew.freeze ⟨g, a, none⟩ n) (some g) := by
  unfold World.freeze
  split
  · exact ⟨rfl, rfl, rfl, Nat.le_refl _, fun _ _ _ => rfl⟩
  · refine ⟨rfl, rfl, rfl, by show w.heap.size ≤ (w.heap.modify _ _).size; rw [Array.size_modify]; exact Nat.le_refl _, fun k hk hne => ?_⟩
    show (w.heap.modify _ _)[k]? = _
    rw [Array.getElem?_modify, if_neg (fun e => hne (by rw [← e]))]
set_option maxRecDepth 100000 in
set_option maxHeartbeats 2000000 in
theorem bl_string (b g a cap : Nat) (p : Value) (cur : Array Value) (l : List UInt8) (w : World) (hbk : w.heap[b]? = some (.cells #[p, .slice (some ⟨g, a, none⟩) l.length cap] 71 (0, 0))) (hg : w.heap[g]? = some (.cells cur 5 (0, 0))) (h0 : l ≠ []) (hcap : cap ≠ 0) (hn : a + l.length ≤ cur.size) (h63 : l.length ≤ 9223372036854775807)
    (hcell : ∀ j x, l[j]? = some x → w.cell? ⟨g, a + j, none⟩ = some (.int .u8 x.toNat)) :
    Calls Tryd.prog 29 #[.pointer (some ⟨b, 0, none⟩)] w fun e w' => e = .returned (.string ⟨l.toArray⟩) ∧ w.grownBy w' (some g) := by
  have c1 : w.drew.cell? ⟨b, 1, none⟩ = some (.slice (some ⟨g, a, none⟩) l.length cap) := by
    have : w.drew.heap[b]? = some (.cells #[p, .slice (some ⟨g, a, none⟩) l.length cap] 71 (0, 0)) := hbk
    rw [Lib.cell_of_heap this]; rfl
  have hSD : (Builtin.unsafeSliceData_ #[69] 114 #[.slice (some ⟨g, a, none⟩) l.length cap]).run Tryd.prog w.drew = .ok (.pointer (some ⟨g, a, none⟩)) w.drew :=
    Lib.run_unsafeSliceData_row _ _ _ _ _ _ hcap
  have hUS : (Builtin.unsafeString_ #[114, 3] 9 #[.pointer (some ⟨g, a, none⟩), .int .i64 l.length]).run Tryd.prog w.drew = .ok (.string ⟨l.toArray⟩) (w.drew.freeze ⟨g, a, none⟩ l.length) := by
    refine bl_unsafe w.drew 114 3 9 5 Tryd.underlying114 (by kernel_rfl) g a cur.size (by have hg' : w.drew.heap[g]? = some (.cells cur 5 (0, 0)) := hg; simp [World.shape?, hg']) l h0 hn h63 ?_
    intro j x hx
    rw [Addr.add_lit]
    exact hcell j x hx
  clear hcap hn h63 hcell hbk hg h0
  go_enter Tryd.func29, Tryd.ntmps29
  go_wp2
  have mixed : Tryd.prog.follows .mixedOrders = true := by kernel_rfl
  go_region_o
  all_goals (go_wp2; go_ret; exact ⟨rfl, bl_grown _ _ _ _⟩)
end Go.Proofs.YtdaenbgjafalcaaDoor
namespace Go.Proofs.YtdaenbgjafalcaaDoor
variable {P : Program} {m : Nat} {Q : Exit → XS → Prop}
theorem Inv.recell {G : Gh} {H : AHeap} {w : World} (h : Inv G H w) {o : Nat} {x : AObj} (ho : H[o]? = some (some x)) (hne : x.cells ≠ []) (xs : List AV) (hl : xs.length = x.cells.length) (h1 : xs.all AV.one = true) (hx : ∀ vs, RL H.length G x.cells vs → RL H.length G xs vs) : Inv G (H.set o (some ⟨x.t, xs⟩)) w := by
  have holt : o < H.length := (List.getElem?_eq_some_iff.1 ho).1
  have hlen : (H.set o (some ⟨x.t, xs⟩)).length = H.length := List.length_set
  have back : ∀ q z, (H.set o (some ⟨x.t, xs⟩))[q]? = some (some z) → ∃ z', H[q]? = some (some z') := fun q z hq => by
    by_cases hq2 : q = o
    · subst hq2; exact ⟨x, ho⟩
    · rw [List.getElem?_set_ne (Ne.symm hq2)] at hq; exact ⟨z, hq⟩
  refine ⟨h.os, h.tape, h.output, h.fz, h.kp, fun q hq => by rw [hlen]; exact h.dom q hq, fun q z e => by obtain ⟨z', hz'⟩ := back q z e; exact h.live q z' hz', fun o' y e => ?_, fun o1 o2 y y' e e' hne' => by
    obtain ⟨z, hz⟩ := back o1 y e
    obtain ⟨z', hz'⟩ := back o2 y' e'
    exact h.inj o1 o2 z z' hz hz' hne'⟩
  rw [hlen]
  by_cases hoo : o' = o
  · subst hoo
    rw [List.getElem?_set_self holt] at e
    simp only [Option.some.injEq] at e; subst e
    obtain ⟨k0, cs, k1, k2, k3, k4, k5, k6⟩ := h.real ho hne
    exact .inr ⟨k0, cs, k1, k2, by rw [hl]; exact hx _ k3, h1, k5, k6⟩
  · rw [List.getElem?_set_ne (Ne.symm hoo)] at e
    exact h.obj o' y e
end Go.Proofs.YtdaenbgjafalcaaDoor
namespace Go.Proofs.YtdaenbgjafalcaaDoor
variable {P : Program} {m : Nat} {Q : Exit → XS → Prop}
end Go.Proofs.YtdaenbgjafalcaaDoor
