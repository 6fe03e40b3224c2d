import Derived.Test.YtghdacijcnmhlaaDoorMgAJ
import Derived.Lib.Bytealg
import Derived.Test.YtghdacijcnmhlaaDoorMgAA
import Derived.Test.YtghdacijcnmhlaaDoorMgAG
import Derived.Lib.Builder
import Derived.Lib.UnsafeStr
import Derived.Lib.Hide
import Derived.BigGuardPart
import Derived.StillTailTactics
import Derived.Shelf.RegionOpenPlain
import Derived.Lib.Walk
import Derived.WalkKit
import Derived.Laws.Externs
import Derived.Test.YtghdacijcnmhlaaDoorMgAI
namespace Go.Proofs.YtghdacijcnmhlaaDoor
set_option linter.unusedSimpArgs false
open Go.Lib
def noNl (b : UInt8) : Bool := !(b == 10)
def lnLen (l : List UInt8) : Nat := (l.takeWhile noNl).length
theorem lnLen_le (l : List UInt8) : lnLen l ≤ l.length := (List.takeWhile_sublist noNl (l := l)).length_le
theorem lnLen_ix : ∀ l : List UInt8, (indexByte l 10 = -1 ∧ lnLen l = l.length) ∨ (indexByte l 10 = (lnLen l : Int) ∧ lnLen l < l.length)
  | [] => .inl ⟨rfl, rfl⟩
  | b :: l => by
    have ih := lnLen_ix l
    by_cases h : b = 10
    · subst h
      exact .inr ⟨rfl, by show 0 < _; simp⟩
    · have e1 : (b == 10) = false := by simpa using h
      have e2 : lnLen (b :: l) = lnLen l + 1 := by unfold lnLen; rw [List.takeWhile_cons, if_pos (by simp [noNl, e1])]; rfl
      have e3 : indexByte (b :: l) 10 = if indexByte l 10 == -1 then -1 else indexByte l 10 + 1 := by rw [indexByte, e1]; rfl
      rw [e2, e3]
      rcases ih with ⟨h1, h2⟩ | ⟨h1, h2⟩
      · left; rw [h1]; exact ⟨rfl, by rw [h2, List.length_cons]⟩
      · right
        have e4 : (indexByte l 10 == -1) = false := by rw [h1]; simp
        rw [e4, h1]
        refine ⟨by simp, ?_⟩
        rw [List.length_cons]; omega
def lns (ln k : Nat) (l : List UInt8) : List (Nat × Nat × List (Nat × List UInt8)) :=
  match l with
  | [] => []
  | c :: r => (ln, k, lineTk ((c :: r).take (lnLen (c :: r)))) :: lns (ln + 1) (k + (lnLen (c :: r) + 1)) ((c :: r).drop (lnLen (c :: r) + 1))
termination_by l.length
decreasing_by simp; omega
theorem lns_nil (ln k : Nat) : lns ln k [] = [] := by rw [lns]
theorem lns_at {ln k : Nat} {l : List UInt8} (h : k < l.length) : lns ln k (l.drop k) = (ln, k, lineTk ((l.drop k).take (lnLen (l.drop k)))) :: lns (ln + 1) (k + (lnLen (l.drop k) + 1)) (l.drop (k + (lnLen (l.drop k) + 1))) := by
  obtain ⟨c, r, e⟩ : ∃ c r, l.drop k = c :: r := ⟨_, _, drop_at h⟩
  have e2 : l.drop (k + (lnLen (l.drop k) + 1)) = (l.drop k).drop (lnLen (l.drop k) + 1) := by rw [List.drop_drop]
  rw [e2, e, lns]
end Go.Proofs.YtghdacijcnmhlaaDoor
namespace Go.Proofs.YtghdacijcnmhlaaDoor
set_option linter.unusedSimpArgs false
open Go.Lib
theorem lnLen_in : ∀ {m : List UInt8} {j : Nat}, j < lnLen m → m.getD j 0 ≠ 10
  | [], j, h => by simp [lnLen] at h
  | b :: m, j, h => by
    unfold lnLen at h
    rw [List.takeWhile_cons] at h
    by_cases hb : noNl b = true
    · rw [if_pos hb] at h
      cases j with
      | zero => simp [noNl] at hb; simpa using hb
      | succ j => rw [List.getD_cons_succ]; exact lnLen_in (by unfold lnLen; simpa using h)
    · rw [if_neg hb] at h; simp at h
theorem lnLen_at : ∀ {m : List UInt8}, lnLen m < m.length → m.getD (lnLen m) 0 = 10
  | [], h => by simp at h
  | b :: m, h => by
    have e : lnLen (b :: m) = if noNl b = true then lnLen m + 1 else 0 := by unfold lnLen; rw [List.takeWhile_cons]; split <;> rfl
    rw [e] at h ⊢
    by_cases hb : noNl b = true
    · rw [if_pos hb] at h ⊢
      rw [List.getD_cons_succ]; exact lnLen_at (by simpa using h)
    · rw [if_neg hb]
      simp [noNl] at hb; simpa using hb
theorem dropD (l : List UInt8) (k p : Nat) : (l.drop k).getD p 0 = l.getD (k + p) 0 := by simp [List.getD]
end Go.Proofs.YtghdacijcnmhlaaDoor
namespace Go.Proofs.YtghdacijcnmhlaaDoor
open Go.RowKit Go.Shelf Go.Lib
set_option linter.unusedVariables false
set_option linter.unusedSimpArgs false
theorem bl_info : (Tryd.prog.info? 72).map (·.size) = some 2 := by kernel_rfl
theorem bl_lies : liesAt Tryd.prog Tryd.prog.depth 72 (2 / Tryd.prog.cellsOf 72) 0 72 1 = true := by kernel_rfl
set_option maxRecDepth 100000 in
set_option maxHeartbeats 1000000 in
theorem bl_used (b : Nat) (w : World) (h0 : w.cell? ⟨b, 0, none⟩ = some (.pointer (some ⟨b, 0, none⟩))) : Calls Tryd.prog 56 #[.pointer (some ⟨b, 0, none⟩)] w fun e w' => e = .returned (.tuple #[]) ∧ w' = w := by
  obtain ⟨j, hj, _⟩ := Option.map_eq_some_iff.1 bl_info
  go_enter Tryd.func56, Tryd.ntmps56
  go_wp2
  rw [Lib.run_neq_ptr_same w _ Tryd.underlying69 hj]
  go_wp2
  go_end0
  exact ⟨rfl, rfl⟩
set_option maxRecDepth 100000 in
set_option maxHeartbeats 1000000 in
theorem bl_fresh (b : Nat) (w : World) (h0 : w.cell? ⟨b, 0, none⟩ = some (.pointer none)) (hsh : w.shape? b = some (72, 2)) (hfz : w.frozen? ⟨b, 0, none⟩ = false) : Calls Tryd.prog 56 #[.pointer (some ⟨b, 0, none⟩)] w fun e w' => e = .returned (.tuple #[]) ∧ w' = w.setCell ⟨b, 0, none⟩ (.pointer (some ⟨b, 0, none⟩)) := by
  obtain ⟨j, hj, hjs⟩ := Option.map_eq_some_iff.1 bl_info
  go_enter Tryd.func56, Tryd.ntmps56
  go_wp2
  rw [Lib.run_to_unsafe w ⟨b, 0, none⟩ Tryd.underlying69 Tryd.underlying112 hj (by rw [hjs]; decide) hsh (Nat.zero_lt_succ 1)]
  simp only [Result.andThen]
  rw [Oper.upon_value]
  go_wp2
  rw [run_callFunc_extern Tryd.func67 (by kernel_rfl) (by kernel_rfl) (by kernel_rfl) (e := Extern.AbiNoEscape.same) (by kernel_rfl)]
  rw [Lib.run_noEscape]
  simp only [Result.andThen]
  rw [Oper.upon_value]
  go_wp2
  rw [Lib.run_from_unsafe w ⟨b, 0, none⟩ Tryd.underlying112 Tryd.underlying69 hj hsh bl_lies]
  simp only [Result.andThen]
  rw [Oper.upon_value]
  go_wp2
  go_end0
  exact ⟨rfl, rfl⟩
theorem bl_bytesAt {P : Program} {e : TypeId} (hc : P.cellsOf e = 1) (count a n : Nat) (hn : a + n ≤ count) : liesAt P P.depth e count a e n = true := by
  have hd : P.depth = (2 * (P.types.size + Made.depth) + 1) + 1 := rfl
  rw [hd]
  simp only [liesAt, Bool.or_eq_true]
  left
  rw [hd]
  simp [rowAt, hc, hn, sameLayout, Nat.mod_one]
theorem bl_unsafe {P : Program} (w : World) (pt it ty e : TypeId) (hp : P.underlying pt = some (.pointer e)) (hc : P.cellsOf e = 1) (g a cells : Nat) (hsh : w.shape? g = some (e, cells)) (l : List UInt8) (h0 : l ≠ []) (hn : a + l.length ≤ cells) (h63 : l.length ≤ 9223372036854775807)
    (hcell : ∀ j x, l[j]? = some x → w.cell? ((⟨g, a, none⟩ : Addr).add j) = some (.int .u8 x.toNat)) :
    (Builtin.unsafeString_ #[pt, it] ty #[.pointer (some ⟨g, a, none⟩), .int .i64 l.length]).run P w = .ok (.string ⟨l.toArray⟩) (w.freeze ⟨g, a, none⟩ l.length) := by
  have hl : l.length ≠ 0 := by simpa using h0
  have hlb := Lib.run_loadBytes (P := P) w l ⟨g, a, none⟩ .empty hcell
  have hlies := bl_bytesAt (P := P) hc (cells / P.cellsOf e) a l.length (by rw [hc]; simpa using hn)
  have h63' : ¬ (9223372036854775807 : Int) < (l.length : Int) := by omega
  have hdef : Builtin.unsafeString_ #[pt, it] ty #[.pointer (some ⟨g, a, none⟩), .int .i64 l.length] =
      (do
        let n ← asInt (.int .i64 l.length)
        if n < 0 then runtimePanic (.error "unsafe.String: len out of range")
        if n > IntKind.i64.max then unsupported (.unsafePointer "String: a length above the largest int")
        if n = 0 then pure (.string .empty)
        else if ← variablesAt ⟨g, a, none⟩ (← elemOf pt) n.toNat then do
          let s ← loadBytes ⟨g, a, none⟩ .empty n.toNat
          freeze ⟨g, a, none⟩ n.toNat
          pure (.string s)
        else unsupported (.unsafePointer "String: not so many bytes at ptr")) := rfl
  rw [hdef]
  have hmax : IntKind.i64.max = 9223372036854775807 := rfl
  have hneg : ¬ (l.length : Int) < 0 := by omega
  simp [asInt, asIntOf, hmax, h63', hneg, hl, variablesAt, hsh, elemOf, run_underlying hp, hlies, hlb]
theorem bl_grown (w : World) (g a n : Nat) : w.grownBy (w.drew.freeze ⟨g, a, none⟩ n) (some g) := by
  unfold World.freeze
  split
  · exact ⟨rfl, rfl, rfl, Nat.le_refl _, fun _ _ _ => rfl⟩
  · refine ⟨rfl, rfl, rfl, by show w.heap.size ≤ (w.heap.modify _ _).size; rw [Array.size_modify]; exact Nat.le_refl _, fun k hk hne => ?_⟩
    show (w.heap.modify _ _)[k]? = _
    rw [Array.getElem?_modify, if_neg (fun e => hne (by rw [← e]))]
set_option maxRecDepth 100000 in
set_option maxHeartbeats 2000000 in
theorem bl_string (b g a cap : Nat) (p : Value) (cur : Array Value) (l : List UInt8) (w : World) (hbk : w.heap[b]? = some (.cells #[p, .slice (some ⟨g, a, none⟩) l.length cap] 72 (0, 0))) (hg : w.heap[g]? = some (.cells cur 5 (0, 0))) (h0 : l ≠ []) (hcap : cap ≠ 0) (hn : a + l.length ≤ cur.size) (h63 : l.length ≤ 9223372036854775807)
    (hcell : ∀ j x, l[j]? = some x → w.cell? ⟨g, a + j, none⟩ = some (.int .u8 x.toNat)) :
    Calls Tryd.prog 33 #[.pointer (some ⟨b, 0, none⟩)] w fun e w' => e = .returned (.string ⟨l.toArray⟩) ∧ w.grownBy w' (some g) := by
  have c1 : w.drew.cell? ⟨b, 1, none⟩ = some (.slice (some ⟨g, a, none⟩) l.length cap) := by
    have : w.drew.heap[b]? = some (.cells #[p, .slice (some ⟨g, a, none⟩) l.length cap] 72 (0, 0)) := hbk
    rw [Lib.cell_of_heap this]; rfl
  have hSD : (Builtin.unsafeSliceData_ #[70] 102 #[.slice (some ⟨g, a, none⟩) l.length cap]).run Tryd.prog w.drew = .ok (.pointer (some ⟨g, a, none⟩)) w.drew :=
    Lib.run_unsafeSliceData_row _ _ _ _ _ _ hcap
  have hUS : (Builtin.unsafeString_ #[102, 3] 9 #[.pointer (some ⟨g, a, none⟩), .int .i64 l.length]).run Tryd.prog w.drew = .ok (.string ⟨l.toArray⟩) (w.drew.freeze ⟨g, a, none⟩ l.length) := by
    refine bl_unsafe w.drew 102 3 9 5 Tryd.underlying102 (by kernel_rfl) g a cur.size (by have hg' : w.drew.heap[g]? = some (.cells cur 5 (0, 0)) := hg; simp [World.shape?, hg']) l h0 hn h63 ?_
    intro j x hx
    rw [Addr.add_lit]
    exact hcell j x hx
  clear hcap hn h63 hcell hbk hg h0
  go_enter Tryd.func33, Tryd.ntmps33
  go_wp2
  have mixed : Tryd.prog.follows .mixedOrders = true := by kernel_rfl
  go_region_o
  all_goals (go_wp2; go_ret; exact ⟨rfl, bl_grown _ _ _ _⟩)
set_option maxRecDepth 100000 in
set_option maxHeartbeats 2000000 in
theorem bl_stringNil (b : Nat) (p : Value) (w : World) (hbk : w.heap[b]? = some (.cells #[p, .slice none 0 0] 72 (0, 0))) :
    Calls Tryd.prog 33 #[.pointer (some ⟨b, 0, none⟩)] w fun e w' => e = .returned (.string ⟨#[]⟩) ∧ w' = w.drew := by
  have c1 : w.drew.cell? ⟨b, 1, none⟩ = some (.slice none 0 0) := by
    have : w.drew.heap[b]? = some (.cells #[p, .slice none 0 0] 72 (0, 0)) := hbk
    rw [Lib.cell_of_heap this]; rfl
  have hUS : ∀ (W : World) (q : Option Addr), (Builtin.unsafeString_ #[102, 3] 9 #[.pointer q, .int .i64 0]).run Tryd.prog W = .ok (.string .empty) W := fun W q => Lib.run_unsafeString_none W _ _ _ q
  have hSD : (Builtin.unsafeSliceData_ #[70] 102 #[.slice none 0 0]).run Tryd.prog w.drew = .ok (.pointer none) w.drew := rfl
  clear hbk
  go_enter Tryd.func33, Tryd.ntmps33
  go_wp2
  have mixed : Tryd.prog.follows .mixedOrders = true := by kernel_rfl
  go_region_o
  all_goals (go_wp2; go_ret; exact ⟨rfl, rfl⟩)
end Go.Proofs.YtghdacijcnmhlaaDoor
namespace Go.Proofs.YtghdacijcnmhlaaDoor
variable {P : Program} {m : Nat} {Q : Exit → XS → Prop}
theorem Inv.recell {G : Gh} {H : AHeap} {w : World} (h : Inv G H w) {o : Nat} {x : AObj} (ho : H[o]? = some (some x)) (hne : x.cells ≠ []) (xs : List AV) (hl : xs.length = x.cells.length) (h1 : xs.all AV.one = true) (hx : ∀ vs, RL H.length G x.cells vs → RL H.length G xs vs) : Inv G (H.set o (some ⟨x.t, xs⟩)) w := by
  have holt : o < H.length := (List.getElem?_eq_some_iff.1 ho).1
  have hlen : (H.set o (some ⟨x.t, xs⟩)).length = H.length := List.length_set
  have back : ∀ q z, (H.set o (some ⟨x.t, xs⟩))[q]? = some (some z) → ∃ z', H[q]? = some (some z') := fun q z hq => by
    by_cases hq2 : q = o
    · subst hq2; exact ⟨x, ho⟩
    · rw [List.getElem?_set_ne (Ne.symm hq2)] at hq; exact ⟨z, hq⟩
  refine ⟨h.os, h.tape, h.output, h.fz, h.kp, fun q hq => by rw [hlen]; exact h.dom q hq, fun q z e => by obtain ⟨z', hz'⟩ := back q z e; exact h.live q z' hz', fun o' y e => ?_, fun o1 o2 y y' e e' hne' => by
    obtain ⟨z, hz⟩ := back o1 y e
    obtain ⟨z', hz'⟩ := back o2 y' e'
    exact h.inj o1 o2 z z' hz hz' hne'⟩
  rw [hlen]
  by_cases hoo : o' = o
  · subst hoo
    rw [List.getElem?_set_self holt] at e
    simp only [Option.some.injEq] at e; subst e
    obtain ⟨k0, cs, k1, k2, k3, k4, k5, k6⟩ := h.real ho hne
    exact .inr ⟨k0, cs, k1, k2, by rw [hl]; exact hx _ k3, h1, k5, k6⟩
  · rw [List.getElem?_set_ne (Ne.symm hoo)] at e
    exact h.obj o' y e
end Go.Proofs.YtghdacijcnmhlaaDoor
