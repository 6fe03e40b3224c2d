import Derived.Test.YtpfbcjlgbdbcpaaMgAL
import Derived.Shelf.Small.Wraps
import Derived.Shelf.SlSortCmp.Insertion
import Derived.Test.YtpfbcjlgbdbcpaaMgAA
import Derived.Test.YtpfbcjlgbdbcpaaChecked
import Derived.BigGuardPart
import Derived.Handy
import Derived.Lib.Hide
import Derived.StillTactics
import Derived.StillTailTactics
import Derived.Deep.QuietTactic
import Derived.BigQuiet
import Derived.Deep.RegionHeld3
import Derived.Test.YtpfbcjlgbdbcpaaMgAN
namespace Go.Proofs.Ytpfbcjlgbdbcpaa
open Go.RowKit
set_option linter.unusedVariables false
set_option linter.unusedSimpArgs false
section
variable {P : Program} {tt : TT} {m : Nat} {Q : Exit → XS → Prop} {fr : List AV} {H : AHeap} {M : MS} {l : List Oper} {o : Oper} {n0 : Nat} {us : List Nat} {H0 Hc : AHeap} {K : List AV → AHeap → Prop} {al : List Kd}
theorem ADR_free0 (hT : TyOK P tt) (hr : roOp o.op = true) (hw : wantedS fr o = some true) (h : match aop tt ⟨fr, []⟩ o with | some (x, _) => ADR P n0 us H0 K Hc (l, al, putL fr o.dst x) | none => False) : ADR P n0 us H0 K Hc (o :: l, .free :: al, fr) := fun n hn => by
  cases hx : aop tt ⟨fr, []⟩ o with
  | none => rw [hx] at h; exact h.elim
  | some p =>
    obtain ⟨x, H'⟩ := p
    rw [hx] at h
    have := aop_ro hr hx
    subst this
    exact ⟨x, Hc, none, .free x (wanted_iff hn hw) fun H => does_aop hT (aop_mono (H0 := []) ⟨Nat.zero_le _, fun o x e => by simp at e⟩ hr hx), h n (by show (putL _ _ _).length ≤ n; rw [putL_len]; exact hn)⟩
def kdOf2 (c : Bool) (op : Op) : Kd := match op with
  | .load _ _ => .free
  | op => kdOf c op
def alD2 (ops : List Oper) : List Kd := ops.map fun o => kdOf2 (ops.any fun o => isApp o.op) o.op
end
end Go.Proofs.Ytpfbcjlgbdbcpaa
namespace Go.Proofs.Ytpfbcjlgbdbcpaa
open Go.RowKit Go.Shelf Go.Lib Go.Sort
set_option linter.unusedVariables false
set_option linter.unusedSimpArgs false
def compareR_ren : Go.Shelf.Ren := ⟨fun | 122 => 36 | 215 => 41 | n => n, fun | 3 => 3 | 4 => 4 | n => n, fun | n => n⟩
theorem compareR : Go.Proofs.Lays.n122 Try.prog compareR_ren := {
  mixed := by kernel_rfl
  f122 := Try.func36.trans (congrArg some (by kernel_rfl))
  f215 := Try.func41.trans (congrArg some (by kernel_rfl))
  t3 := Try.underlying3
  a3 := Try.isAgg3
  z3 := Try.sizeOf3
  v3 := Try.zeroValue3
  t4 := Try.underlying4
  a4 := Try.isAgg4
  z4 := Try.sizeOf4
  v4 := Try.zeroValue4 }
theorem cmp_intsR (x y : Int) (w : World) : Calls Try.prog 36 #[.int .i64 x, .int .i64 y] w fun e w' => e = .returned (.int .i64 (Lib.compareInt x y)) ∧ w' = w := Any.cmp_Compare_int compareR x y w
def orL : List Int → Int
  | [] => 0
  | x :: xs => if x ≠ 0 then x else orL xs
theorem orL_drop {X : List Int} {k : Nat} (h : k < X.length) : orL (X.drop k) = if X.getD k 0 ≠ 0 then X.getD k 0 else orL (X.drop (k + 1)) := by
  rw [List.drop_eq_getElem_cons h, List.getD_eq_getElem?_getD, List.getElem?_eq_getElem h]; rfl
set_option maxRecDepth 100000 in
set_option maxHeartbeats 1000000 in
theorem ob_or (b : Nat) (X : List Int) (hX : X.length = 4) (W : World) (hc : ∀ j, j < 4 → W.cell? ⟨b, j, none⟩ = some (.int .i64 (X.getD j 0))) :
    Calls Try.prog 35 #[.slice (some ⟨b, 0, none⟩) 4 4] W fun e w' => e = .returned (.int .i64 (orL X)) ∧ w' = W := by
  have HC := Lib.hid hc
  have HX := Lib.hid hX
  generalize hr : orL X = r
  have HRR := Lib.hid hr
  clear hr hc
  go_enter Try.func35, Try.ntmps35
  go_wp2_with fail
  go_loopw [8] (fun i wr => ∃ k : Nat, k ≤ 4 ∧ i = .int .i64 k ∧ orL (X.drop k) = r ∧ wr = W) (fun i _ => 4 - (intOf i).toNat)
  case atStart => exact ⟨0, Nat.zero_le _, rfl, HRR.out, rfl⟩
  case round =>
    obtain ⟨k, hk, rfl, hor, rfl⟩ := hrel
    have HOR := Lib.hid hor
    clear hor
    have t1 : (0 : Int) ≤ (k : Int) := by omega
    by_cases hlt : k < 4
    · have t2 : (k : Int) < 4 := by omega
      have hck := HC.out k hlt
      have hd := orL_drop (X := X) (k := k) (by rw [HX.out]; exact hlt)
      rw [HOR.out] at hd
      have HD := Lib.hid hd
      clear hd
      generalize X.getD k 0 = z at *
      by_cases hz : z = 0
      · subst hz
        go_wp2_with fail
        go_roundw
        case rel => exact ⟨k + 1, by omega, by go_num, by have := HD.out; simpa using this.symm, by first | rfl | trivial⟩
        case measure => simp [intOf]; omega
      · have hz2 : decide (z = 0) = false := decide_eq_false hz
        go_wp2_with fail
        go_ret
        exact ⟨ret_int (by have := HD.out; rw [if_pos hz] at this; exact this.symm), by first | rfl | trivial⟩
    · have t2 : ¬ (k : Int) < 4 := by omega
      have t3 : decide ((k : Int) < 4) = false := decide_eq_false t2
      go_wp2_with fail
      go_ret
      exact ⟨ret_int (by have := HOR.out; rw [List.drop_eq_nil_of_le (by rw [HX.out]; omega)] at this; exact this), by first | rfl | trivial⟩
theorem still_named {P : Program} {id : Nat} {Q : Exit → Act → World → Prop} {a : Act} {w : World} {l : List Oper} (n : Nat) (hm : P.follows .mixedOrders = true) (hB : Region.lexTailB .any l.toArray n = true)
    (h : ∀ W3 : World, W3 = w.drew → wpStill P l.toArray W3 (fun a' => wpList P l.toArray Q (l.drop n) a' W3) (l.take n) a) : (Code.region id l.toArray true).wp P Q a w := wp_region_still_tail n hm hB (h _ rfl)
theorem two_fst {W : World} {o1 o2 : Obj} : ((W.alloc o1).alloc o2).drew.heap[W.heap.size]? = some o1 := by
  show ((W.heap.push o1).push o2)[W.heap.size]? = _
  rw [Array.getElem?_push, if_neg (by simp), Array.getElem?_push, if_pos rfl]
theorem two_snd {W : World} {o1 o2 : Obj} : ((W.alloc o1).alloc o2).drew.heap[W.heap.size + 1]? = some o2 := by
  show ((W.heap.push o1).push o2)[W.heap.size + 1]? = _
  rw [Array.getElem?_push, if_pos (by simp)]
theorem two_cell {W : World} {b : Nat} {xs : Array Value} {t : TypeId} (h : W.heap[b]? = some (.cells xs t)) (j : Nat) {v : Value} (hv : xs[j]? = some v) : W.cell? ⟨b, j, none⟩ = some v := by
  simp [World.cell?, h, hv]
theorem or_cells (W : World) (c1 c2 c3 c4 : Int) (t : TypeId) : ∀ j, j < 4 → (W.alloc (Obj.cells #[.int .i64 c1, .int .i64 c2, .int .i64 c3, .int .i64 c4] t)).cell? ⟨W.heap.size, j, none⟩ = some (.int .i64 ([c1, c2, c3, c4].getD j 0)) := fun j hj => by
  refine two_cell (xs := #[.int .i64 c1, .int .i64 c2, .int .i64 c3, .int .i64 c4]) (t := t) ?_ j ?_
  · show (W.heap.push _)[W.heap.size]? = _
    rw [Array.getElem?_push, if_pos rfl]
  · rcases (by omega : j = 0 ∨ j = 1 ∨ j = 2 ∨ j = 3) with rfl | rfl | rfl | rfl <;> rfl
def cmp4 (x y : Int × Int × Int × Int) : Int := orL [Lib.compareInt x.1 y.1, Lib.compareInt x.2.1 y.2.1, Lib.compareInt x.2.2.1 y.2.2.1, Lib.compareInt x.2.2.2 y.2.2.2]
set_option maxRecDepth 100000 in
set_option maxHeartbeats 4000000 in
theorem ob_cmp (a1 a2 a3 a4 b1 b2 b3 b4 : Int) (W : World) :
    Calls Try.prog 34 #[.agg #[.int .i64 a1, .int .i64 a2, .int .i64 a3, .int .i64 a4], .agg #[.int .i64 b1, .int .i64 b2, .int .i64 b3, .int .i64 b4]] W fun e w' => e = .returned (.int .i64 (cmp4 (a1, a2, a3, a4) (b1, b2, b3, b4))) ∧ ∃ q os', w' = grow (W.drewN q) os' := by
  generalize hr : cmp4 (a1, a2, a3, a4) (b1, b2, b3, b4) = r
  unfold cmp4 at hr
  dsimp only at hr
  have HRR := Lib.hid hr
  clear hr
  go_enter Try.func34, Try.ntmps34
  go_wp2_with fail
  refine still_named 20 (by kernel_rfl) (by kernel_rfl) fun W3 hW3 => ?_
  simp only [List.take_succ_cons, List.take_zero, List.drop_succ_cons, List.drop_zero]
  have hA : W3.heap[W.heap.size]? = some (Obj.cells #[.int .i64 a1, .int .i64 a2, .int .i64 a3, .int .i64 a4] 43) := by rw [hW3]; exact two_fst
  have hB : W3.heap[W.heap.size + 1]? = some (Obj.cells #[.int .i64 b1, .int .i64 b2, .int .i64 b3, .int .i64 b4] 43) := by rw [hW3]; exact two_snd
  have H3 := Lib.hid hW3
  clear hW3
  have A0 := two_cell hA 0 (v := .int .i64 a1) rfl
  have A1 := two_cell hA 1 (v := .int .i64 a2) rfl
  have A2 := two_cell hA 2 (v := .int .i64 a3) rfl
  have A3 := two_cell hA 3 (v := .int .i64 a4) rfl
  have B0 := two_cell hB 0 (v := .int .i64 b1) rfl
  have B1 := two_cell hB 1 (v := .int .i64 b2) rfl
  have B2 := two_cell hB 2 (v := .int .i64 b3) rfl
  have B3 := two_cell hB 3 (v := .int .i64 b4) rfl
  clear hA hB
  repeat still_step
  still_call (cmp_intsR _ _ _)
  repeat still_step
  still_call (cmp_intsR _ _ _)
  repeat still_step
  still_call (cmp_intsR _ _ _)
  repeat still_step
  still_call (cmp_intsR _ _ _)
  refine wpStill_nil ?_
  go_wp2_with (go_at_call 35; refine (ob_or _ [_, _, _, _] rfl _ (or_cells _ _ _ _ _ _)).mono ?_; rintro e w' ⟨rfl, rfl⟩)
  go_ret
  exact ⟨ret_int HRR.out, 1, #[_, _, _], by rw [H3.out]; rfl⟩
end Go.Proofs.Ytpfbcjlgbdbcpaa
namespace Go.Proofs.Ytpfbcjlgbdbcpaa
open Go.Lib Go.Sort
set_option linter.unusedVariables false
deriving instance DecidableEq for Rw
theorem Rw.ext' {x y : Rw} (h1 : x.s = y.s) (h2 : x.k = y.k) (h3 : x.n = y.n) (h4 : x.r = y.r) : x = y := by
  cases x; cases y; cases h1; cases h2; cases h3; cases h4; rfl
def cfR (x y : Rw) : Int := cmp4 (x.s, x.k, x.n, x.r) (y.s, y.k, y.n, y.r)
theorem orL_cmp (a b : Int) (l : List Int) : orL (Lib.compareInt a b :: l) = if a < b then -1 else if b < a then 1 else orL l := by
  show (if Lib.compareInt a b ≠ 0 then Lib.compareInt a b else orL l) = _
  unfold Lib.compareInt
  by_cases h1 : a < b
  · simp [h1]
  · by_cases h2 : b < a <;> simp [h1, h2]
def lexR (x y : Rw) : Prop := x.s < y.s ∨ (x.s = y.s ∧ (x.k < y.k ∨ (x.k = y.k ∧ (x.n < y.n ∨ (x.n = y.n ∧ x.r < y.r)))))
instance (x y : Rw) : Decidable (lexR x y) := by unfold lexR; infer_instance
theorem cfR_lt (x y : Rw) : ltOf cfR x y = decide (lexR x y) := by
  rw [Bool.eq_iff_iff, decide_eq_true_iff]
  unfold ltOf cfR cmp4 lexR
  dsimp only
  rw [orL_cmp, orL_cmp, orL_cmp, orL_cmp, decide_eq_true_iff]
  have e : orL [] = 0 := rfl
  rw [e]
  repeat' split
  all_goals omega
theorem cfR_swo : SWO (ltOf cfR) where
  irrefl x := by rw [cfR_lt]; unfold lexR; simp
  trans x y z h1 h2 := by rw [cfR_lt, decide_eq_true_iff] at *; unfold lexR at *; omega
  ntrans x y z h1 h2 := by rw [cfR_lt, decide_eq_false_iff_not] at *; unfold lexR at *; omega
theorem cfR_tot (x y : Rw) (h1 : ltOf cfR x y = false) (h2 : ltOf cfR y x = false) : x = y := by
  rw [cfR_lt, decide_eq_false_iff_not] at h1 h2
  unfold lexR at h1 h2
  exact Rw.ext' (by omega) (by omega) (by omega) (by omega)
def srtR (xs : List Rw) : List Rw := xs.mergeSort fun x y => !(ltOf cfR) y x
theorem srtR_len (xs : List Rw) : (srtR xs).length = xs.length := List.length_mergeSort xs
theorem srtR_perm (xs : List Rw) : (srtR xs).Perm xs := List.mergeSort_perm xs _
theorem rwAt_get {xs : List Rw} {i : Nat} (h : i < xs.length) : rwAt xs i = xs[i] := by
  unfold rwAt; rw [List.getD_eq_getElem?_getD, List.getElem?_eq_getElem h]; rfl
end Go.Proofs.Ytpfbcjlgbdbcpaa
