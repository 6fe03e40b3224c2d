import Derived.RangeFuncNested
import Derived.RangeFuncBound
import Derived.RangeFuncCalls
import Derived.RangeFuncLeaves
import Derived.RangeFuncBox
import Derived.Shelf.Abstract
import Derived.Shelf.RegionOpen
import Derived.WalkKit
import Derived.OwnWalkIn
import Derived.TacticsInMore
import Derived.LoopNIn
import Derived.LoopIn
import Derived.Maps.AppendAt
import Derived.Test.YtcjnikkmjhagmaaGreatDoorMgAA
import Derived.Test.YtcjnikkmjhagmaaGreatDoorProg
import Derived.BigGuardPart
import Derived.Deep.AppendLies
import Derived.StillTactics
import Derived.OwnWalk
import Derived.Laws.Pointers
import Derived.Handy
import Derived.Deep.QuietTactic
import Derived.BigQuiet
import Derived.Deep.RegionHeld3
import Derived.Lib.Hide
import Derived.Shelf.Sort.Plain
import Derived.Shelf.Slices.In.SortNone
import Derived.Test.YtcjnikkmjhagmaaGreatDoorMgAI
namespace Go.Proofs.YtcjnikkmjhagmaaGreatDoor
open Go.RowKit Go.Shelf
set_option linter.unusedVariables false
set_option linter.unusedSimpArgs false
attribute [local go_sem] Oper.semAt_some
theorem rf_lt {w : World} {b i : Nat} {v : Value} (h : w.cell? ⟨b, i, none⟩ = some v) : b < w.heap.size := by
  unfold World.cell? at h
  split at h
  · rename_i c t fr hb; exact (Array.getElem?_eq_some_iff.1 hb).1
  · cases h
def rfUp (f : Nat → Int) (k : Nat) : List Int := (List.range k).map f
theorem rfUp_succ (f : Nat → Int) (k : Nat) : rfUp f (k + 1) = rfUp f k ++ [f k] := by simp [rfUp, List.range_succ]
theorem rfUp_len (f : Nat → Int) (k : Nat) : (rfUp f k).length = k := by simp [rfUp]
theorem rfUp_all (zs : List Int) : rfUp (fun j => zs[j]?.getD 0) zs.length = zs := by
  apply List.ext_getElem
  · simp [rfUp]
  · intro i h1 h2
    simp [rfUp, h2]
set_option maxRecDepth 100000 in
set_option maxHeartbeats 2000000 in
theorem rf_vals1 (F : Fence) (n : Nat) (hf : F.fn 132) (hro : F.round = none) (hn : 1 ≤ n) (l Bs n₀ b off len cap : Nat) (zs : List Int) (hreach : len * 8 ≤ 140737488351232) (hb : b < n₀) (J Jx : List Int → World → Prop)
    (hY : ∀ pre x W, J pre W → pre.length < len → YieldAt F (n - 1) Tryz.prog l #[.int .i64 x] W fun e W' =>
      (e = .returned (.bool true) ∧ J (pre ++ [x]) W' ∧ Below n₀ W W') ∨ (e = .returned (.bool false) ∧ Jx (pre ++ [x]) W'))
    (W : World) (hBs : W.cell? ⟨Bs, 0, none⟩ = some (.slice (some ⟨b, off, none⟩) len cap)) (hc : ∀ j, j < len → W.cell? ⟨b, off + j, none⟩ = some (.int .i64 (zs[j]?.getD 0))) (h0 : J [] W) :
    CallsIn F n Tryz.prog 132 #[.func (.yield l) #[] #[], .pointer (some ⟨Bs, 0, none⟩)] W fun e W' => (∃ v, e = .returned v) ∧
      ((∃ ys, ys = rfUp (fun j => zs[j]?.getD 0) len ∧ J ys W') ∨ (∃ pre : List Int, True ∧ Jx pre W')) := by
  refine callsIn_of_wp Tryz.func132 rfl hf ?_ hro
  simp only [Tryz.ntmps132, List.size_toArray, List.length_cons, List.length_nil, Nat.reduceAdd, Nat.reduceSub, Array.replicate_succ, Array.replicate_zero, List.push_toArray, List.append_toArray, List.nil_append, List.cons_append]
  gi_wp2
  gi_loopw [7] (fun i wr => ∃ k : Nat, k ≤ len ∧ i = .int .i64 k ∧ J (rfUp (fun j => zs[j]?.getD 0) k) wr ∧ Below n₀ W wr)
    (fun i _ => len - (intOf i).toNat)
  case atStart => exact ⟨0, Nat.zero_le _, rfl, h0, Below.refl _ _⟩
  case round =>
    obtain ⟨k, hk, rfl, hJs, hnx⟩ := hrel
    have hcx : k < len → wr.cell? ⟨b, off + k, none⟩ = some (.int .i64 (zs[k]?.getD 0)) := fun h => (hnx.cell (p := ⟨b, off + k, none⟩) hb).trans (hc k h)
    by_cases hlt : k < len
    · obtain ⟨fn, tmps, assign, body, hy, hR⟩ := hY _ (zs[k]?.getD 0) wr hJs (by rw [rfUp_len]; exact hlt)
      have hcx' := hcx hlt
      gi_wp2
      refine hR.mono ?_
      rintro e W3 (⟨rfl, hJ3, hk3⟩ | ⟨rfl, hJx3⟩)
      · gi_wp2
        go_roundw
        case rel => exact ⟨k + 1, by omega, by simp, by rw [rfUp_succ]; exact hJ3, hnx.trans hk3⟩
        case measure => simp [intOf]; omega
      · gi_wp2
        refine bodyPost_ret (results_none rfl _ _ _) rfl ?_
        exact ⟨⟨_, rfl⟩, .inr ⟨_, trivial, hJx3⟩⟩
    · obtain rfl : k = len := by omega
      gi_wp2
      go_end0
      exact ⟨⟨_, rfl⟩, .inl ⟨_, rfl, hJs⟩⟩
set_option maxRecDepth 100000 in
set_option maxHeartbeats 1000000 in
theorem rf_vals0 (F : Fence) (n : Nat) (hf : F.fn 132) (hro : F.round = none) (l Bs cap : Nat) (a : Option Addr) (J : List Int → World → Prop) (W : World) (hBs : W.cell? ⟨Bs, 0, none⟩ = some (.slice a 0 cap)) (h0 : J [] W) :
    CallsIn F n Tryz.prog 132 #[.func (.yield l) #[] #[], .pointer (some ⟨Bs, 0, none⟩)] W fun e W' => (∃ v, e = .returned v) ∧ J [] W' := by
  refine callsIn_of_wp Tryz.func132 rfl hf ?_ hro
  simp only [Tryz.ntmps132, List.size_toArray, List.length_cons, List.length_nil, Nat.reduceAdd, Nat.reduceSub, Array.replicate_succ, Array.replicate_zero, List.push_toArray, List.append_toArray, List.nil_append, List.cons_append]
  gi_wp2
  gi_loopw [7] (fun i wr => i = .int .i64 0 ∧ J [] wr) (fun _ _ => 0)
  case atStart => exact ⟨rfl, h0⟩
  case round =>
    obtain ⟨rfl, hJs⟩ := hrel
    gi_wp2
    go_end0
    exact ⟨⟨_, rfl⟩, hJs⟩
theorem rf_stops (F : Fence) (n : Nat) (hf : F.fn 132) (hro : F.round = none) (hn : 1 ≤ n) (Bs n₀ : Nat) (a : Option Addr) (len cap : Nat) (zs : List Int) (hreach : len * 8 ≤ 140737488351232) (w : World) (hBs : Bs < w.heap.size) (hn₀ : n₀ ≤ w.heap.size)
    (hc : w.cell? ⟨Bs, 0, none⟩ = some (.slice a len cap)) (hI : IntRow w a len zs) (hb : ∀ b off, a = some ⟨b, off, none⟩ → 0 < len → b < n₀) :
    SeqStopsK F n Tryz.prog 132 #[.pointer (some ⟨Bs, 0, none⟩)] (fun x : Int => #[Value.int .i64 x]) (Below n₀) (fun ys => ys = zs) (fun _ => True) len w := fun l J Jx W hW _ _ hY h0 => by
  have hc' := (hW.cell (p := ⟨Bs, 0, none⟩) hBs).trans hc
  have hl := hI.1
  rcases Nat.eq_zero_or_pos len with hz | hp
  · subst hz
    obtain rfl : zs = [] := List.length_eq_zero_iff.1 hl
    exact (rf_vals0 F n hf hro l Bs cap a J W hc' h0).mono fun e W' ⟨he, hj⟩ => ⟨he, .inl ⟨_, rfl, hj⟩⟩
  · obtain ⟨b, off, rfl, hcs⟩ := (hI.later hW).2.2 hp
    refine (rf_vals1 F n hf hro hn l Bs n₀ b off len cap zs hreach (hb b off rfl hp) J Jx hY W hc' (fun j hj => by rw [hcs j hj]; rw [List.getD_eq_getElem?_getD]) h0).mono ?_
    rintro e W' ⟨he, ⟨ys, rfl, hj⟩ | ⟨pre, _, hj⟩⟩
    · exact ⟨he, .inl ⟨_, by rw [← hl]; exact rfUp_all zs, hj⟩⟩
    · exact ⟨he, .inr ⟨_, trivial, hj⟩⟩
theorem rf_infoI : (Tryz.prog.info? 3).map (fun i => (i.zero, i.size, i.bytes)) = some (some (.int .i64 0), 1, 8) := by kernel_rfl
set_option maxRecDepth 100000 in
set_option maxHeartbeats 2000000 in
theorem rf_append (Bs : Nat) (a : Option Addr) (len cap : Nat) (zs : List Int) (hlen : len ≤ 1000000) (w : World) (hBs : Bs < w.heap.size) (hc : w.cell? ⟨Bs, 0, none⟩ = some (.slice a len cap)) (hI : IntRow w a len zs) :
    Calls Tryz.prog 139 #[.slice none 0 0, .func (.func 132) #[] #[.pointer (some ⟨Bs, 0, none⟩)]] w fun e w' => ∃ v, e = .returned v ∧ w'.ownsRow w.heap.size 3 1 v zs.length (zs.map (Value.int .i64)) ∧ Below w.heap.size w w' := by
  refine (callsIn_wide (n := 5)).1 ?_
  have hl := hI.1
  obtain ⟨i0, hi, hz0, hz1, hz2⟩ := info_parts rf_infoI
  refine callsIn_of_wp_marks Tryz.func139 rfl trivial ?_ rfl
  simp only [Tryz.ntmps139, List.size_toArray, List.length_cons, List.length_nil, Nat.reduceAdd, Nat.reduceSub, Array.replicate_succ, Array.replicate_zero, List.push_toArray, List.append_toArray, List.nil_append, List.cons_append]
  gi_wp2
  have bO := Boxed.new w 57 (.slice none 0 0)
  have hB0 : Below w.heap.size w (w.alloc (.cells #[.slice none 0 0] 57)) := (Below.refl _ w).alloc (Nat.le_refl _) _
  refine wpIn_rangeFunc_ownG rfl (by decide) (gf := 132) (lb := #[.pointer (some ⟨Bs, 0, none⟩)]) rfl trivial (enters_of Tryz.func132 (by kernel_rfl) rfl)
    (rf_stops Fence.wide 4 trivial rfl (by decide) Bs w.heap.size a len cap zs (by omega) _ (by simp; omega) (by simp) ((hB0.cell (p := ⟨Bs, 0, none⟩) hBs).trans hc) (hI.later hB0) (fun b off e hp => by
      obtain ⟨b', off', e', h⟩ := hI.2.2 hp
      rw [e] at e'; cases e'
      have := h 0 hp
      exact rf_lt this)) belowK_t (belowK_b (by simp)) (Below.refl _ _) (fun _ => rfl)
    (fun pre W => (∃ v, Boxed W w.heap.size 57 v ∧ W.ownsRow w.heap.size 3 1 v pre.length (pre.map (Value.int .i64)) ∧ True) ∧ Below w.heap.size w W)
    (fun _ _ _ => False)
    (OwnFrom.and (Own.from (holdsRow_own w.heap.size w.heap.size 57 3 1 (fun pre : List Int => pre.length) (fun pre : List Int => pre.map (Value.int .i64)) (fun (pre : List Int) v => True)) _) (ownFrom_below (Nat.le_refl _) (by simp)))
    (fun _ _ _ _ _ hs _ _ => hs)
    ⟨⟨_, bO, World.ownsRow_nil _ _ _ _, trivial⟩, hB0⟩
    (fun x => { tmps := #[.slice none 0 0, .func (.func 132) #[] #[.pointer (some ⟨Bs, 0, none⟩)], .pointer (some ⟨w.heap.size, 0, none⟩), undef, .slice none 0 0, .int .i64 x, .func (.func 132) #[] #[.pointer (some ⟨Bs, 0, none⟩)], .int .i64 x, undef, undef, undef, undef, undef], defers := [] }) ?assign ?body ?done ?stop
  case assign =>
    intro l x W K hK
    gi_wp2
    exact hK
  case body =>
    rintro l pre x W ⟨⟨v, hv, hrow, _⟩, hB⟩ hlt
    have hc := hv.cell
    gi_wp2_with (gi_at_builtin; refine wpListIn_append_own _ rfl _ _ 57 rfl w.heap.size 3 i0 (.int .i64 0) 1 8 Tryz.underlying57 hi hz0 hz1 hz2 rfl (by decide) _ _ _ rfl (hrow.alloc _) ⟨W.heap.size, 0, none⟩ 1 1 [.int .i64 x] rfl rfl (cell_one_new _ _ _) (by simp [Value.oneCell']) (by simp only [maxLen]; omega) (by omega) (by have := hB.size; simp; omega) ?_; intro v' w1 hown' hgrow _; obtain ⟨g', cap', rfl⟩ := ownsRow_succ hown'; obtain ⟨hv1, hv2, hr2, hk2, hb2⟩ := hv.appended (by decide) hrow hB.size (Nat.le_refl _) hown' hgrow; have hc1 := hv1.cell; have hf1 := hv1.frozen)
    exact ⟨hk2.from _, hb2, ⟨_, hv2, by simpa using hr2, trivial⟩, hB.trans hb2⟩
  case done =>
    rintro D ys W hD rfl ⟨⟨v, hv, hrow, _⟩, hB⟩ hK
    have hc := hv.cell
    gi_wp2
    refine ⟨by simp, .inl ⟨_, _, rfl, run_takeDeferred hK, ?_⟩⟩
    exact ⟨_, results_tmp rfl _ _ _, v, rfl, ownsRow_putObj hrow _ hK rfl, hB.trans (belowK_b (w := w) (Nat.le_refl _) W D _ _ (by simp at hD; omega) hK rfl rfl)⟩
  case stop =>
    rintro D c pre W _ _ h _
    exact h.elim
end Go.Proofs.YtcjnikkmjhagmaaGreatDoor
namespace Go.Proofs.YtcjnikkmjhagmaaGreatDoor
open Go.RowKit Go.Shelf Go.Lib Go.Sort
set_option linter.unusedVariables false
set_option linter.unusedSimpArgs false
def sortR_ren : Go.Shelf.Ren := ⟨fun | 189 => 131 | 125 => 141 | 257 => 140 | 128 => 156 | 129 => 143 | 294 => 147 | 295 => 148 | 296 => 149 | 297 => 150 | 298 => 151 | 299 => 152 | 216 => 153 | 300 => 154 | 301 => 155 | 328 => 159 | 329 => 160 | 330 => 161 | 331 => 162 | 332 => 163 | 215 => 164 | 343 => 165 | n => n, fun | 28 => 57 | 3 => 3 | 46 => 172 | 0 => 0 | 51 => 175 | 53 => 164 | 4 => 4 | 183 => 179 | 182 => 178 | 131 => 73 | 5 => 5 | 9 => 9 | 218 => 186 | 222 => 190 | 228 => 194 | 229 => 118 | n => n, fun | n => n⟩
theorem sortR : Go.Proofs.Lays.n189 Tryz.prog sortR_ren := {
  mixed := by kernel_rfl
  f125 := Tryz.func141.trans (congrArg some (by kernel_rfl))
  f128 := Tryz.func156.trans (congrArg some (by kernel_rfl))
  f129 := Tryz.func143.trans (congrArg some (by kernel_rfl))
  f189 := Tryz.func131.trans (congrArg some (by kernel_rfl))
  f215 := Tryz.func164.trans (congrArg some (by kernel_rfl))
  f216 := Tryz.func153.trans (congrArg some (by kernel_rfl))
  f257 := Tryz.func140.trans (congrArg some (by kernel_rfl))
  f294 := Tryz.func147.trans (congrArg some (by kernel_rfl))
  f295 := Tryz.func148.trans (congrArg some (by kernel_rfl))
  f296 := Tryz.func149.trans (congrArg some (by kernel_rfl))
  f297 := Tryz.func150.trans (congrArg some (by kernel_rfl))
  f298 := Tryz.func151.trans (congrArg some (by kernel_rfl))
  f299 := Tryz.func152.trans (congrArg some (by kernel_rfl))
  f300 := Tryz.func154.trans (congrArg some (by kernel_rfl))
  f301 := Tryz.func155.trans (congrArg some (by kernel_rfl))
  f328 := Tryz.func159.trans (congrArg some (by kernel_rfl))
  f329 := Tryz.func160.trans (congrArg some (by kernel_rfl))
  f330 := Tryz.func161.trans (congrArg some (by kernel_rfl))
  f331 := Tryz.func162.trans (congrArg some (by kernel_rfl))
  f332 := Tryz.func163.trans (congrArg some (by kernel_rfl))
  f343 := Tryz.func165.trans (congrArg some (by kernel_rfl))
  t0 := Tryz.underlying0
  a0 := Tryz.isAgg0
  z0 := Tryz.sizeOf0
  v0 := Tryz.zeroValue0
  t3 := Tryz.underlying3
  a3 := Tryz.isAgg3
  z3 := Tryz.sizeOf3
  v3 := Tryz.zeroValue3
  t4 := Tryz.underlying4
  a4 := Tryz.isAgg4
  z4 := Tryz.sizeOf4
  v4 := Tryz.zeroValue4
  t5 := Tryz.underlying5
  a5 := Tryz.isAgg5
  z5 := Tryz.sizeOf5
  v5 := Tryz.zeroValue5
  t9 := Tryz.underlying9
  a9 := Tryz.isAgg9
  z9 := Tryz.sizeOf9
  v9 := Tryz.zeroValue9
  t28 := Tryz.underlying57
  a28 := Tryz.isAgg57
  z28 := Tryz.sizeOf57
  v28 := Tryz.zeroValue57
  t46 := Tryz.underlying172
  a46 := Tryz.isAgg172
  z46 := Tryz.sizeOf172
  v46 := Tryz.zeroValue172
  t51 := Tryz.underlying175
  a51 := Tryz.isAgg175
  z51 := Tryz.sizeOf175
  v51 := Tryz.zeroValue175
  t53 := Tryz.underlying164
  a53 := Tryz.isAgg164
  z53 := Tryz.sizeOf164
  v53 := Tryz.zeroValue164
  t131 := Tryz.underlying73
  a131 := Tryz.isAgg73
  z131 := Tryz.sizeOf73
  v131 := Tryz.zeroValue73
  t182 := Tryz.underlying178
  a182 := Tryz.isAgg178
  z182 := Tryz.sizeOf178
  v182 := Tryz.zeroValue178
  t183 := Tryz.underlying179
  a183 := Tryz.isAgg179
  z183 := Tryz.sizeOf179
  v183 := Tryz.zeroValue179
  t218 := Tryz.underlying186
  a218 := Tryz.isAgg186
  z218 := Tryz.sizeOf186
  v218 := Tryz.zeroValue186
  t222 := Tryz.underlying190
  a222 := Tryz.isAgg190
  z222 := Tryz.sizeOf190
  v222 := Tryz.zeroValue190
  t228 := Tryz.underlying194
  a228 := Tryz.isAgg194
  z228 := Tryz.sizeOf194
  v228 := Tryz.zeroValue194
  t229 := Tryz.underlying118
  a229 := Tryz.isAgg118
  z229 := Tryz.sizeOf118
  v229 := Tryz.zeroValue118 }
def rsort (xs : List Int) : List Int := xs.mergeSort fun x y => decide (x ≤ y)
theorem rsort_len (xs : List Int) : (rsort xs).length = xs.length := List.length_mergeSort xs
theorem rsort_nil : rsort [] = [] := List.length_eq_zero_iff.1 (rsort_len [])
abbrev srtW (w : World) (g m : Nat) (d : Array Int) (os : Array Obj) : World := grow (putRow (Value.int .i64) (Sort.ahead w m) g 0 d) os
theorem srtW_at {w : World} {g m : Nat} {d : Array Int} {os : Array Obj} {cur : Array Value} {e : TypeId} {fr : Nat × Nat} (h : w.heap[g]? = some (.cells cur e fr)) :
    (srtW w g m d os).heap[g]? = some (.cells (putCells (Value.int .i64) 0 d cur) e fr) := by
  have hlt := (Array.getElem?_eq_some_iff.1 h).1
  show (w.heap.modify g (onCells (putCells (Value.int .i64) 0 d)) ++ os)[g]? = _
  rw [Array.getElem?_append, if_pos (by rw [Array.size_modify]; exact hlt), Array.getElem?_modify, if_pos rfl, h]
  rfl
theorem srtW_ne {w : World} {g m k : Nat} {d : Array Int} {os : Array Obj} (hk : k ≠ g) (hlt : k < w.heap.size) : (srtW w g m d os).heap[k]? = w.heap[k]? := by
  show (w.heap.modify g (onCells (putCells (Value.int .i64) 0 d)) ++ os)[k]? = _
  rw [Array.getElem?_append, if_pos (by rw [Array.size_modify]; exact hlt), Array.getElem?_modify, if_neg (Ne.symm hk)]
theorem srtW_below {B : Nat} {W w : World} {g m : Nat} {d : Array Int} {os : Array Obj} (h : Below B W w) (hB : B ≤ w.heap.size) (hg : B ≤ g) : Below B W (srtW w g m d os) :=
  ⟨h.os, h.tape, h.output, Nat.le_trans h.size (by show _ ≤ (w.heap.modify g _ ++ os).size; rw [Array.size_append, Array.size_modify]; omega), fun k hk => by
    rw [srtW_ne (by omega) (by omega)]; exact h.block k hk⟩
theorem srtW_own {w : World} {B g n cap m : Nat} {e : TypeId} {xs : List Value} {d : Array Int} {os : Array Obj} (h : w.ownsRow B e 1 (.slice (some ⟨g, 0, none⟩) n cap) n xs) (hd : d.size = n) :
    (srtW w g m d os).ownsRow B e 1 (.slice (some ⟨g, 0, none⟩) n cap) n (d.toList.map (Value.int .i64)) := by
  obtain ⟨hl, ⟨h1, _⟩ | ⟨g', cap', cur, h1, h2, h3, h4, h5, h6, h7⟩⟩ := h
  · cases h1
  · simp only [Value.slice.injEq, Option.some.injEq, Addr.mk.injEq, and_true, true_and] at h1
    obtain ⟨rfl, rfl⟩ := h1
    refine ⟨by simp [hd], Or.inr ⟨g, cap, putCells (Value.int .i64) 0 d cur, rfl, h2, srtW_at h3, h4, h5, by unfold putCells; rw [Array.size_mapIdx]; exact h6, ?_⟩⟩
    apply List.ext_getElem?
    intro i
    rw [List.getElem?_take, Nat.mul_one]
    by_cases hi : i < n
    · rw [if_pos hi]
      have hi2 : i < cur.size := by omega
      have hi3 : i < d.size := by omega
      simp [putCells, hi2, hi3, getElem!_pos]
    · rw [if_neg hi, List.getElem?_eq_none (by simp [hd]; omega)]
theorem srtW_holds {w : World} {B g n cap : Nat} {e : TypeId} {xs : List Int} (h : w.ownsRow B e 1 (.slice (some ⟨g, 0, none⟩) n cap) n (xs.map (Value.int .i64))) : Holds (Value.int .i64) w g 0 xs.toArray ∧ g < w.heap.size ∧ xs.length = n := by
  obtain ⟨hl, ⟨h1, _⟩ | ⟨g', cap', cur, h1, h2, h3, h4, h5, h6, h7⟩⟩ := h
  · cases h1
  · simp only [Value.slice.injEq, Option.some.injEq, Addr.mk.injEq, and_true, true_and] at h1
    obtain ⟨rfl, rfl⟩ := h1
    rw [List.length_map, Nat.mul_one] at hl
    refine ⟨fun j hj => ?_, lt_of_block h3, hl⟩
    have hj' : j < xs.length := by simpa using hj
    rw [Nat.zero_add]
    refine ⟨?_, ?_⟩
    · rw [cell_of_row w g j cur e _ h3]
      have h8 : (cur.toList.take (n * 1))[j]? = (xs.map (Value.int .i64))[j]? := by rw [h7]
      rw [List.getElem?_take, if_pos (by omega)] at h8
      rw [Array.getElem?_toList] at h8
      rw [h8]
      simp [hj', getElem!_pos]
    · simp [World.frozen?, h3]
theorem own_formI {w : World} {B : Nat} {e : TypeId} {v : Value} {n : Nat} {xs : List Value} (h : w.ownsRow B e 1 v n xs) :
    (v = .slice none 0 0 ∧ n = 0) ∨ ∃ g cap, v = .slice (some ⟨g, 0, none⟩) n cap ∧ B ≤ g := by
  obtain ⟨hl, h1 | ⟨g, cap, cur, h1, h2, h3, h4, h5, h6, h7⟩⟩ := h
  · exact Or.inl h1
  · exact Or.inr ⟨g, cap, h1, h2⟩
attribute [local go_sem] Oper.semAt_some
def SrtPost (zs : List Int) (w : World) (e : Ending) (w' : World) : Prop := ∃ v, e = .returned v ∧ w'.ownsRow w.heap.size 3 1 v zs.length (zs.map (Value.int .i64)) ∧ Below w.heap.size w w'
theorem rf_collect (Bs : Nat) (a : Option Addr) (len cap : Nat) (zs : List Int) (hlen : len ≤ 1000000) (w : World) (hBs : Bs < w.heap.size) (hc : w.cell? ⟨Bs, 0, none⟩ = some (.slice a len cap)) (hI : IntRow w a len zs) :
    Calls Tryz.prog 130 #[.func (.func 132) #[] #[.pointer (some ⟨Bs, 0, none⟩)]] w (SrtPost zs w) := by
  go_enter Tryz.func130, Tryz.ntmps130
  go_wp2_with (go_at_call 139; refine (rf_append Bs a len cap zs hlen w hBs hc hI).mono ?_; rintro e w' ⟨v, rfl, hrow, hb⟩)
  go_returns
  exact ⟨v, rfl, hrow, hb⟩
theorem rf_sorted (Bs : Nat) (a : Option Addr) (len cap : Nat) (zs : List Int) (hlen : len ≤ 1000000) (w : World) (hBs : Bs < w.heap.size) (hc : w.cell? ⟨Bs, 0, none⟩ = some (.slice a len cap)) (hI : IntRow w a len zs) :
    Calls Tryz.prog 118 #[.func (.func 132) #[] #[.pointer (some ⟨Bs, 0, none⟩)]] w (SrtPost (rsort zs) w) := by
  have hl := hI.1
  subst hl
  go_enter Tryz.func118, Tryz.ntmps118
  go_wp2_with (first | (go_at_call 130; refine (rf_collect Bs a _ cap zs hlen w hBs hc hI).mono ?_; rintro e w' ⟨v, rfl, hrow, hb⟩) | fail)
  rcases own_formI hrow with ⟨rfl, hz⟩ | ⟨g, cap, rfl, hbase⟩
  · obtain rfl : zs = [] := List.eq_nil_of_length_eq_zero hz
    go_wp2_with (go_at_call 131; refine (Any.slices_Sort_int_none sortR none 0 w').mono ?_; rintro e w' ⟨rfl, rfl⟩)
    go_returns
    exact ⟨.slice none 0 0, rfl, by rw [rsort_nil]; exact hrow, hb⟩
  · obtain ⟨hH, hgl, _⟩ := srtW_holds hrow
    go_wp2_with (go_at_call 131; refine (Any.slices_Sort_int sortR g 0 cap zs w' hH hgl (by omega)).mono ?_; rintro e w' ⟨rfl, m, os, rfl⟩)
    go_returns
    refine ⟨_, rfl, ?_, srtW_below hb hb.size hbase⟩
    have h1 := srtW_own (m := m) (os := os) (d := (rsort zs).toArray) hrow (by simp [rsort_len])
    rw [rsort_len]
    show World.ownsRow (srtW w' g m (rsort zs).toArray os) _ _ _ _ _ _
    exact h1
def mAll (n : Int) (xs : List Int) : Bool := decide ((∀ k, k < xs.length → (rsort xs).getD k 0 = k) ∧ (xs.length : Int) = n)
theorem mAll_yes {n : Int} {xs : List Int} (h1 : ∀ k, k < xs.length → (rsort xs).getD k 0 = k) (h2 : (xs.length : Int) = n) : mAll n xs = true := decide_eq_true ⟨h1, h2⟩
theorem mAll_no {n : Int} {xs : List Int} {k : Nat} (hk : k < xs.length) (h : (rsort xs).getD k 0 ≠ k) : mAll n xs = false := decide_eq_false fun h1 => h (h1.1 k hk)
theorem mAll_len {n : Int} {xs : List Int} (h : (xs.length : Int) ≠ n) : mAll n xs = false := decide_eq_false fun h1 => h h1.2
theorem rf_values (a : Option Addr) (len cap : Nat) (w : World) : Calls Tryz.prog 119 #[.slice a len cap] w fun e w' => e = .returned (.func (.func 132) #[] #[.pointer (some ⟨w.heap.size, 0, none⟩)]) ∧ w' = w.alloc (.cells #[.slice a len cap] 57) := by
  go_enter Tryz.func119, Tryz.ntmps119
  go_wp2_with fail
  go_returns
  exact ⟨rfl, rfl⟩
theorem own_ints {w : World} {B : Nat} {v : Value} {n : Nat} {xs : List Int} (h : w.ownsRow B 3 1 v n (xs.map (Value.int .i64))) (hn : n = xs.length) : ∃ a cap, v = .slice a n cap ∧ IntRow w a n xs := by
  subst hn
  obtain ⟨hl, ⟨h1, h0⟩ | ⟨g, cap, cur, h1, h2, h3, h4, h5, h6, h7⟩⟩ := h
  · rw [h0]; exact ⟨none, 0, h1, h0, by simp [maxLen], fun hp => by omega⟩
  · refine ⟨_, cap, h1, rfl, by omega, fun hp => ⟨g, 0, rfl, fun i hi => ?_⟩⟩
    rw [Nat.zero_add, cell_of_row w g i cur _ _ h3]
    have h8 : (cur.toList.take (xs.length * 1))[i]? = (xs.map (Value.int .i64))[i]? := by rw [h7]
    rw [List.getElem?_take, if_pos (by omega)] at h8
    rw [Array.getElem?_toList] at h8
    rw [h8]
    simp [hi, List.getD]
set_option maxRecDepth 100000 in
set_option maxHeartbeats 2000000 in
theorem rf_all (n : Int) (a : Option Addr) (len cap : Nat) (zs : List Int) (hlen : len ≤ 1000000) (w : World) (hI : IntRow w a len zs) :
    Calls Tryz.prog 97 #[.int .i64 n, .slice a len cap] w fun e w' => e = .returned (.bool (mAll n zs)) ∧ Below w.heap.size w w' := by
  have hl := hI.1
  have hb0 : Below w.heap.size w (w.alloc (.cells #[.slice a len cap] 57)) := below_alloc (Below.refl _ _) _
  refine (callsIn_wide (n := 5)).1 ?_
  refine callsIn_of_wp Tryz.func97 rfl trivial ?_ rfl
  simp only [Tryz.ntmps97, List.size_toArray, List.length_cons, List.length_nil, Nat.reduceAdd, Nat.reduceSub, Array.replicate_succ, Array.replicate_zero, List.push_toArray, List.append_toArray, List.nil_append, List.cons_append]
  gi_wp2_with (first | (refine ⟨trivial, ?_⟩; gi_at_call 119; refine (callsIn_wide.2 (rf_values a len cap w)).mono ?_; rintro e w' ⟨rfl, rfl⟩) | (refine ⟨trivial, ?_⟩; gi_at_call 118; refine (callsIn_wide.2 (rf_sorted w.heap.size a len cap zs hlen _ (by simp) (Blk.made w #[.slice a len cap] 57 |>.cell 0) (hI.later hb0))).mono ?_; rintro e w1 ⟨v, rfl, hrow, hb⟩; obtain ⟨b, cp, rfl, hir⟩ := own_ints hrow rfl))
  obtain ⟨f, hf⟩ : ∃ f : Nat → Int, ∀ j, (rsort zs).getD j 0 = f j := ⟨_, fun _ => rfl⟩
  have hn := rsort_len zs
  have HNO := Lib.hid (fun (k : Nat) (hk : k < zs.length) (h : f k ≠ k) => mAll_no (n := n) hk (by rw [hf]; exact h))
  have HYES := Lib.hid (fun (h : ∀ k, k < zs.length → f k = k) (h2 : (zs.length : Int) = n) => mAll_yes (n := n) (fun k hk => (hf k).trans (h k hk)) h2)
  have HB := Lib.hid (below_step hb0 hb)
  have hcs' : 0 < len → ∃ gb goff, b = some ⟨gb, goff, none⟩ ∧ ∀ i, i < len → w1.cell? ⟨gb, goff + i, none⟩ = some (.int .i64 (f i)) := fun hp => by
    obtain ⟨gb, goff, rfl, hcs⟩ := hir.2.2 (by omega)
    exact ⟨gb, goff, rfl, fun i hi => by rw [hcs i (by omega), hf]⟩
  rw [hn, hl]
  clear hir hrow hb hb0 hI
  clear hf
  have HL := Lib.hid hl
  have HLN := Lib.hid (fun h : (zs.length : Int) ≠ n => mAll_len h)
  clear hn hl
  gi_loopw [6, 7, 13] (fun x y i wr => ∃ k : Nat, k ≤ len ∧ i = .int .i64 k ∧ (∀ j : Nat, j < k → f j = j) ∧ w1 = wr) (fun _ _ i _ => len - (intOf i).toNat)
  case atStart => exact ⟨0, Nat.zero_le _, rfl, fun j hj => by omega, rfl⟩
  case round =>
    obtain ⟨k, hk, rfl, hj, rfl⟩ := hrel
    by_cases hlt : k < len
    · have d1 : decide ((k : Int) < (len : Int)) = true := by simp; omega
      have d2 : decide (k < len) = true := decide_eq_true hlt
      obtain ⟨gb, goff, rfl, hcs⟩ := hcs' (by omega)
      have hcell := hcs k hlt
      have HJ := Lib.hid hj
      clear hcs hcs' hj
      by_cases hx : f k = k
      · rw [hx] at hcell
        have HX := Lib.hid hx
        clear hx
        gi_wp2
        go_roundw
        case rel =>
          refine ⟨k + 1, by omega, by simp, fun j hj' => ?_, trivial⟩
          rcases Nat.lt_or_ge j k with h | h
          · exact HJ.out j h
          · obtain rfl : j = k := by omega
            exact HX.out
        case measure => simp [intOf]; omega
      · have hx4 : ((k : Int) != f k) = true := by simp; exact fun e => hx e.symm
        have hx3 : ((k : Int) == f k) = false := by simp; exact fun e => hx e.symm
        have HX := Lib.hid hx
        clear hx
        gi_wp2
        go_ret
        exact ⟨by rw [HNO.out k (by have := HL.out; omega) HX.out]; rfl, HB.out⟩
    · obtain rfl : k = len := by omega
      have HJ := Lib.hid hj
      clear hj hcs'
      by_cases hn : (k : Int) = n
      · subst hn
        gi_wp2
        go_ret
        exact ⟨by rw [HYES.out (fun j h => HJ.out j (by have := HL.out; omega)) (by have := HL.out; omega)]; simp, HB.out⟩
      · have hn3 : ((k : Int) == n) = false := by simpa using hn
        have HN := Lib.hid hn
        clear hn
        gi_wp2
        go_ret
        exact ⟨by rw [HLN.out (by have := HL.out; have := HN.out; omega)]; simp [hn3], HB.out⟩
end Go.Proofs.YtcjnikkmjhagmaaGreatDoor
namespace Go.Proofs.YtcjnikkmjhagmaaGreatDoor
open Go.RowKit
theorem pf_mAll (n : Int) (xs : List Int) (hx : xs.length ≤ 1000000) : PF Tryz.prog 97 [lt (.int .i64 n), .iv (iInts xs)] fun r H' => r = lt (.bool (mAll n xs)) ∧ H' = [] :=
  PF_of_walk ⟨_, Tryz.func97, by kernel_rfl, rfl⟩ fun G w vs hi hr => by
    obtain ⟨v1, us, rfl, r1, hr⟩ := hr.uncons
    obtain ⟨v2, us, rfl, r2, hr⟩ := hr.uncons
    rw [hr.unnil]
    have e1 := r1.lit_inv; subst e1
    cases r2 with
    | iv _ _ r2 =>
      obtain ⟨a, cap, rfl, _, _, hrow⟩ := ints_row hi.fz (by simp only [maxLen]; omega) r2
      exact rf_all n a xs.length cap xs hx w hrow
end Go.Proofs.YtcjnikkmjhagmaaGreatDoor
