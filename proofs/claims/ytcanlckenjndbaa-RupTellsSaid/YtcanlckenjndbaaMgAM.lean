import Derived.Test.YtcanlckenjndbaaMgAJ
import Derived.Test.YtcanlckenjndbaaMgAK
import Derived.Test.YtcanlckenjndbaaMgAL
import Derived.BigGuardPart
import Derived.Handy
import Derived.Deep.QuietTactic
import Derived.BigQuiet
import Derived.Deep.RegionHeld3
import Derived.Laws.EntriesVeiled
namespace Go.Proofs.Ytcanlckenjndbaa
open Go.RowKit
set_option linter.unusedVariables false
set_option linter.unusedSimpArgs false
theorem neg_lit {x : Int} (h : lvar x ≠ 0) : wrap64 (-x) = -x := by have := lvar_range h; exact IntWalk.wrap64_in _ ⟨by omega, by omega⟩
set_option maxRecDepth 100000 in
theorem asg_Value (a : Option Addr) (len cap : Nat) (xs : List Int) (x : Int) (w : World) (hr : IntRow w a len xs) : Calls Try.prog 122 #[.slice a len cap, .int .i64 x] w fun e w' => e = .returned (.int .i64 (aVal xs x)) ∧ w = w' := by
  rcases aVal_cases xs x with ⟨h, h2⟩ | ⟨h, h2⟩
  · have d1 : (lvar x == 0) = true := by simpa using h
    have H2 := Lib.hid h2; clear h h2
    go_enter Try.func122, Try.ntmps122
    go_wp2_with (go_at_call 57; refine (lit_Var _ _).mono ?_; rintro e w' ⟨rfl, rfl⟩)
    go_ret
    exact ⟨ret_int H2.out.symm, rfl⟩
  · have d1 : (lvar x == 0) = false := by simpa using h
    have e1 := neg_lit h
    have hx := lvar_range h
    clear h
    rcases h2 with ⟨h1, h2⟩ | ⟨h1, h3, h2⟩ | ⟨h1, h3, h2⟩
    all_goals
      have H2 := Lib.hid h2; clear h2
      go_enter Try.func122, Try.ntmps122
      go_wp2_with (first | (go_at_call 57; refine (lit_Var _ _).mono ?_; rintro e w' ⟨rfl, rfl⟩) | (go_at_call 110; refine (sl_Contains _ _ _ _ _ _ hr).mono ?_; rintro e w' ⟨rfl, rfl⟩; first | rw [h1] | rw [h3]))
      go_ret
      exact ⟨ret_int H2.out.symm, rfl⟩
set_option maxRecDepth 100000 in
theorem ref_Value03 (a : Option Addr) (len cap : Nat) (xs : List Int) (x : Int) (w : World) (hr : IntRow w a len xs) : Calls Try.prog 102 #[.slice a len cap, .int .i64 x] w fun e w' => e = .returned (.int .i64 (aVal xs x)) ∧ w = w' := by
  rcases aVal_cases xs x with ⟨h, h2⟩ | ⟨h, h2⟩
  · have d1 : decide (lindex x < 0) = true := by unfold lindex; rw [if_pos h]; rfl
    have H2 := Lib.hid h2; clear h h2
    go_enter Try.func102, Try.ntmps102
    go_wp2_with (go_at_call 36; refine (ref_Index _ _).mono ?_; rintro e w' ⟨rfl, rfl⟩)
    go_ret
    exact ⟨ret_int H2.out.symm, rfl⟩
  · have d1 : decide (lindex x < 0) = false := by
      have hb := lvar_bd x
      unfold lindex; rw [if_neg h]
      refine decide_eq_false ?_
      split <;> omega
    have e1 := neg_lit h
    have hx := lvar_range h
    clear h
    rcases h2 with ⟨h1, h2⟩ | ⟨h1, h3, h2⟩ | ⟨h1, h3, h2⟩
    all_goals
      have H2 := Lib.hid h2; clear h2
      go_enter Try.func102, Try.ntmps102
      go_wp2_with (first | (go_at_call 36; refine (ref_Index _ _).mono ?_; rintro e w' ⟨rfl, rfl⟩) | (go_at_call 37; refine (ref_Has _ _ _ _ _ _ hr).mono ?_; rintro e w' ⟨rfl, rfl⟩; first | rw [h1] | rw [h3]))
      go_ret
      exact ⟨ret_int H2.out.symm, rfl⟩
theorem at_mem {xs : List Int} {k len : Nat} (h : xs.length = len) (hk : k < len) : xs.getD k 0 ∈ xs := by
  rw [List.getD_eq_getElem?_getD, List.getElem?_eq_getElem (by omega)]; simp
theorem all_at {xs : List Int} {len : Nat} {p : Int → Prop} (h : xs.length = len) (hp : ∀ i, i < len → p (xs.getD i 0)) : ∀ x ∈ xs, p x := fun x hx => by
  obtain ⟨i, hi, rfl⟩ := List.mem_iff_getElem.1 hx
  have := hp i (by omega)
  simpa [List.getD, hi] using this
end Go.Proofs.Ytcanlckenjndbaa
namespace Go.Proofs.Ytcanlckenjndbaa
open Go.RowKit
set_option linter.unusedVariables false
set_option linter.unusedSimpArgs false
set_option maxRecDepth 100000 in
theorem asg_values1 (b : Nat) (a : Option Addr) (len cap : Nat) (xs : List Int) (x : Int) (w : World) (hb : w.cell? ⟨b, 0, none⟩ = some (.slice a len cap)) (hr : IntRow w a len xs) :
    Calls Try.prog 121 #[.int .i64 x, .pointer (some ⟨b, 0, none⟩)] w fun e w' => e = .returned (.int .i64 (aVal xs x)) ∧ Below w.heap.size w w' := by
  go_enter Try.func121, Try.ntmps121
  go_wp2_with (go_at_call 122; refine (asg_Value _ _ _ _ _ _ hr).mono ?_; rintro e w' ⟨rfl, rfl⟩)
  go_ret
  exact ⟨rfl, Below.refl _ _⟩
set_option maxRecDepth 100000 in
set_option maxHeartbeats 1000000 in
theorem asg_values2 (b m n : Nat) (xs : List Int) (x : Int) (w : World) (hb : w.cell? ⟨b, 0, none⟩ = some (.map (some m))) (hM : IMap w m n (sF xs)) (hx1 : -9223372036854775808 ≤ x) (hx2 : x ≤ 9223372036854775807) :
    Calls Try.prog 123 #[.int .i64 x, .pointer (some ⟨b, 0, none⟩)] w fun e w' => e = .returned (.int .i64 (aVal xs x)) ∧ Below w.heap.size w w' := by
  rcases aVal_cases xs x with ⟨h, h2⟩ | ⟨h, h2⟩
  · have d1 : (lvar x == 0) = true := by simpa using h
    have H2 := Lib.hid h2; clear h h2
    go_enter Try.func123, Try.ntmps123
    go_wp2_with (go_at_call 57; refine (lit_Var _ _).mono ?_; rintro e w' ⟨rfl, rfl⟩)
    go_ret
    exact ⟨ret_int H2.out.symm, Below.refl _ _⟩
  · have d1 : (lvar x == 0) = false := by simpa using h
    have e1 := neg_lit h
    have hx := lvar_range h
    have hlt := World.block_lt_of_cell? w _ hb
    dsimp only at hlt
    have HG1 := Lib.hid (sF_get xs x); have HG2 := Lib.hid (sF_get xs (-x))
    have HM := Lib.hid hM
    clear h hM
    rcases h2 with ⟨h1, h2⟩ | ⟨h1, h3, h2⟩ | ⟨h1, h3, h2⟩
    all_goals
      have H2 := Lib.hid h2; clear h2
      unfold lhas at *
      have HH1 := Lib.hid h1
      have HH3 : Hid (True) := Lib.hid trivial
      try have HH3 := Lib.hid h3
      clear h1
      try clear h3
      go_enter Try.func123, Try.ntmps123
      go_wp2_with (first | (go_at_call 57; refine (lit_Var _ _).mono ?_; rintro e w' ⟨rfl, rfl⟩) | (at_lookup; refine wpList_mlook rfl _ _ 137 rfl 138 Try.underlying137 _ (set_zero _) set_unit m n (sF xs) rfl (HM.out.later (by (repeat (first | (with_reducible exact Below.refl _ _) | (with_reducible assumption) | (with_reducible refine below_alloc ?_ _) | (with_reducible refine below_drew ?_) | (with_reducible refine below_drewN ?_ _) | (with_reducible refine below_step ?_ (by with_reducible assumption)))))) x rfl (by omega) (by omega) (.agg #[]) _ HG1.out.1 HG1.out.2 ?_; rw [HH1.out]) | (at_lookup; refine wpList_mlook rfl _ _ 137 rfl 138 Try.underlying137 _ (set_zero _) set_unit m n (sF xs) rfl (HM.out.later (by (repeat (first | (with_reducible exact Below.refl _ _) | (with_reducible assumption) | (with_reducible refine below_alloc ?_ _) | (with_reducible refine below_drew ?_) | (with_reducible refine below_drewN ?_ _) | (with_reducible refine below_step ?_ (by with_reducible assumption)))))) (-x) rfl (by omega) (by omega) (.agg #[]) _ HG2.out.1 HG2.out.2 ?_; rw [HH3.out]))
      go_ret
      exact ⟨ret_int H2.out.symm, by (repeat (first | (with_reducible exact Below.refl _ _) | (with_reducible assumption) | (with_reducible refine below_alloc ?_ _) | (with_reducible refine below_drew ?_) | (with_reducible refine below_drewN ?_ _) | (with_reducible refine below_step ?_ (by with_reducible assumption))))⟩
def ValFn (B : Nat) (w : World) (f : Value) (a : Option Addr) (len cap : Nat) (xs : List Int) : Prop :=
  (∃ b, B ≤ b ∧ f = .func (.func 121) #[] #[.pointer (some ⟨b, 0, none⟩)] ∧ w.cell? ⟨b, 0, none⟩ = some (.slice a len cap)) ∨
  (∃ b m n, B ≤ b ∧ B ≤ m ∧ f = .func (.func 123) #[] #[.pointer (some ⟨b, 0, none⟩)] ∧ w.cell? ⟨b, 0, none⟩ = some (.map (some m)) ∧ IMap w m n (sF xs))
def OneKeep (w w' : World) (b : Nat) : Prop := w.heap.size ≤ w'.heap.size ∧ (∀ k, k < w.heap.size → k ≠ b → w'.heap[k]? = w.heap[k]?) ∧ ∀ W : World, Below W.heap.size W w → W.heap.size ≤ b → Below W.heap.size W w'
theorem OneKeep.of_below {w w' : World} {b : Nat} (h : Below w.heap.size w w') : OneKeep w w' b := ⟨h.size, fun k hk _ => h.block k hk, fun W h1 h2 => below_step h1 h⟩
theorem OneKeep.set {w w1 : World} {b : Nat} (h : OneKeep w w1 b) (i : Nat) (u : Value) : OneKeep w (w1.setCell ⟨b, i, none⟩ u) b :=
  ⟨by simpa using h.1, fun k h1 h2 => (Below.heap_setCell w1 ⟨b, i, none⟩ u k h2).trans (h.2.1 k h1 h2), fun W h1 h2 => below_set (h.2.2 W h1 h2) h2 i u⟩
theorem OneKeep.cell {w w' : World} {b : Nat} (h : OneKeep w w' b) {p : Addr} {x : Value} (hp : w.cell? p = some x) (hne : p.block ≠ b) : w'.cell? p = some x :=
  (World.cell?_of_block (h.2.1 _ (World.block_lt_of_cell? _ _ hp) hne)).trans hp
theorem ValFn.step {B : Nat} {w w' : World} {f : Value} {a : Option Addr} {len cap : Nat} {xs : List Int} {b : Nat} (h : ValFn B w f a len cap xs) (hs : OneKeep w w' b) (hb : b < B) : ValFn B w' f a len cap xs := by
  rcases h with ⟨c, h1, h2, h3⟩ | ⟨c, m, n, h1, h2, h3, h4, h5⟩
  · exact Or.inl ⟨c, h1, h2, hs.cell h3 (by show c ≠ b; omega)⟩
  · exact Or.inr ⟨c, m, n, h1, h2, h3, hs.cell h4 (by show c ≠ b; omega), h5.block (hs.2.1 m h5.lt (by omega))⟩
theorem ValFn.later {B : Nat} {w w' : World} {f : Value} {a : Option Addr} {len cap : Nat} {xs : List Int} (h : ValFn B w f a len cap xs) (hb : Below w.heap.size w w') : ValFn B w' f a len cap xs := by
  rcases h with ⟨c, h1, h2, h3⟩ | ⟨c, m, n, h1, h2, h3, h4, h5⟩
  · exact Or.inl ⟨c, h1, h2, cell_later hb h3⟩
  · exact Or.inr ⟨c, m, n, h1, h2, h3, cell_later hb h4, h5.later hb⟩
theorem ValFn.mono {B B' : Nat} {w : World} {f : Value} {a : Option Addr} {len cap : Nat} {xs : List Int} (h : ValFn B w f a len cap xs) (hb : B' ≤ B) : ValFn B' w f a len cap xs := by
  rcases h with ⟨c, h1, h2, h3⟩ | ⟨c, m, n, h1, h2, h3, h4, h5⟩
  · exact Or.inl ⟨c, by omega, h2, h3⟩
  · exact Or.inr ⟨c, m, n, by omega, by omega, h3, h4, h5⟩
set_option maxRecDepth 100000 in
set_option maxHeartbeats 1000000 in
theorem asg_values (a : Option Addr) (len cap : Nat) (xs : List Int) (n : Nat) (w : World) (hr : IntRow w a len xs) (hlen : len ≤ 1000000) (hf : Fits' xs) :
    Calls Try.prog 101 #[.slice a len cap, .int .i64 n] w fun e w' => ∃ f, e = .returned f ∧ ValFn w.heap.size w' f a len cap xs ∧ Below w.heap.size w w' := by
  have hb1 : Below w.heap.size w (w.alloc (.cells #[.slice a len cap] 22)) := by (repeat (first | (with_reducible exact Below.refl _ _) | (with_reducible assumption) | (with_reducible refine below_alloc ?_ _) | (with_reducible refine below_drew ?_) | (with_reducible refine below_drewN ?_ _) | (with_reducible refine below_step ?_ (by with_reducible assumption))))
  have hs1 := Blk.made w #[.slice a len cap] 22
  have HR := Lib.hid (hr.later hb1)
  have HBM : Hid (∀ b off, a = some ⟨b, off, none⟩ → 0 < len → b < w.heap.size) := Lib.hid (fun b off ha hp => by
    obtain ⟨b', o', e', c'⟩ := hr.2.2 hp
    rw [ha] at e'; cases e'
    have := World.block_lt_of_cell? _ _ (c' 0 hp)
    exact this)
  have HL := Lib.hid hr.1
  have HF := Lib.hid hf
  generalize hw1 : w.alloc (.cells #[.slice a len cap] 22) = W1 at *
  have HW1 := Lib.hid hw1; clear hw1
  have q := hs1.cell 0
  simp at q
  have hlt1 := hs1.lt
  clear hs1 hr hf
  by_cases hc : n < 8 ∨ len < 8
  · have hd : (decide (n < 8) = true ∧ decide ((n : Int) < 8) = true) ∨ ((decide (n < 8) = false ∧ decide ((n : Int) < 8) = false) ∧ decide (len < 8) = true ∧ decide ((len : Int) < 8) = true) := by
      simp only [decide_eq_true_eq, decide_eq_false_iff_not]; omega
    clear hc
    rcases hd with ⟨d1, d2⟩ | ⟨⟨d1, d2⟩, d3, d4⟩
    all_goals
      go_enter Try.func101, Try.ntmps101
      go_wp2_with fail
      try rw [HW1.out]
      go_ret
      exact ⟨_, rfl, Or.inl ⟨w.heap.size, Nat.le_refl _, rfl, q⟩, hb1⟩
  · have d1 : decide (n < 8) = false := decide_eq_false (by omega)
    have d2 : decide ((n : Int) < 8) = false := decide_eq_false (by omega)
    have d3 : decide (len < 8) = false := decide_eq_false (by omega)
    have d4 : decide ((len : Int) < 8) = false := decide_eq_false (by omega)
    have hmm := @run_makeMap Try.prog
    clear hc
    go_enter Try.func101, Try.ntmps101
    go_wp2_with fail
    try rw [HW1.out]
    have HSZ : Hid (w.heap.size + 1 = W1.heap.size) := Lib.hid (by rw [← HW1.out]; simp)
    have hM0 : IMap ((W1.alloc (.map #[] 0)).alloc (.cells #[.map (some W1.heap.size)] 137)) W1.heap.size 0 (sF (xs.take 0)) := by
      rw [List.take_zero, sF_nil]; exact (IMap.made W1).later (below_alloc (Below.refl _ _) _)
    have hB0 : Below w.heap.size w ((W1.alloc (.map #[] 0)).alloc (.cells #[.map (some W1.heap.size)] 137)) := by (repeat (first | (with_reducible exact Below.refl _ _) | (with_reducible assumption) | (with_reducible refine below_alloc ?_ _) | (with_reducible refine below_drew ?_) | (with_reducible refine below_drewN ?_ _) | (with_reducible refine below_step ?_ (by with_reducible assumption))))
    have hc5 := Blk.made (W1.alloc (.map #[] 0)) #[.map (some W1.heap.size)] 137
    have hz5 : (W1.alloc (.map #[] 0)).heap.size = W1.heap.size + 1 := by simp
    rw [hz5] at hc5
    try rw [HSZ.out]
    clear hmm d1 d2 d3 d4 hz5
    have HR := Lib.hid (HR.out.later (below_alloc (below_alloc (Below.refl _ _) _) _) : IntRow ((W1.alloc (.map #[] 0)).alloc (.cells #[.map (some W1.heap.size)] 137)) a len xs)
    generalize (W1.alloc (.map #[] 0)).alloc (.cells #[.map (some W1.heap.size)] 137) = w2 at *
    have hq5 := hc5.cell 0
    simp at hq5
    have HM0 := Lib.hid hM0
    have hlm : w.heap.size < W1.heap.size := hlt1
    clear hM0 hc5
    go_loopw [7, 19] (fun _ i wr => ∃ k : Nat, k ≤ len ∧ i = .int .i64 k ∧ IMap wr W1.heap.size k (sF (xs.take k)) ∧ wr.cell? ⟨W1.heap.size + 1, 0, none⟩ = some (.map (some W1.heap.size)) ∧ IntRow wr a len xs ∧ Below w.heap.size w wr) (fun _ i _ => len - (intOf i).toNat)
    case atStart => exact ⟨0, Nat.zero_le _, rfl, HM0.out, hq5, HR.out, hB0⟩
    case round =>
      clear hq5 hB0 HR
      obtain ⟨k, hk, rfl, hM, hq, hra, hb⟩ := hrel
      have HM := Lib.hid hM
      have HRA := Lib.hid hra
      clear hM
      have t1 : (0 : Int) ≤ (k : Int) := by omega
      by_cases hlt : k < len
      · obtain ⟨b, off, rfl, hc⟩ := hra.2.2 (by omega)
        have hck := hc k hlt
        have t2 : (k : Int) < (len : Int) := by omega
        have HT : Hid (xs.take (k + 1) = xs.take k ++ [xs.getD k 0]) := Lib.hid (take_snoc xs k (by rw [HL.out]; exact hlt))
        obtain ⟨n1, n2⟩ := HF.out _ (at_mem HL.out hlt)
        have HPK : Hid (∀ w7, wr.grownBy w7 (some W1.heap.size) → w7.cell? ⟨W1.heap.size + 1, 0, none⟩ = some (.map (some W1.heap.size))) := Lib.hid (fun w7 hg => keep_grown hg hq (by show some (W1.heap.size + 1) ≠ _; simp))
        have HPR : Hid (∀ w7, wr.grownBy w7 (some W1.heap.size) → IntRow w7 (some ⟨b, off, none⟩) len xs) := Lib.hid (fun w7 hg => by
          refine ⟨hra.1, hra.2.1, fun hp => ?_⟩
          refine ⟨b, off, rfl, fun i hi => keep_grown hg (hc i hi) ?_⟩
          have h0 := World.block_lt_of_cell? _ _ (hc i hi)
          show some b ≠ some W1.heap.size
          have hbm := HBM.out b off rfl (by omega)
          simp; omega)
        clear hc hra
        generalize xs.getD k 0 = z at *
        go_wp2_with (at_mapUpdate; refine wpList_mput rfl _ _ _ 137 rfl 138 Try.underlying137 W1.heap.size k _ rfl HM.out (by unfold maxLen; omega) z rfl n1 n2 (.agg #[]) rfl set_unit ?_)
        intro w7 hM7 hgr
        have hb7 := bel_grown hb hgr (by omega)
        have hq7 := HPK.out w7 hgr
        have hr7 := HPR.out w7 hgr
        rw [sF_push, ← HT.out] at hM7
        have HM7 := Lib.hid hM7
        clear hM7 hgr
        go_wp2_with fail
        go_roundw
        case rel => exact ⟨k + 1, by omega, by go_num, HM7.out, hq7, hr7, hb7⟩
        case measure => simp [intOf]; omega
      · have hkn : k = len := by omega
        subst hkn
        have HT : Hid (xs.take k = xs) := Lib.hid (List.take_of_length_le (by rw [HL.out]; exact Nat.le_refl _))
        go_wp2_with fail
        go_ret
        exact ⟨_, rfl, Or.inr ⟨W1.heap.size + 1, W1.heap.size, k, by omega, by omega, rfl, hq, by have h9 := HM.out; rw [HT.out] at h9; exact h9⟩, hb⟩
end Go.Proofs.Ytcanlckenjndbaa
namespace Go.Proofs.Ytcanlckenjndbaa
open Go.RowKit
set_option linter.unusedVariables false
set_option linter.unusedSimpArgs false
def cntC (h g o : Nat) : Array Value := #[.int .i64 h, .int .i64 g, .int .i64 o]
theorem set0 (x y z u : Value) : (#[x, y, z].setIfInBounds 0 u) = #[u, y, z] := rfl
theorem set1 (x y z u : Value) : (#[x, y, z].setIfInBounds 1 u) = #[x, u, z] := rfl
theorem set2 (x y z u : Value) : (#[x, y, z].setIfInBounds 2 u) = #[x, y, u] := rfl
def cnt1 (l : List Int) (v x : Int) (n : Nat) : Nat := n + if aIs l v x = true then 1 else 0
set_option maxRecDepth 100000 in
set_option maxHeartbeats 2000000 in
theorem asg_Count1 (b5 b6 B : Nat) (f : Value) (a : Option Addr) (len cap : Nat) (xs : List Int) (x : Int) (h g o : Nat) (w : World) (hr : IntRow w a len xs) (hf : ValFn B w f a len cap xs) (hbB : b5 < B) (h56 : b5 ≠ b6)
    (hc : Blk w b5 (cntC h g o) 142) (h6 : w.cell? ⟨b6, 0, none⟩ = some f) (hx1 : -9223372036854775808 ≤ x) (hx2 : x ≤ 9223372036854775807) (hh : h ≤ 1000000 ∧ g ≤ 1000000 ∧ o ≤ 1000000) :
    Calls Try.prog 120 #[.int .i64 x, .pointer (some ⟨b6, 0, none⟩), .pointer (some ⟨b5, 0, none⟩)] w fun e w' => e = .returned (.tuple #[]) ∧ Blk w' b5 (cntC (cnt1 xs 1 x h) (cnt1 xs (-1) x g) (cnt1 xs 0 x o)) 142 ∧ OneKeep w w' b5 := by
  have hcall : ∃ N c, f = .func (.func N) #[] #[.pointer (some c)] ∧ (N = 121 ∨ N = 123) := by
    rcases hf with ⟨b, _, e, _⟩ | ⟨b, m, n, _, _, e, _⟩
    · exact ⟨_, _, e, Or.inl rfl⟩
    · exact ⟨_, _, e, Or.inr rfl⟩
  have HC := Lib.hid hc
  rcases hf with ⟨b, _, rfl, hbc⟩ | ⟨b, m, n, _, _, rfl, hbc, hM⟩
  · clear hcall hc
    go_enter Try.func120, Try.ntmps120
    go_wp2_with fail
    refine (asg_values1 b a len cap xs x _ hbc hr).mono ?_
    rintro e w2 ⟨rfl, hbv⟩
    have hb : Below w.heap.size w w2 := hbv
    have hc2 := HC.out.later hb
    have q0 := hc2.cell 0; have q1 := hc2.cell 1; have q2 := hc2.cell 2
    have f0 := hc2.free 0; have f1 := hc2.free 1; have f2 := hc2.free 2
    simp [cntC] at q0 q1 q2
    have HC2 := Lib.hid hc2
    have hok := OneKeep.of_below (b := b5) hb
    clear hc2
    rcases aVal_cases xs x with ⟨k, k2⟩ | ⟨k, ⟨_, k2⟩ | ⟨_, _, k2⟩ | ⟨_, _, k2⟩⟩
    all_goals
      have i1 : aIs xs 1 x = decide (lvar x ≠ 0 ∧ aVal xs x = 1) := rfl
      have i2 : aIs xs (-1) x = decide (lvar x ≠ 0 ∧ aVal xs x = -1) := rfl
      have i3 : aIs xs 0 x = decide (lvar x ≠ 0 ∧ aVal xs x = 0) := rfl
      rw [k2] at i1 i2 i3
      simp [k] at i1 i2 i3
      have I1 := Lib.hid i1; have I2 := Lib.hid i2; have I3 := Lib.hid i3
      obtain ⟨t0, d0, k0⟩ : ∃ t0, (lvar x != 0) = t0 ∧ (t0 = decide (lvar x ≠ 0)) := ⟨_, rfl, by by_cases h : lvar x = 0 <;> simp [h]⟩
      first
      | (have k9 : t0 = false := by (rw [k0, decide_eq_false]; simpa using k))
        subst k9
      | (have k9 : t0 = true := by (rw [k0, decide_eq_true]; exact k))
        subst k9
      clear k0
      rw [k2]
      clear i1 i2 i3 k k2
      go_wp2_with (go_at_call 57; refine (lit_Var _ _).mono ?_; rintro e w' ⟨rfl, rfl⟩)
      go_returns
      refine ⟨rfl, ?_, ?_⟩
      · have z := HC2.out
        unfold cnt1
        rw [I1.out, I2.out, I3.out]
        simp only [if_true, if_false, Bool.false_eq_true, Nat.add_zero]
        first
        | exact z
        | (have := z.set 0 (.int .i64 ((h : Int) + 1)); unfold cntC at this ⊢; rw [set0] at this; exact this)
        | (have := z.set 1 (.int .i64 ((g : Int) + 1)); unfold cntC at this ⊢; rw [set1] at this; exact this)
        | (have := z.set 2 (.int .i64 ((o : Int) + 1)); unfold cntC at this ⊢; rw [set2] at this; exact this)
      · first
        | exact hok
        | exact hok.set _ _
  · clear hcall hc
    go_enter Try.func120, Try.ntmps120
    go_wp2_with fail
    refine (asg_values2 b m n xs x _ hbc hM hx1 hx2).mono ?_
    rintro e w2 ⟨rfl, hbv⟩
    have hb : Below w.heap.size w w2 := hbv
    have hc2 := HC.out.later hb
    have q0 := hc2.cell 0; have q1 := hc2.cell 1; have q2 := hc2.cell 2
    have f0 := hc2.free 0; have f1 := hc2.free 1; have f2 := hc2.free 2
    simp [cntC] at q0 q1 q2
    have HC2 := Lib.hid hc2
    have hok := OneKeep.of_below (b := b5) hb
    clear hc2
    rcases aVal_cases xs x with ⟨k, k2⟩ | ⟨k, ⟨_, k2⟩ | ⟨_, _, k2⟩ | ⟨_, _, k2⟩⟩
    all_goals
      have i1 : aIs xs 1 x = decide (lvar x ≠ 0 ∧ aVal xs x = 1) := rfl
      have i2 : aIs xs (-1) x = decide (lvar x ≠ 0 ∧ aVal xs x = -1) := rfl
      have i3 : aIs xs 0 x = decide (lvar x ≠ 0 ∧ aVal xs x = 0) := rfl
      rw [k2] at i1 i2 i3
      simp [k] at i1 i2 i3
      have I1 := Lib.hid i1; have I2 := Lib.hid i2; have I3 := Lib.hid i3
      obtain ⟨t0, d0, k0⟩ : ∃ t0, (lvar x != 0) = t0 ∧ (t0 = decide (lvar x ≠ 0)) := ⟨_, rfl, by by_cases h : lvar x = 0 <;> simp [h]⟩
      first
      | (have k9 : t0 = false := by (rw [k0, decide_eq_false]; simpa using k))
        subst k9
      | (have k9 : t0 = true := by (rw [k0, decide_eq_true]; exact k))
        subst k9
      clear k0
      rw [k2]
      clear i1 i2 i3 k k2
      go_wp2_with (go_at_call 57; refine (lit_Var _ _).mono ?_; rintro e w' ⟨rfl, rfl⟩)
      go_returns
      refine ⟨rfl, ?_, ?_⟩
      · have z := HC2.out
        unfold cnt1
        rw [I1.out, I2.out, I3.out]
        simp only [if_true, if_false, Bool.false_eq_true, Nat.add_zero]
        first
        | exact z
        | (have := z.set 0 (.int .i64 ((h : Int) + 1)); unfold cntC at this ⊢; rw [set0] at this; exact this)
        | (have := z.set 1 (.int .i64 ((g : Int) + 1)); unfold cntC at this ⊢; rw [set1] at this; exact this)
        | (have := z.set 2 (.int .i64 ((o : Int) + 1)); unfold cntC at this ⊢; rw [set2] at this; exact this)
      · first
        | exact hok
        | exact hok.set _ _
theorem cnt1_step (l c : List Int) (v x : Int) : cnt1 l v x (aN l c v) = aN l (c ++ [x]) v := (aN_snoc l c x v).symm
def cntV (l c : List Int) : Value := .agg (cntC (aN l c 1) (aN l c (-1)) (aN l c 0))
set_option maxRecDepth 100000 in
set_option maxHeartbeats 2000000 in
theorem asg_Count (a : Option Addr) (len cap : Nat) (l : List Int) (a2 : Option Addr) (m cap2 : Nat) (c : List Int) (w : World) (hr : IntRow w a len l) (hr2 : IntRow w a2 m c) (hlen : len ≤ 1000000) (hlen2 : m ≤ 1000000) (hf : Fits' l) (hf2 : Fits' c) :
    Calls Try.prog 100 #[.slice a len cap, .slice a2 m cap2] w fun e w' => e = .returned (cntV l c) ∧ Below w.heap.size w w' := by
  have HR := Lib.hid hr; have HR2 := Lib.hid hr2
  have HL2 := Lib.hid hr2.1
  have HF2 := Lib.hid hf2
  have h4 : Blk ((w.alloc (.cells #[.int .i64 0, .int .i64 0, .int .i64 0] 142)).alloc (.cells #[.int .i64 0, .int .i64 0, .int .i64 0] 142)) w.heap.size (cntC 0 0 0) 142 := (Blk.made w _ _).later (below_alloc (Below.refl _ _) _)
  have h5 : Blk ((w.alloc (.cells #[.int .i64 0, .int .i64 0, .int .i64 0] 142)).alloc (.cells #[.int .i64 0, .int .i64 0, .int .i64 0] 142)) (w.heap.size + 1) (cntC 0 0 0) 142 := by
    have := Blk.made (w.alloc (.cells #[.int .i64 0, .int .i64 0, .int .i64 0] 142)) #[.int .i64 0, .int .i64 0, .int .i64 0] 142
    rw [World.size_alloc] at this
    exact this
  have hB0 : Below w.heap.size w ((w.alloc (.cells #[.int .i64 0, .int .i64 0, .int .i64 0] 142)).alloc (.cells #[.int .i64 0, .int .i64 0, .int .i64 0] 142)) := by (repeat (first | (with_reducible exact Below.refl _ _) | (with_reducible assumption) | (with_reducible refine below_alloc ?_ _) | (with_reducible refine below_drew ?_) | (with_reducible refine below_drewN ?_ _) | (with_reducible refine below_step ?_ (by with_reducible assumption))))
  clear hr hr2 hf2
  go_enter Try.func100, Try.ntmps100
  go_wp2_with fail
  generalize ((w.alloc (.cells #[.int .i64 0, .int .i64 0, .int .i64 0] 142)).alloc (.cells #[.int .i64 0, .int .i64 0, .int .i64 0] 142)) = w1 at *
  refine (asg_values a len cap l m w1 (HR.out.later hB0) hlen hf).mono ?_
  rintro e w2 ⟨f, rfl, hv, hb2⟩
  have hv0 := hv
  rcases hv with ⟨bb, _, rfl, _⟩ | ⟨bb, mm, nn, _, _, rfl, _, _⟩
  · have hv := hv0
    clear hv0
    have hl5 := h5.lt
    have h42 := h4.later hb2; have h52 := h5.later hb2
    have hB2 := below_step hB0 hb2
    have hsz2 := hb2.size
    have hb3 : Below w2.heap.size w2 (w2.alloc (.cells #[.func (.func 121) #[] #[.pointer (some ⟨bb, 0, none⟩)]] 67)) := by (repeat (first | (with_reducible exact Below.refl _ _) | (with_reducible assumption) | (with_reducible refine below_alloc ?_ _) | (with_reducible refine below_drew ?_) | (with_reducible refine below_drewN ?_ _) | (with_reducible refine below_step ?_ (by with_reducible assumption))))
    have h43 := h42.later hb3; have h53 := h52.later hb3; have hv3 := hv.later hb3
    have hB3 := below_step hB2 hb3
    have h63 : (w2.alloc (.cells #[.func (.func 121) #[] #[.pointer (some ⟨bb, 0, none⟩)]] 67)).cell? ⟨w2.heap.size, 0, none⟩ = some (.func (.func 121) #[] #[.pointer (some ⟨bb, 0, none⟩)]) := (Blk.made w2 #[.func (.func 121) #[] #[.pointer (some ⟨bb, 0, none⟩)]] 67).cell 0
    clear h4 h5 h42 h52 hv hB0 hb2 hB2 hb3
    go_wp2_with fail
    generalize w2.alloc (.cells #[.func (.func 121) #[] #[.pointer (some ⟨bb, 0, none⟩)]] 67) = w3 at *
    have hgf : ∃ f, f = (.func (.func 121) #[] #[.pointer (some ⟨bb, 0, none⟩)] : Value) := ⟨_, rfl⟩
    obtain ⟨f, hfe⟩ := hgf
    rw [← hfe] at hv3 h63
    have HFE := Lib.hid hfe
    clear hfe
    generalize hb6 : w2.heap.size = b6 at *
    clear hb6
    have H0 : Hid (∀ v, aN l (c.take 0) v = 0) := Lib.hid (fun v => rfl)
    go_loopw [9, 17] (fun _ i wr => ∃ k : Nat, k ≤ m ∧ i = .int .i64 k ∧ Blk wr (w.heap.size + 1) (cntC (aN l (c.take k) 1) (aN l (c.take k) (-1)) (aN l (c.take k) 0)) 142 ∧ Blk wr w.heap.size (cntC 0 0 0) 142 ∧ ValFn w1.heap.size wr f a len cap l ∧ wr.cell? ⟨b6, 0, none⟩ = some f ∧ Below w.heap.size w wr) (fun _ i _ => m - (intOf i).toNat)
    case atStart => exact ⟨0, Nat.zero_le _, rfl, by rw [H0.out, H0.out, H0.out]; exact h53, h43, hv3, h63, hB3⟩
    case round =>
      clear h53 h43 hv3 h63 hB3
      obtain ⟨k, hk, rfl, h5, h4, hv, h6, hB⟩ := hrel
      have H5 := Lib.hid h5; have H4 := Lib.hid h4; have HV := Lib.hid hv
      have t1 : (0 : Int) ≤ (k : Int) := by omega
      by_cases hlt : k < m
      · have hra := HR2.out.later hB
        obtain ⟨b, off, rfl, hc⟩ := hra.2.2 (by omega)
        have hck := hc k hlt
        have t2 : (k : Int) < (m : Int) := by omega
        obtain ⟨n1, n2⟩ := HF2.out _ (at_mem HL2.out hlt)
        have HT : Hid (c.take (k + 1) = c.take k ++ [c.getD k 0]) := Lib.hid (take_snoc c k (by rw [HL2.out]; exact hlt))
        have hct := asg_Count1 (w.heap.size + 1) b6 w1.heap.size f a len cap l (c.getD k 0) (aN l (c.take k) 1) (aN l (c.take k) (-1)) (aN l (c.take k) 0) wr (HR.out.later hB) hv hl5 (by omega) h5 h6 n1 n2 ⟨Nat.le_trans (aN_le _ _ _) (by rw [List.length_take]; omega), Nat.le_trans (aN_le _ _ _) (by rw [List.length_take]; omega), Nat.le_trans (aN_le _ _ _) (by rw [List.length_take]; omega)⟩
        rw [cnt1_step, cnt1_step, cnt1_step, ← HT.out] at hct
        have HCT := Lib.hid hct
        clear hct hc hra h5 h4 hv
        generalize c.getD k 0 = z at *
        go_wp2_with fail
        refine HCT.out.mono ?_
        rintro e w4 ⟨rfl, h54, hok⟩
        have h64 := hok.cell h6 (by show b6 ≠ _; omega)
        have H54 := Lib.hid h54
        have H44 : Hid (Blk w4 w.heap.size (cntC 0 0 0) 142) := Lib.hid ((hok.2.1 _ H4.out.lt (by omega)).trans H4.out)
        have HV4 := Lib.hid (HV.out.step hok hl5)
        have hB4 := hok.2.2 _ hB (by omega)
        clear h54 hok
        go_wp2_with fail
        go_roundw
        case rel => exact ⟨k + 1, by omega, by go_num, H54.out, H44.out, HV4.out, h64, hB4⟩
        case measure => simp [intOf]; omega
      · have hkm : k = m := by omega
        subst hkm
        have HT : Hid (c.take k = c) := Lib.hid (List.take_of_length_le (by rw [HL2.out]; exact Nat.le_refl _))
        rw [HT.out] at h5
        have q0 := h5.cell 0; have q1 := h5.cell 1; have q2 := h5.cell 2
        have r0 := h4.cell 0; have r1 := h4.cell 1; have r2 := h4.cell 2
        have g0 := h4.free 0; have g1 := h4.free 1; have g2 := h4.free 2
        simp [cntC] at q0 q1 q2 r0 r1 r2
        have z := ((h4.set 0 (.int .i64 (aN l c 1 : Int))).set 1 (.int .i64 (aN l c (-1) : Int))).set 2 (.int .i64 (aN l c 0 : Int))
        have z0 := z.cell 0; have z1 := z.cell 1; have z2 := z.cell 2
        simp only [cntC, set0, set1, set2] at z0 z1 z2
        have Z0 := Lib.hid z0; have Z1 := Lib.hid z1; have Z2 := Lib.hid z2
        clear h5 h4 hv z z0 z1 z2
        go_wp2_with fail
        have z0 := Z0.out; have z1 := Z1.out; have z2 := Z2.out
        have hbe : Below w.heap.size w (((wr.setCell ⟨w.heap.size, 0, none⟩ (.int .i64 (aN l c 1 : Int))).setCell ⟨w.heap.size, 1, none⟩ (.int .i64 (aN l c (-1) : Int))).setCell ⟨w.heap.size, 2, none⟩ (.int .i64 (aN l c 0 : Int))) := below_set (below_set (below_set hB (Nat.le_refl _) _ _) (Nat.le_refl _) _ _) (Nat.le_refl _) _ _
        generalize (((wr.setCell ⟨w.heap.size, 0, none⟩ (.int .i64 (aN l c 1 : Int))).setCell ⟨w.heap.size, 1, none⟩ (.int .i64 (aN l c (-1) : Int))).setCell ⟨w.heap.size, 2, none⟩ (.int .i64 (aN l c 0 : Int))) = wz at *
        simp at z0 z1 z2
        exact bodyPost_ret (v := cntV l c) (by simp [results, Try.results100, go_sem, z0, z1, z2, cntV, cntC]) rfl ⟨rfl, hbe⟩
  · have hv := hv0
    clear hv0
    have hl5 := h5.lt
    have h42 := h4.later hb2; have h52 := h5.later hb2
    have hB2 := below_step hB0 hb2
    have hsz2 := hb2.size
    have hb3 : Below w2.heap.size w2 (w2.alloc (.cells #[.func (.func 123) #[] #[.pointer (some ⟨bb, 0, none⟩)]] 67)) := by (repeat (first | (with_reducible exact Below.refl _ _) | (with_reducible assumption) | (with_reducible refine below_alloc ?_ _) | (with_reducible refine below_drew ?_) | (with_reducible refine below_drewN ?_ _) | (with_reducible refine below_step ?_ (by with_reducible assumption))))
    have h43 := h42.later hb3; have h53 := h52.later hb3; have hv3 := hv.later hb3
    have hB3 := below_step hB2 hb3
    have h63 : (w2.alloc (.cells #[.func (.func 123) #[] #[.pointer (some ⟨bb, 0, none⟩)]] 67)).cell? ⟨w2.heap.size, 0, none⟩ = some (.func (.func 123) #[] #[.pointer (some ⟨bb, 0, none⟩)]) := (Blk.made w2 #[.func (.func 123) #[] #[.pointer (some ⟨bb, 0, none⟩)]] 67).cell 0
    clear h4 h5 h42 h52 hv hB0 hb2 hB2 hb3
    go_wp2_with fail
    generalize w2.alloc (.cells #[.func (.func 123) #[] #[.pointer (some ⟨bb, 0, none⟩)]] 67) = w3 at *
    have hgf : ∃ f, f = (.func (.func 123) #[] #[.pointer (some ⟨bb, 0, none⟩)] : Value) := ⟨_, rfl⟩
    obtain ⟨f, hfe⟩ := hgf
    rw [← hfe] at hv3 h63
    have HFE := Lib.hid hfe
    clear hfe
    generalize hb6 : w2.heap.size = b6 at *
    clear hb6
    have H0 : Hid (∀ v, aN l (c.take 0) v = 0) := Lib.hid (fun v => rfl)
    go_loopw [9, 17] (fun _ i wr => ∃ k : Nat, k ≤ m ∧ i = .int .i64 k ∧ Blk wr (w.heap.size + 1) (cntC (aN l (c.take k) 1) (aN l (c.take k) (-1)) (aN l (c.take k) 0)) 142 ∧ Blk wr w.heap.size (cntC 0 0 0) 142 ∧ ValFn w1.heap.size wr f a len cap l ∧ wr.cell? ⟨b6, 0, none⟩ = some f ∧ Below w.heap.size w wr) (fun _ i _ => m - (intOf i).toNat)
    case atStart => exact ⟨0, Nat.zero_le _, rfl, by rw [H0.out, H0.out, H0.out]; exact h53, h43, hv3, h63, hB3⟩
    case round =>
      clear h53 h43 hv3 h63 hB3
      obtain ⟨k, hk, rfl, h5, h4, hv, h6, hB⟩ := hrel
      have H5 := Lib.hid h5; have H4 := Lib.hid h4; have HV := Lib.hid hv
      have t1 : (0 : Int) ≤ (k : Int) := by omega
      by_cases hlt : k < m
      · have hra := HR2.out.later hB
        obtain ⟨b, off, rfl, hc⟩ := hra.2.2 (by omega)
        have hck := hc k hlt
        have t2 : (k : Int) < (m : Int) := by omega
        obtain ⟨n1, n2⟩ := HF2.out _ (at_mem HL2.out hlt)
        have HT : Hid (c.take (k + 1) = c.take k ++ [c.getD k 0]) := Lib.hid (take_snoc c k (by rw [HL2.out]; exact hlt))
        have hct := asg_Count1 (w.heap.size + 1) b6 w1.heap.size f a len cap l (c.getD k 0) (aN l (c.take k) 1) (aN l (c.take k) (-1)) (aN l (c.take k) 0) wr (HR.out.later hB) hv hl5 (by omega) h5 h6 n1 n2 ⟨Nat.le_trans (aN_le _ _ _) (by rw [List.length_take]; omega), Nat.le_trans (aN_le _ _ _) (by rw [List.length_take]; omega), Nat.le_trans (aN_le _ _ _) (by rw [List.length_take]; omega)⟩
        rw [cnt1_step, cnt1_step, cnt1_step, ← HT.out] at hct
        have HCT := Lib.hid hct
        clear hct hc hra h5 h4 hv
        generalize c.getD k 0 = z at *
        go_wp2_with fail
        refine HCT.out.mono ?_
        rintro e w4 ⟨rfl, h54, hok⟩
        have h64 := hok.cell h6 (by show b6 ≠ _; omega)
        have H54 := Lib.hid h54
        have H44 : Hid (Blk w4 w.heap.size (cntC 0 0 0) 142) := Lib.hid ((hok.2.1 _ H4.out.lt (by omega)).trans H4.out)
        have HV4 := Lib.hid (HV.out.step hok hl5)
        have hB4 := hok.2.2 _ hB (by omega)
        clear h54 hok
        go_wp2_with fail
        go_roundw
        case rel => exact ⟨k + 1, by omega, by go_num, H54.out, H44.out, HV4.out, h64, hB4⟩
        case measure => simp [intOf]; omega
      · have hkm : k = m := by omega
        subst hkm
        have HT : Hid (c.take k = c) := Lib.hid (List.take_of_length_le (by rw [HL2.out]; exact Nat.le_refl _))
        rw [HT.out] at h5
        have q0 := h5.cell 0; have q1 := h5.cell 1; have q2 := h5.cell 2
        have r0 := h4.cell 0; have r1 := h4.cell 1; have r2 := h4.cell 2
        have g0 := h4.free 0; have g1 := h4.free 1; have g2 := h4.free 2
        simp [cntC] at q0 q1 q2 r0 r1 r2
        have z := ((h4.set 0 (.int .i64 (aN l c 1 : Int))).set 1 (.int .i64 (aN l c (-1) : Int))).set 2 (.int .i64 (aN l c 0 : Int))
        have z0 := z.cell 0; have z1 := z.cell 1; have z2 := z.cell 2
        simp only [cntC, set0, set1, set2] at z0 z1 z2
        have Z0 := Lib.hid z0; have Z1 := Lib.hid z1; have Z2 := Lib.hid z2
        clear h5 h4 hv z z0 z1 z2
        go_wp2_with fail
        have z0 := Z0.out; have z1 := Z1.out; have z2 := Z2.out
        have hbe : Below w.heap.size w (((wr.setCell ⟨w.heap.size, 0, none⟩ (.int .i64 (aN l c 1 : Int))).setCell ⟨w.heap.size, 1, none⟩ (.int .i64 (aN l c (-1) : Int))).setCell ⟨w.heap.size, 2, none⟩ (.int .i64 (aN l c 0 : Int))) := below_set (below_set (below_set hB (Nat.le_refl _) _ _) (Nat.le_refl _) _ _) (Nat.le_refl _) _ _
        generalize (((wr.setCell ⟨w.heap.size, 0, none⟩ (.int .i64 (aN l c 1 : Int))).setCell ⟨w.heap.size, 1, none⟩ (.int .i64 (aN l c (-1) : Int))).setCell ⟨w.heap.size, 2, none⟩ (.int .i64 (aN l c 0 : Int))) = wz at *
        simp at z0 z1 z2
        exact bodyPost_ret (v := cntV l c) (by simp [results, Try.results100, go_sem, z0, z1, z2, cntV, cntC]) rfl ⟨rfl, hbe⟩
end Go.Proofs.Ytcanlckenjndbaa
