import Derived.Test.YtdladbfjgkejiaaMgAK
import Derived.Test.YtdladbfjgkejiaaMgAJ
import Derived.Test.YtdladbfjgkejiaaMgAA
import Derived.BigGuardPart
import Derived.Handy
import Derived.Test.YtdladbfjgkejiaaMgAN
import Derived.Test.YtdladbfjgkejiaaMgAL
import Derived.Deep.QuietTactic
import Derived.BigQuiet
import Derived.Deep.RegionHeld3
namespace Go.Proofs.Ytdladbfjgkejiaa
open Go.RowKit
set_option linter.unusedVariables false
set_option linter.unusedSimpArgs false

/-- All numbers fit an int. -/
def Fits' (xs : List Int) : Prop := ∀ x ∈ xs, -9223372036854775808 ≤ x ∧ x ≤ 9223372036854775807
theorem lhas_take (xs : List Int) (v : Int) {n : Nat} (h : xs.length = n) : lhas (xs.take n) v = lhas xs v := by rw [List.take_of_length_le (by omega)]
set_option maxRecDepth 100000 in
theorem ref_Has (a : Option Addr) (len cap : Nat) (xs : List Int) (v : Int) (w : World) (hr : IntRow w a len xs) : Calls Try.prog 54 #[.slice a len cap, .int .i64 v] w fun e w' => e = .returned (.bool (lhas xs v)) ∧ w = w' := by
  obtain ⟨hl, hm, hc⟩ := hr
  unfold maxLen at hm
  have HC := Lib.hid hc; clear hc
  have HL := Lib.hid hl; clear hl
  go_enter Try.func54, Try.ntmps54
  go_wp2_with fail
  go_loop [5] (fun i => ∃ k : Nat, k ≤ len ∧ i = .int .i64 k ∧ lhas (xs.take k) v = false) (fun i => len - (intOf i).toNat)
  case atStart => exact ⟨0, Nat.zero_le _, rfl, rfl⟩
  case round =>
    obtain ⟨k, hk, rfl, hn⟩ := hrel
    have HN := Lib.hid hn; clear hn
    have t1 : (0 : Int) ≤ (k : Int) := by omega
    by_cases hlt : k < len
    · obtain ⟨b, off, rfl, hcell⟩ := HC.out (by omega)
      have hck := hcell k hlt
      have t2 : (k : Int) < (len : Int) := by omega
      have HS := Lib.hid (lhas_snoc (xs.take k) (xs.getD k 0) v)
      have HT := Lib.hid (take_snoc xs k (by rw [HL.out]; exact hlt))
      have hmem : xs.getD k 0 ∈ xs := by rw [List.getD_eq_getElem?_getD, List.getElem?_eq_getElem (by rw [HL.out]; exact hlt)]; simp
      have HM := Lib.hid hmem
      clear hcell hmem
      generalize xs.getD k 0 = z at *
      by_cases he : z = v
      · have d1 : (z == v) = true := by simpa using he
        have HE : Hid (lhas xs v = true) := Lib.hid (by rw [lhas_mem, ← he]; exact HM.out)
        clear he
        go_wp2_with fail
        go_ret
        exact ⟨ret_bool HE.out.symm, rfl⟩
      · have d1 : (z == v) = false := by simpa using he
        have HE : Hid (lhas (xs.take (k + 1)) v = false) := Lib.hid (by
          rw [HT.out, HS.out, HN.out, Bool.false_or]
          simp; exact fun h => he h.symm)
        clear he
        go_wp2_with fail
        go_round
        case rel => exact ⟨k + 1, by omega, by go_num, HE.out⟩
        case measure => simp [intOf]; omega
    · have hkn : k = len := by omega
      subst hkn
      have HE : Hid (lhas xs v = false) := Lib.hid (by rw [← lhas_take xs v HL.out]; exact HN.out)
      go_wp2_with fail
      go_ret
      exact ⟨ret_bool HE.out.symm, rfl⟩

theorem ref_HasB (a : Option Addr) (len cap : Nat) (xs : List Int) (v : Int) (t : Bool) (w : World) (hr : IntRow w a len xs) (ht : lhas xs v = t) : Calls Try.prog 54 #[.slice a len cap, .int .i64 v] w fun e w' => e = .returned (.bool t) ∧ w' = w :=
  (ref_Has a len cap xs v w hr).mono fun e w' h => ⟨by rw [h.1, ht], h.2.symm⟩
end Go.Proofs.Ytdladbfjgkejiaa
namespace Go.Proofs.Ytdladbfjgkejiaa
open Go.RowKit
set_option linter.unusedVariables false
set_option linter.unusedSimpArgs false

theorem neg_lit {x : Int} (h : lvar x ≠ 0) : wrap64 (-x) = -x := by have := lvar_range h; exact IntWalk.wrap64_in _ ⟨by omega, by omega⟩
set_option maxRecDepth 100000 in
theorem asg_Value (a : Option Addr) (len cap : Nat) (xs : List Int) (x : Int) (w : World) (hr : IntRow w a len xs) : Calls Try.prog 59 #[.slice a len cap, .int .i64 x] w fun e w' => e = .returned (.int .i64 (aVal xs x)) ∧ w = w' := by
  rcases aVal_cases xs x with ⟨h, h2⟩ | ⟨h, h2⟩
  · have d1 : (lvar x == 0) = true := by simpa using h
    have H2 := Lib.hid h2; clear h h2
    go_enter Try.func59, Try.ntmps59
    go_wp2_with (go_at_call 24; refine (lit_Var _ _).mono ?_; rintro e w' ⟨rfl, rfl⟩)
    go_ret
    exact ⟨ret_int H2.out.symm, rfl⟩
  · have d1 : (lvar x == 0) = false := by simpa using h
    have e1 := neg_lit h
    have hx := lvar_range h
    clear h
    rcases h2 with ⟨h1, h2⟩ | ⟨h1, h3, h2⟩ | ⟨h1, h3, h2⟩
    all_goals
      have H2 := Lib.hid h2; clear h2
      go_enter Try.func59, Try.ntmps59
      go_wp2_with (first | (go_at_call 24; refine (lit_Var _ _).mono ?_; rintro e w' ⟨rfl, rfl⟩) | (go_at_call 61; refine (sl_Contains _ _ _ _ _ _ hr).mono ?_; rintro e w' ⟨rfl, rfl⟩; first | rw [h1] | rw [h3]))
      go_ret
      exact ⟨ret_int H2.out.symm, rfl⟩
set_option maxRecDepth 100000 in
theorem ref_Value03 (a : Option Addr) (len cap : Nat) (xs : List Int) (x : Int) (w : World) (hr : IntRow w a len xs) : Calls Try.prog 49 #[.slice a len cap, .int .i64 x] w fun e w' => e = .returned (.int .i64 (aVal xs x)) ∧ w = w' := by
  rcases aVal_cases xs x with ⟨h, h2⟩ | ⟨h, h2⟩
  · have d1 : decide (lindex x < 0) = true := by unfold lindex; rw [if_pos h]; rfl
    have H2 := Lib.hid h2; clear h h2
    go_enter Try.func49, Try.ntmps49
    go_wp2_with (go_at_call 48; refine (ref_Index _ _).mono ?_; rintro e w' ⟨rfl, rfl⟩)
    go_ret
    exact ⟨ret_int H2.out.symm, rfl⟩
  · have d1 : decide (lindex x < 0) = false := by
      have hb := lvar_bd x
      unfold lindex; rw [if_neg h]
      refine decide_eq_false ?_
      split <;> omega
    have e1 := neg_lit h
    have hx := lvar_range h
    clear h
    rcases h2 with ⟨h1, h2⟩ | ⟨h1, h3, h2⟩ | ⟨h1, h3, h2⟩
    all_goals
      have H2 := Lib.hid h2; clear h2
      go_enter Try.func49, Try.ntmps49
      go_wp2_with (first | (go_at_call 48; refine (ref_Index _ _).mono ?_; rintro e w' ⟨rfl, rfl⟩) | (go_at_call 54; refine (ref_Has _ _ _ _ _ _ hr).mono ?_; rintro e w' ⟨rfl, rfl⟩; first | rw [h1] | rw [h3]))
      go_ret
      exact ⟨ret_int H2.out.symm, rfl⟩

/-! ### Check -/
theorem lcheck_in {x vars : Int} (h1 : 0 ≤ vars) (h2 : vars ≤ 100000) : lcheck x vars = 0 ∨ lcheck x vars = 10 := by
  unfold lcheck; rw [if_neg (by omega)]; split <;> omega
theorem aCheck_bad {l : List Int} {vars : Int} (h1 : 0 ≤ vars) (h2 : vars ≤ 100000) {x : Int} (hx : x ∈ l) (hc : lcheck x vars ≠ 0) : aCheck l vars = 10 := by
  unfold aCheck
  rw [if_neg (by omega), if_pos]
  rw [List.all_eq_false]
  exact ⟨x, hx, by simpa using hc⟩
theorem aCheck_good {l : List Int} {vars : Int} (h1 : 0 ≤ vars) (h2 : vars ≤ 100000) (h : ∀ x ∈ l, lcheck x vars = 0) : aCheck l vars = if aDup l then 21 else 0 := by
  unfold aCheck
  rw [if_neg (by omega), if_neg]
  simp only [Bool.not_eq_false, List.all_eq_true, beq_iff_eq]
  exact h
theorem at_mem {xs : List Int} {k len : Nat} (h : xs.length = len) (hk : k < len) : xs.getD k 0 ∈ xs := by
  rw [List.getD_eq_getElem?_getD, List.getElem?_eq_getElem (by omega)]; simp
theorem all_at {xs : List Int} {len : Nat} {p : Int → Prop} (h : xs.length = len) (hp : ∀ i, i < len → p (xs.getD i 0)) : ∀ x ∈ xs, p x := fun x hx => by
  obtain ⟨i, hi, rfl⟩ := List.mem_iff_getElem.1 hx
  have := hp i (by omega)
  simpa [List.getD, hi] using this
/-! ### the reference's Check -/
theorem dup_at {xs : List Int} {k len : Nat} (hl : xs.length = len) (hk : k < len) (hv : ∀ j, j < len → lvar (xs.getD j 0) ≠ 0) : (lhas (xs.take k) (xs.getD k 0) = true ∨ lhas (xs.take k) (-xs.getD k 0) = true) ↔ ∃ i, i < k ∧ lvar (xs.getD i 0) = lvar (xs.getD k 0) := by
  have hm : ∀ y, y ∈ xs.take k ↔ ∃ i, i < k ∧ xs.getD i 0 = y := fun y => by
    rw [List.mem_iff_getElem]
    constructor
    · rintro ⟨i, hi, rfl⟩
      rw [List.length_take] at hi
      exact ⟨i, by omega, by simp [List.getD, show i < xs.length by omega]⟩
    · rintro ⟨i, hi, rfl⟩
      exact ⟨i, by rw [List.length_take]; omega, by simp [List.getD, show i < xs.length by omega]⟩
  rw [lhas_iff, lhas_iff, hm, hm]
  constructor
  · rintro (⟨i, hi, e⟩ | ⟨i, hi, e⟩)
    · exact ⟨i, hi, by rw [e]⟩
    · exact ⟨i, hi, by rw [e, lvar_neg]⟩
  · rintro ⟨i, hi, e⟩
    rcases lvar_same (hv i (by omega)) e with h | h
    · exact Or.inl ⟨i, hi, h⟩
    · exact Or.inr ⟨i, hi, h⟩
theorem nodup_at {xs : List Int} {len : Nat} (hl : xs.length = len) : aDup xs ↔ ∃ k, k < len ∧ ∃ i, i < k ∧ lvar (xs.getD i 0) = lvar (xs.getD k 0) := by
  unfold aDup
  rw [List.nodup_iff_pairwise_ne, List.pairwise_map, List.pairwise_iff_getElem]
  constructor
  · intro h
    refine Classical.byContradiction fun hn => h fun i j hi hj hij he => hn ⟨j, by omega, i, hij, ?_⟩
    simpa [List.getD, hi, hj] using he
  · rintro ⟨k, hk, i, hi, e⟩ h
    have := h i k (by omega) (by omega) hi
    rw [show xs.getD i 0 = xs[i]'(by omega) by simp [List.getD, show i < xs.length by omega], show xs.getD k 0 = xs[k]'(by omega) by simp [List.getD, show k < xs.length by omega]] at e
    exact this e
end Go.Proofs.Ytdladbfjgkejiaa
namespace Go.Proofs.Ytdladbfjgkejiaa
open Go.RowKit
set_option linter.unusedVariables false
set_option linter.unusedSimpArgs false

set_option maxRecDepth 100000 in
theorem asg_values1 (b : Nat) (a : Option Addr) (len cap : Nat) (xs : List Int) (x : Int) (w : World) (hb : w.cell? ⟨b, 0, none⟩ = some (.slice a len cap)) (hr : IntRow w a len xs) :
    Calls Try.prog 58 #[.int .i64 x, .pointer (some ⟨b, 0, none⟩)] w fun e w' => e = .returned (.int .i64 (aVal xs x)) ∧ Below w.heap.size w w' := by
  go_enter Try.func58, Try.ntmps58
  go_wp2_with (go_at_call 59; refine (asg_Value _ _ _ _ _ _ hr).mono ?_; rintro e w' ⟨rfl, rfl⟩)
  go_ret
  exact ⟨rfl, Below.refl _ _⟩
set_option maxRecDepth 100000 in
set_option maxHeartbeats 1000000 in
theorem asg_values2 (b m n : Nat) (xs : List Int) (x : Int) (w : World) (hb : w.cell? ⟨b, 0, none⟩ = some (.map (some m))) (hM : IMap w m n (sF xs)) (hx1 : -9223372036854775808 ≤ x) (hx2 : x ≤ 9223372036854775807) :
    Calls Try.prog 60 #[.int .i64 x, .pointer (some ⟨b, 0, none⟩)] w fun e w' => e = .returned (.int .i64 (aVal xs x)) ∧ Below w.heap.size w w' := by
  rcases aVal_cases xs x with ⟨h, h2⟩ | ⟨h, h2⟩
  · have d1 : (lvar x == 0) = true := by simpa using h
    have H2 := Lib.hid h2; clear h h2
    go_enter Try.func60, Try.ntmps60
    go_wp2_with (go_at_call 24; refine (lit_Var _ _).mono ?_; rintro e w' ⟨rfl, rfl⟩)
    go_ret
    exact ⟨ret_int H2.out.symm, Below.refl _ _⟩
  · have d1 : (lvar x == 0) = false := by simpa using h
    have e1 := neg_lit h
    have hx := lvar_range h
    have hlt := World.block_lt_of_cell? w _ hb
    dsimp only at hlt
    have HG1 := Lib.hid (sF_get xs x); have HG2 := Lib.hid (sF_get xs (-x))
    have HM := Lib.hid hM
    clear h hM
    rcases h2 with ⟨h1, h2⟩ | ⟨h1, h3, h2⟩ | ⟨h1, h3, h2⟩
    all_goals
      have H2 := Lib.hid h2; clear h2
      unfold lhas at *
      have HH1 := Lib.hid h1
      have HH3 : Hid (True) := Lib.hid trivial
      try have HH3 := Lib.hid h3
      clear h1
      try clear h3
      go_enter Try.func60, Try.ntmps60
      go_wp2_with (first | (go_at_call 24; refine (lit_Var _ _).mono ?_; rintro e w' ⟨rfl, rfl⟩) | (at_lookup; refine wpList_mlook rfl _ _ 73 rfl 74 Try.underlying73 _ (set_zero _) set_unit m n (sF xs) rfl (HM.out.later (by (repeat (first | (with_reducible exact Below.refl _ _) | (with_reducible assumption) | (with_reducible refine below_alloc ?_ _) | (with_reducible refine below_drew ?_) | (with_reducible refine below_drewN ?_ _) | (with_reducible refine below_step ?_ (by with_reducible assumption)))))) x rfl (by omega) (by omega) (.agg #[]) _ HG1.out.1 HG1.out.2 ?_; rw [HH1.out]) | (at_lookup; refine wpList_mlook rfl _ _ 73 rfl 74 Try.underlying73 _ (set_zero _) set_unit m n (sF xs) rfl (HM.out.later (by (repeat (first | (with_reducible exact Below.refl _ _) | (with_reducible assumption) | (with_reducible refine below_alloc ?_ _) | (with_reducible refine below_drew ?_) | (with_reducible refine below_drewN ?_ _) | (with_reducible refine below_step ?_ (by with_reducible assumption)))))) (-x) rfl (by omega) (by omega) (.agg #[]) _ HG2.out.1 HG2.out.2 ?_; rw [HH3.out]))
      go_ret
      exact ⟨ret_int H2.out.symm, by (repeat (first | (with_reducible exact Below.refl _ _) | (with_reducible assumption) | (with_reducible refine below_alloc ?_ _) | (with_reducible refine below_drew ?_) | (with_reducible refine below_drewN ?_ _) | (with_reducible refine below_step ?_ (by with_reducible assumption))))⟩

/-- A function value that tells the literals' values. -/
def ValFn (B : Nat) (w : World) (f : Value) (a : Option Addr) (len cap : Nat) (xs : List Int) : Prop :=
  (∃ b, B ≤ b ∧ f = .func (.func 58) #[] #[.pointer (some ⟨b, 0, none⟩)] ∧ w.cell? ⟨b, 0, none⟩ = some (.slice a len cap)) ∨
  (∃ b m n, B ≤ b ∧ B ≤ m ∧ f = .func (.func 60) #[] #[.pointer (some ⟨b, 0, none⟩)] ∧ w.cell? ⟨b, 0, none⟩ = some (.map (some m)) ∧ IMap w m n (sF xs))
/-- A step that changes block b alone, and makes new ones. -/
def OneKeep (w w' : World) (b : Nat) : Prop := w.heap.size ≤ w'.heap.size ∧ (∀ k, k < w.heap.size → k ≠ b → w'.heap[k]? = w.heap[k]?) ∧ ∀ W : World, Below W.heap.size W w → W.heap.size ≤ b → Below W.heap.size W w'
theorem OneKeep.of_below {w w' : World} {b : Nat} (h : Below w.heap.size w w') : OneKeep w w' b := ⟨h.size, fun k hk _ => h.block k hk, fun W h1 h2 => below_step h1 h⟩
theorem OneKeep.set {w w1 : World} {b : Nat} (h : OneKeep w w1 b) (i : Nat) (u : Value) : OneKeep w (w1.setCell ⟨b, i, none⟩ u) b :=
  ⟨by simpa using h.1, fun k h1 h2 => (Below.heap_setCell w1 ⟨b, i, none⟩ u k h2).trans (h.2.1 k h1 h2), fun W h1 h2 => below_set (h.2.2 W h1 h2) h2 i u⟩
theorem OneKeep.cell {w w' : World} {b : Nat} (h : OneKeep w w' b) {p : Addr} {x : Value} (hp : w.cell? p = some x) (hne : p.block ≠ b) : w'.cell? p = some x :=
  (World.cell?_of_block (h.2.1 _ (World.block_lt_of_cell? _ _ hp) hne)).trans hp
theorem ValFn.step {B : Nat} {w w' : World} {f : Value} {a : Option Addr} {len cap : Nat} {xs : List Int} {b : Nat} (h : ValFn B w f a len cap xs) (hs : OneKeep w w' b) (hb : b < B) : ValFn B w' f a len cap xs := by
  rcases h with ⟨c, h1, h2, h3⟩ | ⟨c, m, n, h1, h2, h3, h4, h5⟩
  · exact Or.inl ⟨c, h1, h2, hs.cell h3 (by show c ≠ b; omega)⟩
  · exact Or.inr ⟨c, m, n, h1, h2, h3, hs.cell h4 (by show c ≠ b; omega), h5.block (hs.2.1 m h5.lt (by omega))⟩
theorem ValFn.later {B : Nat} {w w' : World} {f : Value} {a : Option Addr} {len cap : Nat} {xs : List Int} (h : ValFn B w f a len cap xs) (hb : Below w.heap.size w w') : ValFn B w' f a len cap xs := by
  rcases h with ⟨c, h1, h2, h3⟩ | ⟨c, m, n, h1, h2, h3, h4, h5⟩
  · exact Or.inl ⟨c, h1, h2, cell_later hb h3⟩
  · exact Or.inr ⟨c, m, n, h1, h2, h3, cell_later hb h4, h5.later hb⟩
theorem ValFn.mono {B B' : Nat} {w : World} {f : Value} {a : Option Addr} {len cap : Nat} {xs : List Int} (h : ValFn B w f a len cap xs) (hb : B' ≤ B) : ValFn B' w f a len cap xs := by
  rcases h with ⟨c, h1, h2, h3⟩ | ⟨c, m, n, h1, h2, h3, h4, h5⟩
  · exact Or.inl ⟨c, by omega, h2, h3⟩
  · exact Or.inr ⟨c, m, n, by omega, by omega, h3, h4, h5⟩
set_option maxRecDepth 100000 in
set_option maxHeartbeats 1000000 in
theorem asg_values (a : Option Addr) (len cap : Nat) (xs : List Int) (n : Nat) (w : World) (hr : IntRow w a len xs) (hlen : len ≤ 1000000) (hf : Fits' xs) :
    Calls Try.prog 55 #[.slice a len cap, .int .i64 n] w fun e w' => ∃ f, e = .returned f ∧ ValFn w.heap.size w' f a len cap xs ∧ Below w.heap.size w w' := by
  have hb1 : Below w.heap.size w (w.alloc (.cells #[.slice a len cap] 26)) := by (repeat (first | (with_reducible exact Below.refl _ _) | (with_reducible assumption) | (with_reducible refine below_alloc ?_ _) | (with_reducible refine below_drew ?_) | (with_reducible refine below_drewN ?_ _) | (with_reducible refine below_step ?_ (by with_reducible assumption))))
  have hs1 := Blk.made w #[.slice a len cap] 26
  have HR := Lib.hid (hr.later hb1)
  have HBM : Hid (∀ b off, a = some ⟨b, off, none⟩ → 0 < len → b < w.heap.size) := Lib.hid (fun b off ha hp => by
    obtain ⟨b', o', e', c'⟩ := hr.2.2 hp
    rw [ha] at e'; cases e'
    have := World.block_lt_of_cell? _ _ (c' 0 hp)
    exact this)
  have HL := Lib.hid hr.1
  have HF := Lib.hid hf
  generalize hw1 : w.alloc (.cells #[.slice a len cap] 26) = W1 at *
  have HW1 := Lib.hid hw1; clear hw1
  have q := hs1.cell 0
  simp at q
  have hlt1 := hs1.lt
  clear hs1 hr hf
  by_cases hc : n < 8 ∨ len < 8
  · have hd : (decide (n < 8) = true ∧ decide ((n : Int) < 8) = true) ∨ ((decide (n < 8) = false ∧ decide ((n : Int) < 8) = false) ∧ decide (len < 8) = true ∧ decide ((len : Int) < 8) = true) := by
      simp only [decide_eq_true_eq, decide_eq_false_iff_not]; omega
    clear hc
    rcases hd with ⟨d1, d2⟩ | ⟨⟨d1, d2⟩, d3, d4⟩
    all_goals
      go_enter Try.func55, Try.ntmps55
      go_wp2_with fail
      try rw [HW1.out]
      go_ret
      exact ⟨_, rfl, Or.inl ⟨w.heap.size, Nat.le_refl _, rfl, q⟩, hb1⟩
  · have d1 : decide (n < 8) = false := decide_eq_false (by omega)
    have d2 : decide ((n : Int) < 8) = false := decide_eq_false (by omega)
    have d3 : decide (len < 8) = false := decide_eq_false (by omega)
    have d4 : decide ((len : Int) < 8) = false := decide_eq_false (by omega)
    have hmm := @run_makeMap Try.prog
    clear hc
    go_enter Try.func55, Try.ntmps55
    go_wp2_with fail
    try rw [HW1.out]
    have HSZ : Hid (w.heap.size + 1 = W1.heap.size) := Lib.hid (by rw [← HW1.out]; simp)
    have hM0 : IMap ((W1.alloc (.map #[] 0)).alloc (.cells #[.map (some W1.heap.size)] 73)) W1.heap.size 0 (sF (xs.take 0)) := by
      rw [List.take_zero, sF_nil]; exact (IMap.made W1).later (below_alloc (Below.refl _ _) _)
    have hB0 : Below w.heap.size w ((W1.alloc (.map #[] 0)).alloc (.cells #[.map (some W1.heap.size)] 73)) := by (repeat (first | (with_reducible exact Below.refl _ _) | (with_reducible assumption) | (with_reducible refine below_alloc ?_ _) | (with_reducible refine below_drew ?_) | (with_reducible refine below_drewN ?_ _) | (with_reducible refine below_step ?_ (by with_reducible assumption))))
    have hc5 := Blk.made (W1.alloc (.map #[] 0)) #[.map (some W1.heap.size)] 73
    have hz5 : (W1.alloc (.map #[] 0)).heap.size = W1.heap.size + 1 := by simp
    rw [hz5] at hc5
    try rw [HSZ.out]
    clear hmm d1 d2 d3 d4 hz5
    have HR := Lib.hid (HR.out.later (below_alloc (below_alloc (Below.refl _ _) _) _) : IntRow ((W1.alloc (.map #[] 0)).alloc (.cells #[.map (some W1.heap.size)] 73)) a len xs)
    generalize (W1.alloc (.map #[] 0)).alloc (.cells #[.map (some W1.heap.size)] 73) = w2 at *
    have hq5 := hc5.cell 0
    simp at hq5
    have HM0 := Lib.hid hM0
    have hlm : w.heap.size < W1.heap.size := hlt1
    clear hM0 hc5
    go_loopw [7, 19] (fun _ i wr => ∃ k : Nat, k ≤ len ∧ i = .int .i64 k ∧ IMap wr W1.heap.size k (sF (xs.take k)) ∧ wr.cell? ⟨W1.heap.size + 1, 0, none⟩ = some (.map (some W1.heap.size)) ∧ IntRow wr a len xs ∧ Below w.heap.size w wr) (fun _ i _ => len - (intOf i).toNat)
    case atStart => exact ⟨0, Nat.zero_le _, rfl, HM0.out, hq5, HR.out, hB0⟩
    case round =>
      clear hq5 hB0 HR
      obtain ⟨k, hk, rfl, hM, hq, hra, hb⟩ := hrel
      have HM := Lib.hid hM
      have HRA := Lib.hid hra
      clear hM
      have t1 : (0 : Int) ≤ (k : Int) := by omega
      by_cases hlt : k < len
      · obtain ⟨b, off, rfl, hc⟩ := hra.2.2 (by omega)
        have hck := hc k hlt
        have t2 : (k : Int) < (len : Int) := by omega
        have HT : Hid (xs.take (k + 1) = xs.take k ++ [xs.getD k 0]) := Lib.hid (take_snoc xs k (by rw [HL.out]; exact hlt))
        obtain ⟨n1, n2⟩ := HF.out _ (at_mem HL.out hlt)
        have HPK : Hid (∀ w7, wr.grownBy w7 (some W1.heap.size) → w7.cell? ⟨W1.heap.size + 1, 0, none⟩ = some (.map (some W1.heap.size))) := Lib.hid (fun w7 hg => keep_grown hg hq (by show some (W1.heap.size + 1) ≠ _; simp))
        have HPR : Hid (∀ w7, wr.grownBy w7 (some W1.heap.size) → IntRow w7 (some ⟨b, off, none⟩) len xs) := Lib.hid (fun w7 hg => by
          refine ⟨hra.1, hra.2.1, fun hp => ?_⟩
          refine ⟨b, off, rfl, fun i hi => keep_grown hg (hc i hi) ?_⟩
          have h0 := World.block_lt_of_cell? _ _ (hc i hi)
          show some b ≠ some W1.heap.size
          have hbm := HBM.out b off rfl (by omega)
          simp; omega)
        clear hc hra
        generalize xs.getD k 0 = z at *
        go_wp2_with (at_mapUpdate; refine wpList_mput rfl _ _ _ 73 rfl 74 Try.underlying73 W1.heap.size k _ rfl HM.out (by unfold maxLen; omega) z rfl n1 n2 (.agg #[]) rfl set_unit ?_)
        intro w7 hM7 hgr
        have hb7 := bel_grown hb hgr (by omega)
        have hq7 := HPK.out w7 hgr
        have hr7 := HPR.out w7 hgr
        rw [sF_push, ← HT.out] at hM7
        have HM7 := Lib.hid hM7
        clear hM7 hgr
        go_wp2_with fail
        go_roundw
        case rel => exact ⟨k + 1, by omega, by go_num, HM7.out, hq7, hr7, hb7⟩
        case measure => simp [intOf]; omega
      · have hkn : k = len := by omega
        subst hkn
        have HT : Hid (xs.take k = xs) := Lib.hid (List.take_of_length_le (by rw [HL.out]; exact Nat.le_refl _))
        go_wp2_with fail
        go_ret
        exact ⟨_, rfl, Or.inr ⟨W1.heap.size + 1, W1.heap.size, k, by omega, by omega, rfl, hq, by have h9 := HM.out; rw [HT.out] at h9; exact h9⟩, hb⟩
end Go.Proofs.Ytdladbfjgkejiaa
