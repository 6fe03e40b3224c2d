/- What layer 32 answers outside its sizes; and the answers that its statements ask: awake. -/
import Derived.Test.YthfcbjfeepindaaPlaZ
import Derived.Test.YthfcbjfeepindaaSame
namespace Go.Proofs.Ythfcbjfeepindaa
open Go.RowKit
set_option linter.unusedVariables false

theorem pla_Order_no (o s : Int) (ma : Option Addr) (ml mc : Nat) (w : World) (h : ¬ nOk o s ∨ (ml : Int) ≠ nVars o s) :
    Calls Try.prog 36 #[.agg #[.int .i64 o, .int .i64 s], .slice ma ml mc] w fun e w' => e = .returned (.tuple #[.slice none 0 0, .bool false]) ∧ Below w.heap.size w w' := by
  by_cases hok : nOk o s
  · have hk : (nCheck o s != 0) = false := by rw [nCheck_yes hok]; rfl
    have hv : ((ml : Int) != nVars o s) = true := by rcases h with h | h; exact absurd hok h; simpa using h
    clear h hok
    go_enter Try.func36, Try.ntmps36
    go_wp2_with fail
    refine (num_Check _ _ _).mono ?_
    rintro e w1 ⟨rfl, hb1⟩
    have c0 : w1.cell? ⟨w.heap.size, 0, none⟩ = some (.int .i64 o) := cell_later hb1 (by simp)
    have c1 : w1.cell? ⟨w.heap.size, 1, none⟩ = some (.int .i64 s) := cell_later hb1 (by simp)
    go_wp2_with (go_at_call 27; refine (num_Vars _ _ _).mono ?_; rintro e w' ⟨rfl, hb2⟩)
    go_ret2
    exact ⟨rfl, by (repeat (first | (with_reducible exact Below.refl _ _) | (with_reducible assumption) | (with_reducible refine below_alloc ?_ _) | (with_reducible refine below_drew ?_) | (with_reducible refine below_drewN ?_ _) | (with_reducible refine below_step ?_ (by with_reducible assumption))))⟩
  · have hk : (nCheck o s != 0) = true := by rw [nCheck_no hok]; rfl
    clear h hok
    go_enter Try.func36, Try.ntmps36
    go_wp2_with (go_at_call 25; refine (num_Check _ _ _).mono ?_; rintro e w' ⟨rfl, hb2⟩)
    go_ret2
    exact ⟨rfl, by (repeat (first | (with_reducible exact Below.refl _ _) | (with_reducible assumption) | (with_reducible refine below_alloc ?_ _) | (with_reducible refine below_drew ?_) | (with_reducible refine below_drewN ?_ _) | (with_reducible refine below_step ?_ (by with_reducible assumption))))⟩

theorem pla_Truths_no (o s : Int) (ma : Option Addr) (ml mc : Nat) (w : World) (h : ¬ nOk o s ∨ (ml : Int) ≠ o) :
    Calls Try.prog 38 #[.agg #[.int .i64 o, .int .i64 s], .slice ma ml mc] w fun e w' => e = .returned (.tuple #[.slice none 0 0, .bool false]) ∧ Below w.heap.size w w' := by
  by_cases hok : nOk o s
  · have hk : (nCheck o s != 0) = false := by rw [nCheck_yes hok]; rfl
    have hv : ((ml : Int) != o) = true := by rcases h with h | h; exact absurd hok h; simpa using h
    clear h hok
    go_enter Try.func38, Try.ntmps38
    go_wp2_with fail
    refine (num_Check _ _ _).mono ?_
    rintro e w1 ⟨rfl, hb1⟩
    have c0 : w1.cell? ⟨w.heap.size, 0, none⟩ = some (.int .i64 o) := cell_later hb1 (by simp)
    have c1 : w1.cell? ⟨w.heap.size, 1, none⟩ = some (.int .i64 s) := cell_later hb1 (by simp)
    go_wp2_with fail
    go_ret2
    exact ⟨rfl, by (repeat (first | (with_reducible exact Below.refl _ _) | (with_reducible assumption) | (with_reducible refine below_alloc ?_ _) | (with_reducible refine below_drew ?_) | (with_reducible refine below_drewN ?_ _) | (with_reducible refine below_step ?_ (by with_reducible assumption))))⟩
  · have hk : (nCheck o s != 0) = true := by rw [nCheck_no hok]; rfl
    clear h hok
    go_enter Try.func38, Try.ntmps38
    go_wp2_with (go_at_call 25; refine (num_Check _ _ _).mono ?_; rintro e w' ⟨rfl, hb2⟩)
    go_ret2
    exact ⟨rfl, by (repeat (first | (with_reducible exact Below.refl _ _) | (with_reducible assumption) | (with_reducible refine below_alloc ?_ _) | (with_reducible refine below_drew ?_) | (with_reducible refine below_drewN ?_ _) | (with_reducible refine below_step ?_ (by with_reducible assumption))))⟩

theorem ref_Order_no (o s : Int) (ma : Option Addr) (ml mc : Nat) (w : World) (h : ¬ nOk o s ∨ (ml : Int) ≠ nVars o s) :
    Calls Try.prog 37 #[.int .i64 o, .int .i64 s, .slice ma ml mc] w fun e w' => e = .returned (.tuple #[.slice none 0 0, .bool false]) ∧ w = w' := by
  by_cases hok : nOk o s
  · have hk : (nCheck o s != 0) = false := by rw [nCheck_yes hok]; rfl
    have q1 := nOk_sq hok
    have q2 := nOk_st hok
    have hnv : nVars o s = o * o + o + (o + 1) * s := by unfold nVars; rw [if_pos hok]; simp [nAhead]
    have hv : ((ml : Int) != o * o + o + (o + 1) * s) = true := by rcases h with h | h; exact absurd hok h; rw [hnv] at h; simpa using h
    obtain ⟨k1, k2, k3, k4⟩ := hok
    clear h hnv
    go_enter Try.func37, Try.ntmps37
    go_wp2_with (go_at_call 26; refine (ref_Check31 _ _ _).mono ?_; rintro e w' ⟨rfl, rfl⟩)
    go_ret2
    exact ⟨rfl, rfl⟩
  · have hk : (nCheck o s != 0) = true := by rw [nCheck_no hok]; rfl
    clear h hok
    go_enter Try.func37, Try.ntmps37
    go_wp2_with (go_at_call 26; refine (ref_Check31 _ _ _).mono ?_; rintro e w' ⟨rfl, rfl⟩)
    go_ret2
    exact ⟨rfl, rfl⟩

theorem ref_Truths_no (o s : Int) (ma : Option Addr) (ml mc : Nat) (w : World) (h : ¬ nOk o s ∨ (ml : Int) ≠ o) :
    Calls Try.prog 39 #[.int .i64 o, .int .i64 s, .slice ma ml mc] w fun e w' => e = .returned (.tuple #[.slice none 0 0, .bool false]) ∧ w = w' := by
  by_cases hok : nOk o s
  · have hk : (nCheck o s != 0) = false := by rw [nCheck_yes hok]; rfl
    have hv : ((ml : Int) != o) = true := by rcases h with h | h; exact absurd hok h; simpa using h
    clear h hok
    go_enter Try.func39, Try.ntmps39
    go_wp2_with (go_at_call 26; refine (ref_Check31 _ _ _).mono ?_; rintro e w' ⟨rfl, rfl⟩)
    go_ret2
    exact ⟨rfl, rfl⟩
  · have hk : (nCheck o s != 0) = true := by rw [nCheck_no hok]; rfl
    clear h hok
    go_enter Try.func39, Try.ntmps39
    go_wp2_with (go_at_call 26; refine (ref_Check31 _ _ _).mono ?_; rintro e w' ⟨rfl, rfl⟩)
    go_ret2
    exact ⟨rfl, rfl⟩

theorem law32_two (w : World) : Calls Try.prog 78 #[] w fun e w' => e = .returned (.agg #[.int .i64 2, .int .i64 1]) ∧ Below w.heap.size w w' := by
  go_enter Try.func78, Try.ntmps78
  go_wp2
  go_returns
  exact ⟨rfl, by (repeat (first | (with_reducible exact Below.refl _ _) | (with_reducible assumption) | (with_reducible refine below_alloc ?_ _) | (with_reducible refine below_drew ?_) | (with_reducible refine below_drewN ?_ _) | (with_reducible refine below_step ?_ (by with_reducible assumption))))⟩

theorem BoolRow.made (w : World) (t : TypeId) (xs : List Bool) (hm : xs.length ≤ maxLen) : BoolRow (w.alloc (.cells (xs.map Value.bool).toArray t)) (some ⟨w.heap.size, 0, none⟩) xs.length xs :=
  ⟨rfl, hm, fun _ => ⟨w.heap.size, 0, rfl, fun i hi => by
    have h : (w.alloc (.cells (xs.map Value.bool).toArray t)).cell? ⟨w.heap.size, i, none⟩ = (xs.map Value.bool)[i]? := by
      simp [go_sem]
    rw [Nat.zero_add, h]; simp [hi, List.getD]⟩⟩

theorem ord21 : Ord 2 (Mx 2 [false, true, true, false, false, false, false, false, false]) [1, 0] := by
  refine ⟨rfl, fun k hk => ?_, fun j k hj hk h => ?_⟩
  · rcases k with _ | _ | k
    · refine ⟨1, by omega, rfl, fun b hb => ?_⟩
      rcases b with _ | _ | b
      · decide
      · decide
      · omega
    · refine ⟨0, by omega, rfl, fun b hb => ?_⟩
      rcases b with _ | _ | b
      · decide
      · decide
      · omega
    · omega
  · rcases j with _ | _ | j <;> rcases k with _ | _ | k <;> first | omega | (simp at h)
theorem noOrd2 (l : List Int) : ¬ Ord 2 (Mx 2 [true, true, false, false, false, false, false, false, false]) l := by
  intro h
  obtain ⟨k, hk, _, hm⟩ := h.row (a := 0) (by omega)
  have h0 := (hm 0 (by omega)).1 (by decide)
  have h1 := (hm 1 (by omega)).1 (by decide)
  omega
theorem pm10 : Pm 2 2 [1, 0] := by
  refine ⟨fun k hk => ?_, fun j k hj hk h => ?_⟩
  · rcases k with _ | _ | k
    · exact ⟨1, by omega, rfl⟩
    · exact ⟨0, by omega, rfl⟩
    · omega
  · rcases j with _ | _ | j <;> rcases k with _ | _ | k <;> first | omega | (simp at h)
theorem noPm11 : ¬ Pm 2 2 [1, 1] := fun h => by have := h.2 0 1 (by omega) (by omega) rfl; omega
theorem tru10 : IsTru 2 2 9 [1, 0] [false, true, true, false, false, false, false, false, false] := by
  refine ⟨rfl, fun i hi => ?_⟩
  have h01 : (∃ j, j < 2 ∧ ([1, 0] : List Int).getD j 0 * (2 : Nat) + j = (i : Int)) ↔ i = 2 ∨ i = 1 := by
    constructor
    · rintro ⟨j, hj, e⟩
      rcases j with _ | _ | j
      · left; simp at e; omega
      · right; simp at e; omega
      · omega
    · rintro (rfl | rfl)
      · exact ⟨0, by omega, rfl⟩
      · exact ⟨1, by omega, rfl⟩
  rw [h01]
  have : i = 0 ∨ i = 1 ∨ i = 2 ∨ i = 3 ∨ i = 4 ∨ i = 5 ∨ i = 6 ∨ i = 7 ∨ i = 8 := by omega
  rcases this with rfl | rfl | rfl | rfl | rfl | rfl | rfl | rfl | rfl <;> simp
end Go.Proofs.Ythfcbjfeepindaa
