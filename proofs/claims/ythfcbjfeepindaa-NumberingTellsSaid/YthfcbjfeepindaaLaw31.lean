/- Layer 31's statements: NumberingTells, NumberingBack and NumberingAll are true for every input. -/
import Derived.Test.YthfcbjfeepindaaLift
import Derived.Test.YthfcbjfeepindaaNumV
namespace Go.Proofs.Ythfcbjfeepindaa
open Go.ChangeShapes Go.WideShapes Go.ChangeAt Go.RowKit
open Go.ChangeMaps (open_string shut_string)
set_option linter.unusedVariables false
set_option linter.unusedSimpArgs false

set_option maxHeartbeats 1000000 in
theorem law31_awake (w : World) : Calls Try.prog 22 #[] w fun e w' => e = .returned (.bool true) ∧ Below w.heap.size w w' := by
  have e1 : nOf 2 3 15 = (3, 2, 2) := by decide
  have e2 : nOfOk 2 3 15 = true := by decide
  have e3 : nOfOk 2 3 16 = false := by decide
  have e4 : nVars 2 3 = 15 := by decide
  have e5 : nVar 2 3 1 1 0 = 3 := by decide
  have e6 : nVar 2 3 2 0 0 = 5 := by decide
  have e7 : nVar 2 3 3 0 0 = 7 := by decide
  have e8 : nVar 2 3 1 2 0 = 0 := by decide
  have e9 : nCheck 2 3 = 0 := by decide
  have e10 : nCheck 65 1 = 2 := by decide
  have em : nmV (3, 2, 2) = .agg #[.int .i64 3, .int .i64 2, .int .i64 2] := rfl
  go_enter Try.func22, Try.ntmps22
  go_wp2_with fail
  refine (num_Of _ _ _ _).mono ?_
  rintro e w1 ⟨rfl, hb1⟩
  have hs1 : Blk w1 w.heap.size #[.int .i64 2, .int .i64 3] 23 := Blk.later (Blk.at _ _ _ rfl) hb1
  have q0 := hs1.cell 0
  have q1 := hs1.cell 1
  simp at q0 q1
  have hlt1 := hs1.lt
  go_wp2_with fail
  refine (num_Of _ _ _ _).mono ?_
  rintro e w2 ⟨rfl, hb2⟩
  have ha2 : Below w1.heap.size w1 w2 := below_step (below_alloc (Below.refl _ _) _) hb2
  have hs2 := hs1.later ha2
  have hn2 : Blk w2 w1.heap.size #[.int .i64 3, .int .i64 2, .int .i64 2] 25 := Blk.later (Blk.at _ _ _ rfl) hb2
  clear q0 q1
  have q0 := hs2.cell 0
  have q1 := hs2.cell 1
  simp at q0 q1
  have q2 := hn2.cell 0
  have q3 := hn2.cell 1
  have q4 := hn2.cell 2
  simp at q2 q3 q4
  have hlt2 := hn2.lt
  have hlt3 := hs2.lt
  have em0 : nmV (nOf 2 3 16) = .agg #[.int .i64 0, .int .i64 0, .int .i64 0] := rfl
  have hB2 : Below w.heap.size w w2 := below_step (below_step (below_alloc (Below.refl _ _) _) hb1) ha2
  clear hb1 ha2 hb2
  go_wp2_with (first | (go_at_call 27; refine (num_Vars _ _ _).mono ?_; rintro e w' ⟨rfl, hb⟩; have q0 := (hs2.later (w' := w') (by (repeat (first | (with_reducible exact Below.refl _ _) | (with_reducible assumption) | (with_reducible refine below_alloc ?_ _) | (with_reducible refine below_drew ?_) | (with_reducible refine below_drewN ?_ _) | (with_reducible refine below_step ?_ (by with_reducible assumption)))))).cell 0; have q1 := (hs2.later (w' := w') (by (repeat (first | (with_reducible exact Below.refl _ _) | (with_reducible assumption) | (with_reducible refine below_alloc ?_ _) | (with_reducible refine below_drew ?_) | (with_reducible refine below_drewN ?_ _) | (with_reducible refine below_step ?_ (by with_reducible assumption)))))).cell 1; have q2 := (hn2.later (w' := w') (by (repeat (first | (with_reducible exact Below.refl _ _) | (with_reducible assumption) | (with_reducible refine below_alloc ?_ _) | (with_reducible refine below_drew ?_) | (with_reducible refine below_drewN ?_ _) | (with_reducible refine below_step ?_ (by with_reducible assumption)))))).cell 0; have q3 := (hn2.later (w' := w') (by (repeat (first | (with_reducible exact Below.refl _ _) | (with_reducible assumption) | (with_reducible refine below_alloc ?_ _) | (with_reducible refine below_drew ?_) | (with_reducible refine below_drewN ?_ _) | (with_reducible refine below_step ?_ (by with_reducible assumption)))))).cell 1; have q4 := (hn2.later (w' := w') (by (repeat (first | (with_reducible exact Below.refl _ _) | (with_reducible assumption) | (with_reducible refine below_alloc ?_ _) | (with_reducible refine below_drew ?_) | (with_reducible refine below_drewN ?_ _) | (with_reducible refine below_step ?_ (by with_reducible assumption)))))).cell 2; simp at q0 q1 q2 q3 q4) | (go_at_call 28; refine (num_Var _ _ _ _ _ _).mono ?_; rintro e w' ⟨rfl, hb⟩; have q0 := (hs2.later (w' := w') (by (repeat (first | (with_reducible exact Below.refl _ _) | (with_reducible assumption) | (with_reducible refine below_alloc ?_ _) | (with_reducible refine below_drew ?_) | (with_reducible refine below_drewN ?_ _) | (with_reducible refine below_step ?_ (by with_reducible assumption)))))).cell 0; have q1 := (hs2.later (w' := w') (by (repeat (first | (with_reducible exact Below.refl _ _) | (with_reducible assumption) | (with_reducible refine below_alloc ?_ _) | (with_reducible refine below_drew ?_) | (with_reducible refine below_drewN ?_ _) | (with_reducible refine below_step ?_ (by with_reducible assumption)))))).cell 1; have q2 := (hn2.later (w' := w') (by (repeat (first | (with_reducible exact Below.refl _ _) | (with_reducible assumption) | (with_reducible refine below_alloc ?_ _) | (with_reducible refine below_drew ?_) | (with_reducible refine below_drewN ?_ _) | (with_reducible refine below_step ?_ (by with_reducible assumption)))))).cell 0; have q3 := (hn2.later (w' := w') (by (repeat (first | (with_reducible exact Below.refl _ _) | (with_reducible assumption) | (with_reducible refine below_alloc ?_ _) | (with_reducible refine below_drew ?_) | (with_reducible refine below_drewN ?_ _) | (with_reducible refine below_step ?_ (by with_reducible assumption)))))).cell 1; have q4 := (hn2.later (w' := w') (by (repeat (first | (with_reducible exact Below.refl _ _) | (with_reducible assumption) | (with_reducible refine below_alloc ?_ _) | (with_reducible refine below_drew ?_) | (with_reducible refine below_drewN ?_ _) | (with_reducible refine below_step ?_ (by with_reducible assumption)))))).cell 2; simp at q0 q1 q2 q3 q4) | (go_at_call 25; refine (num_Check _ _ _).mono ?_; rintro e w' ⟨rfl, hb⟩; have q0 := (hs2.later (w' := w') (by (repeat (first | (with_reducible exact Below.refl _ _) | (with_reducible assumption) | (with_reducible refine below_alloc ?_ _) | (with_reducible refine below_drew ?_) | (with_reducible refine below_drewN ?_ _) | (with_reducible refine below_step ?_ (by with_reducible assumption)))))).cell 0; have q1 := (hs2.later (w' := w') (by (repeat (first | (with_reducible exact Below.refl _ _) | (with_reducible assumption) | (with_reducible refine below_alloc ?_ _) | (with_reducible refine below_drew ?_) | (with_reducible refine below_drewN ?_ _) | (with_reducible refine below_step ?_ (by with_reducible assumption)))))).cell 1; have q2 := (hn2.later (w' := w') (by (repeat (first | (with_reducible exact Below.refl _ _) | (with_reducible assumption) | (with_reducible refine below_alloc ?_ _) | (with_reducible refine below_drew ?_) | (with_reducible refine below_drewN ?_ _) | (with_reducible refine below_step ?_ (by with_reducible assumption)))))).cell 0; have q3 := (hn2.later (w' := w') (by (repeat (first | (with_reducible exact Below.refl _ _) | (with_reducible assumption) | (with_reducible refine below_alloc ?_ _) | (with_reducible refine below_drew ?_) | (with_reducible refine below_drewN ?_ _) | (with_reducible refine below_step ?_ (by with_reducible assumption)))))).cell 1; have q4 := (hn2.later (w' := w') (by (repeat (first | (with_reducible exact Below.refl _ _) | (with_reducible assumption) | (with_reducible refine below_alloc ?_ _) | (with_reducible refine below_drew ?_) | (with_reducible refine below_drewN ?_ _) | (with_reducible refine below_step ?_ (by with_reducible assumption)))))).cell 2; simp at q0 q1 q2 q3 q4))


  go_returns
  refine ⟨rfl, ?_⟩
  refine below_step hB2 ?_
  (repeat (first | (with_reducible exact Below.refl _ _) | (with_reducible assumption) | (with_reducible refine below_alloc ?_ _) | (with_reducible refine below_drew ?_) | (with_reducible refine below_drewN ?_ _) | (with_reducible refine below_step ?_ (by with_reducible assumption))))

/-- How two names may stand to one another. -/
theorem nm_cases (k a b k' a' b' : Int) : (k = k' ∧ a = a' ∧ b = b') ∨ (k < k') ∨ (k' < k) ∨ (k = k' ∧ a < a') ∨ (k = k' ∧ a' < a) ∨ (k = k' ∧ a = a' ∧ b < b') ∨ (k = k' ∧ a = a' ∧ b' < b) := by omega


set_option maxHeartbeats 2000000 in
theorem numberingAll_walk (w : World) (o s : Int) (wo : (Lit.int .i64 o).wf = true) (ws : (Lit.int .i64 s).wf = true) (k a b : Int) (wk : (Lit.int .i64 k).wf = true) (wa : (Lit.int .i64 a).wf = true) (wb : (Lit.int .i64 b).wf = true)
    (k' a' b' : Int) (wk' : (Lit.int .i64 k').wf = true) (wa' : (Lit.int .i64 a').wf = true) (wb' : (Lit.int .i64 b').wf = true) :
    Calls Try.prog 5 #[.agg #[.int .i64 o, .int .i64 s], .agg #[.int .i64 k, .int .i64 a, .int .i64 b], .agg #[.int .i64 k', .int .i64 a', .int .i64 b']] w fun e w' => e = .returned (.bool true) ∧ Below w.heap.size w w' := by
  clear wo ws wk wa wb wk' wa' wb'
  have hb3 : Below w.heap.size w (((w.alloc (.cells #[.int .i64 o, .int .i64 s] 23)).alloc (.cells #[.int .i64 k, .int .i64 a, .int .i64 b] 25)).alloc (.cells #[.int .i64 k', .int .i64 a', .int .i64 b'] 25)) := by (repeat (first | (with_reducible exact Below.refl _ _) | (with_reducible assumption) | (with_reducible refine below_alloc ?_ _) | (with_reducible refine below_drew ?_) | (with_reducible refine below_drewN ?_ _) | (with_reducible refine below_step ?_ (by with_reducible assumption))))
  generalize hw3 : (((w.alloc (.cells #[.int .i64 o, .int .i64 s] 23)).alloc (.cells #[.int .i64 k, .int .i64 a, .int .i64 b] 25)).alloc (.cells #[.int .i64 k', .int .i64 a', .int .i64 b'] 25)) = w3 at hb3
  have c0 : w3.cell? ⟨w.heap.size, 0, none⟩ = some (.int .i64 o) := by subst hw3; simp [go_sem]
  have c1 : w3.cell? ⟨w.heap.size, 1, none⟩ = some (.int .i64 s) := by subst hw3; simp [go_sem]
  have c2 : w3.cell? ⟨w.heap.size + 1, 0, none⟩ = some (.int .i64 k) := by subst hw3; simp [go_sem]
  have c3 : w3.cell? ⟨w.heap.size + 1, 1, none⟩ = some (.int .i64 a) := by subst hw3; simp [go_sem]
  have c4 : w3.cell? ⟨w.heap.size + 1, 2, none⟩ = some (.int .i64 b) := by subst hw3; simp [go_sem]
  have c5 : w3.cell? ⟨w.heap.size + 1 + 1, 0, none⟩ = some (.int .i64 k') := by subst hw3; simp [go_sem]
  have c6 : w3.cell? ⟨w.heap.size + 1 + 1, 1, none⟩ = some (.int .i64 a') := by subst hw3; simp [go_sem]
  have c7 : w3.cell? ⟨w.heap.size + 1 + 1, 2, none⟩ = some (.int .i64 b') := by subst hw3; simp [go_sem]
  have HW3 := Lib.hid hw3; clear hw3
  have hpos : nVar o s k a b ≠ 0 → nName o s k a b := fun h => by by_cases hn : nName o s k a b; exact hn; exact absurd (nVar_zero.2 hn) h
  have hpos' : nVar o s k' a' b' ≠ 0 → nName o s k' a' b' := fun h => by by_cases hn : nName o s k' a' b'; exact hn; exact absurd (nVar_zero.2 hn) h
  have hck : nVar o s k a b ≠ 0 → (nCheck o s == 0) = true := fun h => by rw [nCheck_yes (hpos h).1]; rfl
  have HC := Lib.hid hck
  have HL := Lib.hid (fun (h : nVar o s k a b ≠ 0) (h' : nVar o s k' a' b' ≠ 0) hl => nVar_lt (hpos h) (hpos' h') hl)
  have HG := Lib.hid (fun (h : nVar o s k a b ≠ 0) (h' : nVar o s k' a' b' ≠ 0) hl => nVar_lt (hpos' h') (hpos h) hl)
  have hB1 : 0 ≤ nVar o s k a b := by by_cases h : nVar o s k a b = 0; omega; have := nVar_pos (hpos h); omega
  have hB2 : 0 ≤ nVar o s k' a' b' := by by_cases h : nVar o s k' a' b' = 0; omega; have := nVar_pos (hpos' h); omega
  clear hck hpos hpos'
  go_enter Try.func5, Try.ntmps5
  go_wp2_with fail
  rw [HW3.out]
  go_region_held3 (fun wx => Below w3.heap.size w3 wx ∧ wx.cell? ⟨w.heap.size, 0, none⟩ = some (.int .i64 o) ∧ wx.cell? ⟨w.heap.size, 1, none⟩ = some (.int .i64 s) ∧ wx.cell? ⟨w.heap.size + 1, 0, none⟩ = some (.int .i64 k) ∧ wx.cell? ⟨w.heap.size + 1, 1, none⟩ = some (.int .i64 a) ∧ wx.cell? ⟨w.heap.size + 1, 2, none⟩ = some (.int .i64 b) ∧ wx.cell? ⟨w.heap.size + 1 + 1, 0, none⟩ = some (.int .i64 k') ∧ wx.cell? ⟨w.heap.size + 1 + 1, 1, none⟩ = some (.int .i64 a') ∧ wx.cell? ⟨w.heap.size + 1 + 1, 2, none⟩ = some (.int .i64 b')) ((refine ⟨?_, ?_, ?_, ?_, ?_, ?_, ?_, ?_, ?_⟩; (repeat (first | (with_reducible exact Below.refl _ _) | (with_reducible assumption) | (with_reducible refine below_alloc ?_ _) | (with_reducible refine below_drew ?_) | (with_reducible refine below_drewN ?_ _) | (with_reducible refine below_step ?_ (by with_reducible assumption)))); all_goals (refine cell_later (w := w3) ?_ ?_ <;> (repeat (first | (with_reducible exact Below.refl _ _) | (with_reducible assumption) | (with_reducible refine below_alloc ?_ _) | (with_reducible refine below_drew ?_) | (with_reducible refine below_drewN ?_ _) | (with_reducible refine below_step ?_ (by with_reducible assumption))))))) (first | (go_at_call 28; refine (num_Var _ _ _ _ _ _).mono ?_; rintro e w' ⟨rfl, hb⟩))
  rename_i hHeld
  obtain ⟨hB3, q0, q1, q2, q3, q4, q5, q6, q7⟩ := hHeld
  have hB : Below w.heap.size w _ := below_step hb3 hB3
  clear hb3 hB3 c0 c1 c2 c3 c4 c5 c6 c7
  by_cases hx : nVar o s k a b = 0
  · go_wp2_with (go_at_call 22; refine (law31_awake _).mono ?_; rintro e w' ⟨rfl, hbAw⟩)
    all_goals (go_returns; exact ⟨rfl, by (repeat (first | (with_reducible exact Below.refl _ _) | (with_reducible assumption) | (with_reducible refine below_alloc ?_ _) | (with_reducible refine below_drew ?_) | (with_reducible refine below_drewN ?_ _) | (with_reducible refine below_step ?_ (by with_reducible assumption))))⟩)
  · by_cases hy : nVar o s k' a' b' = 0
    · have hd := nm_cases k a b k' a' b'
      rcases hd with ⟨rfl, rfl, rfl⟩ | hd | hd | ⟨rfl, hd⟩ | ⟨rfl, hd⟩ | ⟨rfl, rfl, hd⟩ | ⟨rfl, rfl, hd⟩
      · exact absurd hy hx
      all_goals
        go_wp2_with (go_at_call 22; refine (law31_awake _).mono ?_; rintro e w' ⟨rfl, hbAw⟩)
        all_goals (go_returns; exact ⟨rfl, by (repeat (first | (with_reducible exact Below.refl _ _) | (with_reducible assumption) | (with_reducible refine below_alloc ?_ _) | (with_reducible refine below_drew ?_) | (with_reducible refine below_drewN ?_ _) | (with_reducible refine below_step ?_ (by with_reducible assumption))))⟩)
    · have hk := HC.out hx
      have hd := nm_cases k a b k' a' b'
      rcases hd with ⟨rfl, rfl, rfl⟩ | hd | hd | ⟨rfl, hd⟩ | ⟨rfl, hd⟩ | ⟨rfl, rfl, hd⟩ | ⟨rfl, rfl, hd⟩
      · go_wp2_with (first | (go_at_call 22; refine (law31_awake _).mono ?_; rintro e w' ⟨rfl, hbAw⟩) | (go_at_call 25; refine (num_Check _ _ _).mono ?_; rintro e w' ⟨rfl, hb⟩))
        all_goals (go_returns; exact ⟨rfl, by (repeat (first | (with_reducible exact Below.refl _ _) | (with_reducible assumption) | (with_reducible refine below_alloc ?_ _) | (with_reducible refine below_drew ?_) | (with_reducible refine below_drewN ?_ _) | (with_reducible refine below_step ?_ (by with_reducible assumption))))⟩)
      · have hlt := HL.out hx hy (by omega)
        have t1 : decide (nVar o s k a b < nVar o s k' a' b') = true := by simpa using hlt
        have t2 : decide (k < k') = true := by simpa using hd
        go_wp2_with (first | (go_at_call 22; refine (law31_awake _).mono ?_; rintro e w' ⟨rfl, hbAw⟩) | (go_at_call 25; refine (num_Check _ _ _).mono ?_; rintro e w' ⟨rfl, hb⟩)); all_goals (go_returns; exact ⟨rfl, by (repeat (first | (with_reducible exact Below.refl _ _) | (with_reducible assumption) | (with_reducible refine below_alloc ?_ _) | (with_reducible refine below_drew ?_) | (with_reducible refine below_drewN ?_ _) | (with_reducible refine below_step ?_ (by with_reducible assumption))))⟩)
      · have hlt := HG.out hx hy (by omega)
        have t1 : decide (nVar o s k a b < nVar o s k' a' b') = false := by simp; omega
        have t2 : decide (k < k') = false := by simp; omega
        go_wp2_with (first | (go_at_call 22; refine (law31_awake _).mono ?_; rintro e w' ⟨rfl, hbAw⟩) | (go_at_call 25; refine (num_Check _ _ _).mono ?_; rintro e w' ⟨rfl, hb⟩)); all_goals (go_returns; exact ⟨rfl, by (repeat (first | (with_reducible exact Below.refl _ _) | (with_reducible assumption) | (with_reducible refine below_alloc ?_ _) | (with_reducible refine below_drew ?_) | (with_reducible refine below_drewN ?_ _) | (with_reducible refine below_step ?_ (by with_reducible assumption))))⟩)
      · have hlt := HL.out hx hy (by omega)
        have t1 : decide (nVar o s k a b < nVar o s k a' b') = true := by simpa using hlt
        have t2 : decide (a < a') = true := by simpa using hd
        go_wp2_with (first | (go_at_call 22; refine (law31_awake _).mono ?_; rintro e w' ⟨rfl, hbAw⟩) | (go_at_call 25; refine (num_Check _ _ _).mono ?_; rintro e w' ⟨rfl, hb⟩)); all_goals (go_returns; exact ⟨rfl, by (repeat (first | (with_reducible exact Below.refl _ _) | (with_reducible assumption) | (with_reducible refine below_alloc ?_ _) | (with_reducible refine below_drew ?_) | (with_reducible refine below_drewN ?_ _) | (with_reducible refine below_step ?_ (by with_reducible assumption))))⟩)
      · have hlt := HG.out hx hy (by omega)
        have t1 : decide (nVar o s k a b < nVar o s k a' b') = false := by simp; omega
        have t2 : decide (a < a') = false := by simp; omega
        go_wp2_with (first | (go_at_call 22; refine (law31_awake _).mono ?_; rintro e w' ⟨rfl, hbAw⟩) | (go_at_call 25; refine (num_Check _ _ _).mono ?_; rintro e w' ⟨rfl, hb⟩)); all_goals (go_returns; exact ⟨rfl, by (repeat (first | (with_reducible exact Below.refl _ _) | (with_reducible assumption) | (with_reducible refine below_alloc ?_ _) | (with_reducible refine below_drew ?_) | (with_reducible refine below_drewN ?_ _) | (with_reducible refine below_step ?_ (by with_reducible assumption))))⟩)
      · have hlt := HL.out hx hy (by omega)
        have t1 : decide (nVar o s k a b < nVar o s k a b') = true := by simpa using hlt
        have t2 : decide (b < b') = true := by simpa using hd
        go_wp2_with (first | (go_at_call 22; refine (law31_awake _).mono ?_; rintro e w' ⟨rfl, hbAw⟩) | (go_at_call 25; refine (num_Check _ _ _).mono ?_; rintro e w' ⟨rfl, hb⟩)); all_goals (go_returns; exact ⟨rfl, by (repeat (first | (with_reducible exact Below.refl _ _) | (with_reducible assumption) | (with_reducible refine below_alloc ?_ _) | (with_reducible refine below_drew ?_) | (with_reducible refine below_drewN ?_ _) | (with_reducible refine below_step ?_ (by with_reducible assumption))))⟩)
      · have hlt := HG.out hx hy (by omega)
        have t1 : decide (nVar o s k a b < nVar o s k a b') = false := by simp; omega
        have t2 : decide (b < b') = false := by simp; omega
        go_wp2_with (first | (go_at_call 22; refine (law31_awake _).mono ?_; rintro e w' ⟨rfl, hbAw⟩) | (go_at_call 25; refine (num_Check _ _ _).mono ?_; rintro e w' ⟨rfl, hb⟩)); all_goals (go_returns; exact ⟨rfl, by (repeat (first | (with_reducible exact Below.refl _ _) | (with_reducible assumption) | (with_reducible refine below_alloc ?_ _) | (with_reducible refine below_drew ?_) | (with_reducible refine below_drewN ?_ _) | (with_reducible refine below_step ?_ (by with_reducible assumption))))⟩)
end Go.Proofs.Ythfcbjfeepindaa
