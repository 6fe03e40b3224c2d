/- The reference's names, one by one, and the variable of a name by them. -/
import Derived.Test.YthfcbjfeepindaaNumV
import Derived.Test.YthfcbjfeepindaaOwn
namespace Go.Proofs.Ythfcbjfeepindaa
open Go.RowKit
set_option linter.unusedVariables false

def nmCells (n : Int × Int × Int) : List Value := [.int .i64 n.1, .int .i64 n.2.1, .int .i64 n.2.2]
/-- The cells of the first n names. -/
def namesVals (o s : Int) (n : Nat) : List Value := (List.range n).flatMap fun i : Nat => nmCells (nOf o s ((i : Int) + 1))
theorem namesVals_succ (o s : Int) (n : Nat) : namesVals o s (n + 1) = namesVals o s n ++ nmCells (nOf o s ((n : Int) + 1)) := by
  unfold namesVals; rw [List.range_succ, List.flatMap_append]; simp
theorem nOf_at {o s k a b : Int} (h : nName o s k a b) {n : Nat} (hn : (n : Int) = nAhead o s k + a * nB o s k + b) : nOf o s ((n : Int) + 1) = (k, a, b) := by
  have e : nVar o s k a b = (n : Int) + 1 := by unfold nVar; rw [if_pos h]; omega
  rw [← e]; exact nOf_var h

theorem info_name : (Try.prog.info? 32).map (fun i => (i.zero, i.size, i.bytes)) = some (some (.agg #[.int .i64 0, .int .i64 0, .int .i64 0]), 3, 24) := by kernel_rfl

theorem ref_Check31 (o s : Int) (w : World) : Calls Try.prog 26 #[.int .i64 o, .int .i64 s] w fun e w' => e = .returned (.int .i64 (nCheck o s)) ∧ w = w' := by
  go_enter Try.func26, Try.ntmps26
  go_wp2
  all_goals (go_returns; refine ⟨ret_int ?_, rfl⟩; first | rw [nCheck_yes (by unfold nOk; omega)] | rw [nCheck_no (by unfold nOk; omega)])

/-- What the walk of Names knows of the list at each moment. -/
def NL (o s : Int) (w : World) (n : Nat) (v : Value) (wr : World) : Prop := wr.ownsRow w.heap.size 32 3 v n (namesVals o s n) ∧ Below w.heap.size w wr


set_option maxHeartbeats 2000000 in
theorem ref_Names (o s : Int) (w : World) : Calls Try.prog 23 #[.int .i64 o, .int .i64 s] w fun e w' => ∃ v, e = .returned v ∧ NL o s w (nVars o s).toNat v w' := by
  obtain ⟨i0, hi, hz0, hz1, hz2⟩ := info_parts info_name
  by_cases hok : nOk o s
  · have hk : (nCheck o s != 0) = false := by rw [nCheck_yes hok]; rfl
    have HOK := Lib.hid hok
    obtain ⟨o1, o2, s1, s2⟩ := hok
    go_enter Try.func23, Try.ntmps23
    go_wp2_with (go_at_call 26; refine (ref_Check31 _ _ _).mono ?_; rintro e w' ⟨rfl, rfl⟩)
    go_loopw [5, 6] (fun v i wr => ∃ a n : Nat, (a : Int) ≤ o ∧ i = .int .i64 a ∧ (n : Int) = a * o ∧ NL o s w n v wr) (fun _ i _ => (64 - intOf i).toNat)
    case atStart => exact ⟨0, 0, by omega, rfl, by simp, own_nil _ _ _ _, Below.refl _ _⟩
    case round =>
      obtain ⟨a, n, ha, rfl, hn, hl⟩ := hrel
      have HN := Lib.hid hn; clear hn
      obtain ⟨wo, rfl⟩ : ∃ wo : World, wo = wr := ⟨_, rfl⟩
      by_cases hlt : (a : Int) < o
      · go_wp2_with fail
        go_loopw [5, 7] (fun v i wr => ∃ b n : Nat, (b : Int) ≤ o ∧ i = .int .i64 b ∧ (n : Int) = a * o + b ∧ NL o s w n v wr) (fun _ i _ => (64 - intOf i).toNat)
        case atStart => exact ⟨0, n, by omega, rfl, by rw [HN.out]; simp, hl⟩
        case round =>
          obtain ⟨b, m, hb, rfl, hm, hl⟩ := hrel
          have HM := Lib.hid hm; clear hm
          by_cases hlt2 : (b : Int) < o
          · obtain ⟨hown, hbel⟩ := hl
            have hx : nOf o s ((m : Int) + 1) = (1, (a : Int), (b : Int)) := nOf_at (k := 1) ⟨HOK.out, by omega, by omega, by omega, by simp [nA]; omega, by omega, by simp [nB]; omega⟩ (by rw [HM.out]; simp [nAhead, nB])
            have HX := Lib.hid (namesVals_succ o s m)
            have HY := Lib.hid hx; clear hx
            have m1 := mul_bd (x := (a : Int)) (y := o) (a := 64) (b := 64) (by omega) (by omega) (by omega) (by omega)
            have m2 : m ≤ 4160 := by have := HM.out; omega
            have m3 := hbel.size
            go_wp2_with (at_builtin; refine wpList_append_own _ rfl _ _ 28 rfl w.heap.size 32 i0 (.agg #[.int .i64 0, .int .i64 0, .int .i64 0]) 3 24 Try.underlying28 hi hz0 hz1 hz2 rfl (by decide) _ _ _ rfl (hown.alloc _) ⟨wr.heap.size, 0, none⟩ 1 1 [.int .i64 1, .int .i64 a, .int .i64 b] rfl rfl ?c1 ?c2 ?c3 ?c4 ?c5 ?_)
            case c1 => exact cells_new wr _ _
            case c2 => exact fun u hu => one_int u [1, (a : Int), (b : Int)] hu
            case c3 => unfold maxLen; omega
            case c4 => omega
            case c5 => simp; omega
            intro v' w1 hown1 hgr _
            have hn1 : NL o s w (m + 1) v' w1 := by
              refine ⟨?_, own_bel (below_alloc hbel _) (hown.alloc _) hgr⟩
              rw [HX.out, HY.out]; exact hown1
            clear hown1 hgr hown hbel
            go_wp2_with fail
            go_roundw
            case rel => exact ⟨b + 1, m + 1, by omega, by go_num, by have := HM.out; omega, hn1⟩
            case measure => simp [intOf]; omega
          · have hbo : (b : Int) = o := by omega
            have HBO := Lib.hid hbo; clear hbo
            go_wp2_with fail
            go_roundw
            case rel => exact ⟨a + 1, m, by omega, by go_num, by rw [HM.out, HBO.out, show ((a + 1 : Nat) : Int) = (a : Int) + 1 by omega, Int.add_mul, Int.one_mul], hl⟩
            case measure => simp [intOf]; omega
      · have hao : (a : Int) = o := by omega
        have HAO := Lib.hid hao; clear hao
        go_wp2_with fail
        go_loopw [5, 8] (fun v i wr => ∃ a n : Nat, (a : Int) ≤ o ∧ i = .int .i64 a ∧ (n : Int) = o * o + a ∧ NL o s w n v wr) (fun _ i _ => (64 - intOf i).toNat)
        case atStart => exact ⟨0, n, by omega, rfl, by rw [HN.out, HAO.out]; simp, hl⟩
        case round =>
          obtain ⟨a, m, hb, rfl, hm, hl⟩ := hrel
          have HM := Lib.hid hm; clear hm
          by_cases hlt2 : (a : Int) < o
          · obtain ⟨hown, hbel⟩ := hl
            have hx : nOf o s ((m : Int) + 1) = (2, (a : Int), 0) := nOf_at (k := 2) ⟨HOK.out, by omega, by omega, by omega, by simp [nA]; omega, by omega, by simp [nB]⟩ (by rw [HM.out]; simp [nAhead, nB])
            have HX := Lib.hid (namesVals_succ o s m)
            have HY := Lib.hid hx; clear hx
            have m1 := nOk_sq HOK.out
            have m2 : m ≤ 4160 := by have := HM.out; omega
            have m3 := hbel.size
            go_wp2_with (at_builtin; refine wpList_append_own _ rfl _ _ 28 rfl w.heap.size 32 i0 (.agg #[.int .i64 0, .int .i64 0, .int .i64 0]) 3 24 Try.underlying28 hi hz0 hz1 hz2 rfl (by decide) _ _ _ rfl (hown.alloc _) ⟨wr.heap.size, 0, none⟩ 1 1 [.int .i64 2, .int .i64 a, .int .i64 0] rfl rfl ?c1 ?c2 ?c3 ?c4 ?c5 ?_)
            case c1 => exact cells_new wr _ _
            case c2 => exact fun u hu => one_int u [2, (a : Int), 0] hu
            case c3 => unfold maxLen; omega
            case c4 => omega
            case c5 => simp; omega
            intro v' w1 hown1 hgr _
            have hn1 : NL o s w (m + 1) v' w1 := by
              refine ⟨?_, own_bel (below_alloc hbel _) (hown.alloc _) hgr⟩
              rw [HX.out, HY.out]; exact hown1
            clear hown1 hgr hown hbel
            go_wp2_with fail
            go_roundw
            case rel => exact ⟨a + 1, m + 1, by omega, by go_num, by have := HM.out; omega, hn1⟩
            case measure => simp [intOf]; omega
          · have HAO2 := Lib.hid (show (a : Int) = o by omega)
            go_wp2_with fail
            go_loopw [5, 9] (fun v i wr => ∃ a n : Nat, (a : Int) ≤ o + 1 ∧ i = .int .i64 a ∧ (n : Int) = o * o + o + a * s ∧ NL o s w n v wr) (fun _ i _ => (65 - intOf i).toNat)
            case atStart => exact ⟨0, m, by omega, rfl, by rw [HM.out, HAO2.out]; simp, hl⟩
            case round =>
              obtain ⟨a, n, ha, rfl, hn, hl⟩ := hrel
              have HN := Lib.hid hn; clear hn
              by_cases hlt3 : (a : Int) ≤ o
              · go_wp2_with fail
                go_loopw [5, 10] (fun v i wr => ∃ b n : Nat, (b : Int) ≤ s ∧ i = .int .i64 b ∧ (n : Int) = o * o + o + a * s + b ∧ NL o s w n v wr) (fun _ i _ => (64 - intOf i).toNat)
                case atStart => exact ⟨0, n, by omega, rfl, by rw [HN.out]; simp, hl⟩
                case round =>
                  obtain ⟨b, m, hb, rfl, hm, hl⟩ := hrel
                  have HM := Lib.hid hm; clear hm
                  by_cases hlt2 : (b : Int) < s
                  · obtain ⟨hown, hbel⟩ := hl
                    have hx : nOf o s ((m : Int) + 1) = (3, (a : Int), (b : Int)) := nOf_at (k := 3) ⟨HOK.out, by omega, by omega, by omega, by simp [nA]; omega, by omega, by simp [nB]; omega⟩ (by rw [HM.out]; simp [nAhead, nB])
                    have HX := Lib.hid (namesVals_succ o s m)
                    have HY := Lib.hid hx; clear hx
                    have m0 := nOk_sq HOK.out
                    have m1 := mul_bd (x := (a : Int)) (y := s) (a := 64) (b := 32) (by omega) (by omega) (by omega) (by omega)
                    have m2 : m ≤ 8000 := by have := HM.out; omega
                    have m3 := hbel.size
                    go_wp2_with (at_builtin; refine wpList_append_own _ rfl _ _ 28 rfl w.heap.size 32 i0 (.agg #[.int .i64 0, .int .i64 0, .int .i64 0]) 3 24 Try.underlying28 hi hz0 hz1 hz2 rfl (by decide) _ _ _ rfl (hown.alloc _) ⟨wr.heap.size, 0, none⟩ 1 1 [.int .i64 3, .int .i64 a, .int .i64 b] rfl rfl ?c1 ?c2 ?c3 ?c4 ?c5 ?_)
                    case c1 => exact cells_new wr _ _
                    case c2 => exact fun u hu => one_int u [3, (a : Int), (b : Int)] hu
                    case c3 => unfold maxLen; omega
                    case c4 => omega
                    case c5 => simp; omega
                    intro v' w1 hown1 hgr _
                    have hn1 : NL o s w (m + 1) v' w1 := by
                      refine ⟨?_, own_bel (below_alloc hbel _) (hown.alloc _) hgr⟩
                      rw [HX.out, HY.out]; exact hown1
                    clear hown1 hgr hown hbel
                    go_wp2_with fail
                    go_roundw
                    case rel => exact ⟨b + 1, m + 1, by omega, by go_num, by have := HM.out; omega, hn1⟩
                    case measure => simp [intOf]; omega
                  · have hbo : (b : Int) = s := by omega
                    have HBO := Lib.hid hbo; clear hbo
                    go_wp2_with fail
                    go_roundw
                    case rel => exact ⟨a + 1, m, by omega, by go_num, by rw [HM.out, HBO.out, show ((a + 1 : Nat) : Int) = (a : Int) + 1 by omega, Int.add_mul, Int.one_mul]; omega, hl⟩
                    case measure => simp [intOf]; omega
              · have hnn : n = (nVars o s).toNat := by
                  have := HN.out
                  rw [show (a : Int) = o + 1 by omega] at this
                  unfold nVars; rw [if_pos HOK.out]; simp [nAhead]; omega
                have HNN := Lib.hid hnn; clear hnn
                go_wp2_with fail
                go_ret
                exact ⟨_, rfl, by rw [← HNN.out]; exact hl⟩
  · have hk : (nCheck o s != 0) = true := by rw [nCheck_no hok]; rfl
    have e : nVars o s = 0 := by unfold nVars; rw [if_neg hok]
    rw [e]; clear e hok
    go_enter Try.func23, Try.ntmps23
    go_wp2_with (go_at_call 26; refine (ref_Check31 _ _ _).mono ?_; rintro e w' ⟨rfl, rfl⟩)
    go_returns
    exact ⟨.slice none 0 0, rfl, own_nil _ _ _ _, Below.refl _ _⟩

theorem namesVals_at (o s : Int) (n j : Nat) (h : j < n) (i : Nat) (hi : i < 3) : (namesVals o s n)[j * 3 + i]? = (nmCells (nOf o s ((j : Int) + 1)))[i]? := by
  induction n with
  | zero => omega
  | succ n ih =>
    have hl : ∀ n, (namesVals o s n).length = 3 * n := by
      intro n
      induction n with
      | zero => rfl
      | succ n ih => rw [namesVals_succ, List.length_append, ih]; simp [nmCells]; omega
    rw [namesVals_succ]
    by_cases hj : j < n
    · rw [List.getElem?_append_left (by rw [hl]; omega)]; exact ih hj
    · obtain rfl : j = n := by omega
      rw [List.getElem?_append_right (by rw [hl]; omega), hl, show j * 3 + i - 3 * j = i by omega]

theorem nOf_inj {o s : Int} {k a b : Int} {v : Int} (h1 : 1 ≤ v) (hv : v ≤ nVars o s) (h : nOf o s v = (k, a, b)) : nVar o s k a b = v := by
  have := (nOf_name h1 hv).2; rw [h] at this; exact this

set_option maxHeartbeats 2000000 in
theorem ref_Var31 (o s k a b : Int) (w : World) : Calls Try.prog 29 #[.int .i64 o, .int .i64 s, .agg #[.int .i64 k, .int .i64 a, .int .i64 b]] w fun e w' => e = .returned (.int .i64 (nVar o s k a b)) ∧ Below w.heap.size w w' := by
  have hb1 : Below w.heap.size w (w.alloc (.cells #[.int .i64 k, .int .i64 a, .int .i64 b] 32)) := by (repeat (first | (with_reducible exact Below.refl _ _) | (with_reducible assumption) | (with_reducible refine below_alloc ?_ _) | (with_reducible refine below_drew ?_) | (with_reducible refine below_drewN ?_ _) | (with_reducible refine below_step ?_ (by with_reducible assumption))))
  have hq := Blk.made w #[.int .i64 k, .int .i64 a, .int .i64 b] 32
  generalize hw1 : w.alloc (.cells #[.int .i64 k, .int .i64 a, .int .i64 b] 32) = w1 at hb1 hq
  have HW := Lib.hid hw1; clear hw1
  go_enter Try.func29, Try.ntmps29
  go_wp2_with fail
  rw [HW.out]
  refine (ref_Names _ _ _).mono ?_
  rintro e w2 ⟨v, rfl, hown, hb2⟩
  have hn : (nVars o s).toNat ≤ 6240 := by
    unfold nVars; split
    · rename_i h; have := nAhead_bd h 4; omega
    · simp
  have hN0 : ((nVars o s).toNat : Int) = nVars o s ∨ nVars o s = 0 := by
    unfold nVars; split
    · rename_i h; have := nAhead_bd h 4; left; omega
    · right; rfl
  generalize hN : (nVars o s).toNat = N at *
  have HN := Lib.hid hN; clear hN
  have HN0 := Lib.hid hN0; clear hN0
  obtain ⟨a0, cap, rfl, hc1, hc2, hrow⟩ := own_read hown
  have hq2 := hq.later hb2
  have c0 := hq2.cell 0; have c1 := hq2.cell 1; have c2 := hq2.cell 2
  simp at c0 c1 c2
  go_wp2_with fail
  go_loopw [8] (fun i wr => ∃ j : Nat, j ≤ N ∧ i = .int .i64 j ∧ (∀ m : Nat, m < j → nOf o s ((m : Int) + 1) ≠ (k, a, b)) ∧ Below w2.heap.size w2 wr) (fun i _ => N - (intOf i).toNat)
  case atStart => exact ⟨0, Nat.zero_le _, rfl, fun m hm => by omega, Below.refl _ _⟩
  case round =>
    obtain ⟨j, hj, rfl, hno, hb3⟩ := hrel
    have HNO := Lib.hid hno; clear hno
    have d0 := cell_later hb3 c0; have d1 := cell_later hb3 c1; have d2 := cell_later hb3 c2
    by_cases hlt : j < N
    · have r0 := hrow (j * 3 + 0) _ ((namesVals_at o s _ j hlt 0 (by omega)).trans rfl)
      have r1 := hrow (j * 3 + 1) _ ((namesVals_at o s _ j hlt 1 (by omega)).trans rfl)
      have r2 := hrow (j * 3 + 2) _ ((namesVals_at o s _ j hlt 2 (by omega)).trans rfl)
      obtain ⟨g, off, rfl, r0⟩ := r0
      obtain ⟨_, _, e1, r1⟩ := r1
      cases e1
      obtain ⟨_, _, e2, r2⟩ := r2
      cases e2
      have r0 := cell_later hb3 r0; have r1 := cell_later hb3 r1; have r2 := cell_later hb3 r2
      simp only [Nat.add_zero, ← Nat.add_assoc] at r0 r1 r2
      by_cases heq : nOf o s ((j : Int) + 1) = (k, a, b)
      · have hv : nVar o s k a b = (j : Int) + 1 := by
          have h1 := HN.out; have h2 := HN0.out
          exact nOf_inj (by omega) (by omega) heq
        have HV := Lib.hid hv
        rw [heq] at r0 r1 r2
        clear hv heq
        go_wp2_with fail
        go_quiet (fail)
        go_wp2_with fail
        go_ret
        exact ⟨ret_int (by rw [HV.out]), by (repeat (first | (with_reducible exact Below.refl _ _) | (with_reducible assumption) | (with_reducible refine below_alloc ?_ _) | (with_reducible refine below_drew ?_) | (with_reducible refine below_drewN ?_ _) | (with_reducible refine below_step ?_ (by with_reducible assumption))))⟩
      · have hne : ¬ (nOf o s ((j : Int) + 1)).1 = k ∨ ((nOf o s ((j : Int) + 1)).1 = k ∧ ¬ (nOf o s ((j : Int) + 1)).2.1 = a) ∨ ((nOf o s ((j : Int) + 1)).1 = k ∧ (nOf o s ((j : Int) + 1)).2.1 = a ∧ ¬ (nOf o s ((j : Int) + 1)).2.2 = b) := by
          by_cases h1 : (nOf o s ((j : Int) + 1)).1 = k
          · by_cases h2 : (nOf o s ((j : Int) + 1)).2.1 = a
            · by_cases h3 : (nOf o s ((j : Int) + 1)).2.2 = b
              · exact absurd (Prod.ext h1 (Prod.ext h2 h3)) heq
              · exact .inr (.inr ⟨h1, h2, h3⟩)
            · exact .inr (.inl ⟨h1, h2⟩)
          · exact .inl h1
        have HNE := Lib.hid heq; clear heq
        rcases hne with h1 | ⟨h1, h2⟩ | ⟨h1, h2, h3⟩
        all_goals
          go_wp2_with fail
          go_quiet (fail)
          go_wp2_with fail
          go_roundw
          case rel =>
            have hall : ∀ m : Nat, m < j + 1 → nOf o s ((m : Int) + 1) ≠ (k, a, b) := by
              intro m hm
              rcases Nat.lt_or_ge m j with h | h
              · exact HNO.out m h
              · obtain rfl : m = j := by omega
                exact HNE.out
            exact ⟨j + 1, by omega, by go_num, hall, by (repeat (first | (with_reducible exact Below.refl _ _) | (with_reducible assumption) | (with_reducible refine below_alloc ?_ _) | (with_reducible refine below_drew ?_) | (with_reducible refine below_drewN ?_ _) | (with_reducible refine below_step ?_ (by with_reducible assumption))))⟩
          case measure => simp [intOf]; omega
    · have hv : nVar o s k a b = 0 := by
        rw [nVar_zero]
        intro hname
        have h1 := nVar_pos hname
        have h2 := HN.out; have h3 := HN0.out
        have h4 := HNO.out (nVar o s k a b - 1).toNat (by omega)
        rw [show (((nVar o s k a b - 1).toNat : Nat) : Int) + 1 = nVar o s k a b by omega] at h4
        exact h4 (nOf_var hname)
      have HV := Lib.hid hv; clear hv
      go_wp2_with fail
      go_ret
      exact ⟨ret_int (by rw [HV.out]), by (repeat (first | (with_reducible exact Below.refl _ _) | (with_reducible assumption) | (with_reducible refine below_alloc ?_ _) | (with_reducible refine below_drew ?_) | (with_reducible refine below_drewN ?_ _) | (with_reducible refine below_step ?_ (by with_reducible assumption))))⟩
end Go.Proofs.Ythfcbjfeepindaa
