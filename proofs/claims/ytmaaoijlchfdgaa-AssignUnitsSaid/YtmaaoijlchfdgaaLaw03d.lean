/- Layer 3: AssignUnits. -/
import Derived.Test.YtmaaoijlchfdgaaAsgA
import Derived.Test.YtmaaoijlchfdgaaAsgQ
import Derived.Test.YtmaaoijlchfdgaaApp
namespace Go.Proofs.Ytmaaoijlchfdgaa
open Go.RowKit
set_option linter.unusedVariables false
set_option linter.unusedSimpArgs false

theorem IntRow.cellRow {w : World} {a : Option Addr} {len : Nat} {xs : List Int} (h : IntRow w a len xs) : CellRow w a (xs.map (Value.int .i64)) := fun j u hj => by
  obtain ⟨hj', rfl⟩ := List.getElem?_eq_some_iff.1 hj
  rw [List.length_map] at hj'
  obtain ⟨b, off, rfl, hc⟩ := h.2.2 (by rw [← h.1]; omega)
  refine ⟨b, off, rfl, ?_⟩
  rw [hc j (by rw [← h.1]; exact hj')]
  simp [List.getD, hj']
/-- A list and one number behind it, as append makes them. -/
theorem ownInts_snoc {w : World} {B len : Nat} {v : Value} {l : List Int} {u : Int} (hl : l.length = len) (h : w.ownsRow B 3 1 v (len + 1) (l.map (Value.int .i64) ++ [.int .i64 u])) : OwnInts w B v (l ++ [u]) := by
  have e1 : (l ++ [u]).length = len + 1 := by simp [hl]
  have e2 : (l ++ [u]).map (Value.int .i64) = l.map (Value.int .i64) ++ [.int .i64 u] := by simp
  unfold OwnInts
  rw [e1, e2]
  exact h
theorem fits_snoc {l : List Int} {u : Int} (hf : Fits' l) (hu : -9223372036854775808 ≤ u ∧ u ≤ 9223372036854775807) : Fits' (l ++ [u]) := fun x hx => by
  rcases List.mem_append.1 hx with h | h
  · exact hf x h
  · rw [List.mem_singleton.1 h]; exact hu
theorem aMany_le (c : List Int) : aMany c ≤ c.length := by unfold aMany; exact List.length_filter_le _ _
theorem aUnit_not {l c : List Int} (h : aUnitOk l c = false) : aUnit l c = 0 := by unfold aUnit; rw [h]; rfl
theorem aUnit_fits {l c : List Int} (hf : Fits' c) (h : aUnitOk l c = true) : -9223372036854775808 < aUnit l c ∧ aUnit l c ≤ 9223372036854775807 := by
  obtain ⟨u, _, e, hm, hv, _⟩ := aUnit_is h
  rw [e]
  have := hf u hm
  have := lvar_range hv
  omega

set_option maxRecDepth 100000 in
set_option maxHeartbeats 8000000 in
theorem assignUnits_walk (w : World) (a : Option Addr) (len cap : Nat) (l : List Int) (hr : IntRow w a len l) (hf : Fits' l) (hcap : len ≤ cap ∧ cap ≤ maxLen ∧ (a = none → cap = 0)) (a2 : Option Addr) (len2 cap2 : Nat) (c : List Int) (hr2 : IntRow w a2 len2 c) (hf2 : Fits' c) (hcap2 : len2 ≤ cap2 ∧ cap2 ≤ maxLen ∧ (a2 = none → cap2 = 0))
    (vars : Int) (wv : (Lit.int .i64 vars).wf = true) :
    Calls Try.prog 6 #[.slice a len cap, .slice a2 len2 cap2, .int .i64 vars] w fun e w' => e = .returned (.bool true) ∧ Below w.heap.size w w' := by
  have HCN := Lib.hid hcap.2.2
  clear wv hcap hcap2
  have HR := Lib.hid hr; have HR2 := Lib.hid hr2
  have HL := Lib.hid hr.1; have HL2 := Lib.hid hr2.1
  have HF := Lib.hid hf; have HF2 := Lib.hid hf2
  have d5 : decide (200 < (len : Int)) = decide (200 < len) := by rw [Bool.eq_iff_iff]; simp; omega
  have d6 : decide (200 < (len2 : Int)) = decide (200 < len2) := by rw [Bool.eq_iff_iff]; simp; omega
  clear hr hr2 hf hf2
  by_cases h1 : 200 < len
  · rw [decide_eq_true h1] at d5
    clear h1 d6
    go_enter Try.func6, Try.ntmps6
    go_wp2_with (go_at_call 7; refine (law03_awake _).mono ?_; rintro e w' ⟨rfl, hbAw⟩)
    all_goals (go_returns; exact ⟨rfl, by (repeat (first | (with_reducible exact Below.refl _ _) | (with_reducible assumption) | (with_reducible refine below_alloc ?_ _) | (with_reducible refine below_drew ?_) | (with_reducible refine below_drewN ?_ _) | (with_reducible refine below_step ?_ (by with_reducible assumption))))⟩)
  · rw [decide_eq_false h1] at d5
    by_cases h2 : 200 < len2
    · rw [decide_eq_true h2] at d6
      clear h1 h2
      go_enter Try.func6, Try.ntmps6
      go_wp2_with (go_at_call 7; refine (law03_awake _).mono ?_; rintro e w' ⟨rfl, hbAw⟩)
      all_goals (go_returns; exact ⟨rfl, by (repeat (first | (with_reducible exact Below.refl _ _) | (with_reducible assumption) | (with_reducible refine below_alloc ?_ _) | (with_reducible refine below_drew ?_) | (with_reducible refine below_drewN ?_ _) | (with_reducible refine below_step ?_ (by with_reducible assumption))))⟩)
    · rw [decide_eq_false h2] at d6
      have HM := Lib.hid (show len ≤ 200 ∧ len2 ≤ 200 by omega)
      obtain ⟨h, hh⟩ : ∃ h, aN l c 1 = h := ⟨_, rfl⟩
      obtain ⟨g, hg⟩ : ∃ h, aN l c (-1) = h := ⟨_, rfl⟩
      obtain ⟨o, ho⟩ : ∃ h, aN l c 0 = h := ⟨_, rfl⟩
      have HC : Hid (aN l c 1 = h ∧ aN l c (-1) = g ∧ aN l c 0 = o) := Lib.hid ⟨hh, hg, ho⟩
      obtain ⟨S, hS⟩ : ∃ S, aMany c = S := ⟨_, rfl⟩
      have HSM := Lib.hid hS
      have HSUM : Hid (h + g + o = S) := Lib.hid (by rw [← hh, ← hg, ← ho, ← hS]; exact aMany_sum l c)
      have HB : Hid (h ≤ 200 ∧ g ≤ 200 ∧ o ≤ 200) := Lib.hid (by
        have e1 := aN_le l c 1; have e2 := aN_le l c (-1); have e3 := aN_le l c 0
        rw [HL2.out] at e1 e2 e3
        omega)
      clear h1 h2 hh hg ho hS
      go_enter Try.func6, Try.ntmps6
      go_wp2_with fail
      refine (asg_CountE _ _ _ l _ _ _ c _ HR.out HR2.out (by have := HM.out; omega) (by have := HM.out; omega) HF.out HF2.out h g o HC.out).mono ?_
      rintro e w1 ⟨rfl, hb1⟩
      have hs2 := Blk.made w1 #[.int .i64 h, .int .i64 g, .int .i64 o] 31
      have hb2 : Below w1.heap.size w1 (w1.alloc (.cells #[.int .i64 h, .int .i64 g, .int .i64 o] 31)) := below_alloc (Below.refl _ _) _
      go_wp2_with fail
      generalize hw2 : w1.alloc (.cells #[.int .i64 h, .int .i64 g, .int .i64 o] 31) = w2 at *
      have hB2 := below_step hb1 hb2
      have R2 := Lib.hid (HR.out.later hB2); have S2 := Lib.hid (HR2.out.later hB2)
      have c0 := hs2.cell 0; have c1 := hs2.cell 1; have c2 := hs2.cell 2
      simp at c0 c1 c2
      clear hw2 hb1 hb2 hs2
      have H0 : Hid (aMany (c.take 0) = 0) := Lib.hid rfl
      go_loopw [8, 9] (fun n i wr => ∃ k : Nat, k ≤ len2 ∧ i = .int .i64 k ∧ n = .int .i64 (aMany (c.take k)) ∧ w2 = wr) (fun _ i _ => len2 - (intOf i).toNat)
      case atStart => exact ⟨0, Nat.zero_le _, rfl, by rw [H0.out]; rfl, rfl⟩
      case round =>
        obtain ⟨k, hk, rfl, rfl, rfl⟩ := hrel
        have t1 : (0 : Int) ≤ (k : Int) := by omega
        have hm2 := HM.out.2
        by_cases hlt : k < len2
        · obtain ⟨b, off, rfl, hcells⟩ := S2.out.2.2 (by omega)
          have hck := hcells k hlt
          have hst : aMany (c.take (k + 1)) = aMany (c.take k) + if lvar (c.getD k 0) ≠ 0 then 1 else 0 := by rw [take_snoc c k (by rw [HL2.out]; exact hlt), aMany_snoc]
          have hml : aMany (c.take k) ≤ 200 := Nat.le_trans (aMany_le _) (by rw [List.length_take]; omega)
          clear hcells
          generalize hz : c.getD k 0 = z at *
          clear hz
          generalize hM : aMany (c.take k) = M at *
          generalize hM2 : aMany (c.take (k + 1)) = M2 at *
          have HM2 := Lib.hid hM2
          clear hM hM2
          have hge := lindex_ge z
          by_cases hz : lvar z ≠ 0
          · rw [if_pos hz] at hst
            rw [decide_eq_true hz] at hge
            clear hz
            subst hst
            go_wp2_with (go_at_call 27; refine (ref_Index _ _).mono ?_; rintro e w' ⟨rfl, rfl⟩)
            go_roundw
            case rel => exact ⟨k + 1, by omega, by go_num, by rw [HM2.out]; go_num, by trivial⟩
            case measure => simp [intOf]; omega
          · rw [if_neg hz] at hst
            rw [decide_eq_false hz] at hge
            clear hz
            subst hst
            go_wp2_with (go_at_call 27; refine (ref_Index _ _).mono ?_; rintro e w' ⟨rfl, rfl⟩)
            go_roundw
            case rel => exact ⟨k + 1, by omega, by go_num, by rw [HM2.out], by trivial⟩
            case measure => simp [intOf]; omega
        · have hkn : k = len2 := by omega
          subst hkn
          have HTK : Hid (c.take k = c) := Lib.hid (List.take_of_length_le (by rw [HL2.out]; omega))
          rw [HTK.out, HSM.out]
          have hB := HB.out; have hSm := HSUM.out
          have x1 : IntKind.i64.wrap ((h : Int) + g) = (h : Int) + g := IntWalk.i64_in _ (by omega)
          have x2 : IntKind.i64.wrap ((h : Int) + g + o) = S := by rw [show (h : Int) + g + o = (S : Int) by omega]; exact IntWalk.i64_in _ (by omega)
          obtain ⟨b1, f1, f2, f2'⟩ : ∃ b1, (aCl l c == 1) = b1 ∧ decide (0 < (h : Int)) = b1 ∧ decide (0 < h) = b1 := ⟨decide (0 < h), by rw [Bool.eq_iff_iff, beq_iff_eq, decide_eq_true_eq, (aCl_iff l c).1, HC.out.1], by rw [Bool.eq_iff_iff]; simp, rfl⟩
          obtain ⟨b2, f3, f4⟩ : ∃ b2, (aCl l c == -1) = b2 ∧ ((g : Int) == (S : Int)) = b2 := ⟨decide (h = 0 ∧ o = 0), by rw [Bool.eq_iff_iff, beq_iff_eq, decide_eq_true_eq, (aCl_iff l c).2, HC.out.1, HC.out.2.2], by rw [Bool.eq_iff_iff, beq_iff_eq, decide_eq_true_eq]; omega⟩
          clear hB hSm
          go_wp2_with fail
          go_region_held3 (fun wx => Below w2.heap.size w2 wx ∧ wx.cell? ⟨w1.heap.size, 0, none⟩ = some (.int .i64 h) ∧ wx.cell? ⟨w1.heap.size, 1, none⟩ = some (.int .i64 g) ∧ wx.cell? ⟨w1.heap.size, 2, none⟩ = some (.int .i64 o)) ((refine ⟨?_, ?_, ?_, ?_⟩; (repeat (first | (with_reducible exact Below.refl _ _) | (with_reducible assumption) | (with_reducible refine below_alloc ?_ _) | (with_reducible refine below_drew ?_) | (with_reducible refine below_drewN ?_ _) | (with_reducible refine below_step ?_ (by with_reducible assumption)))); all_goals (refine cell_later (w := w2) ?_ ?_ <;> (repeat (first | (with_reducible exact Below.refl _ _) | (with_reducible assumption) | (with_reducible refine below_alloc ?_ _) | (with_reducible refine below_drew ?_) | (with_reducible refine below_drewN ?_ _) | (with_reducible refine below_step ?_ (by with_reducible assumption)))))))
            (first | (go_at_call 14; refine (asg_Clause _ _ _ l _ _ _ c _ (R2.out.later (by (repeat (first | (with_reducible exact Below.refl _ _) | (with_reducible assumption) | (with_reducible refine below_alloc ?_ _) | (with_reducible refine below_drew ?_) | (with_reducible refine below_drewN ?_ _) | (with_reducible refine below_step ?_ (by with_reducible assumption)))))) (S2.out.later (by (repeat (first | (with_reducible exact Below.refl _ _) | (with_reducible assumption) | (with_reducible refine below_alloc ?_ _) | (with_reducible refine below_drew ?_) | (with_reducible refine below_drewN ?_ _) | (with_reducible refine below_step ?_ (by with_reducible assumption)))))) (by have := HM.out; omega) (by have := HM.out; omega) HF.out HF2.out).mono ?_; rintro e w' ⟨rfl, hbC⟩))
          have hB3 : Below w.heap.size w w' := by (repeat (first | (with_reducible exact Below.refl _ _) | (with_reducible assumption) | (with_reducible refine below_alloc ?_ _) | (with_reducible refine below_drew ?_) | (with_reducible refine below_drewN ?_ _) | (with_reducible refine below_step ?_ (by with_reducible assumption))))
          have R3 := Lib.hid (HR.out.later hB3); have S3 := Lib.hid (HR2.out.later hB3)
          generalize hw3 : w' = w3 at *
          clear hw3 hbC c0 c1 c2 x1 x2 f1 f2 f2' f3 f4 hB2 R2 S2
          go_wp2_with fail
          refine (asg_Unit _ _ _ l _ _ _ c _ R3.out S3.out (by have := HM.out; omega) (by have := HM.out; omega) HF.out HF2.out).mono ?_
          rintro e w4 ⟨rfl, hb4⟩
          have hB4 := below_step hB3 hb4
          have R4 := Lib.hid (R3.out.later hb4); have S4 := Lib.hid (S3.out.later hb4)
          clear hb4 hB3 R3 S3
          cases hok : aUnitOk l c
          · rw [aUnit_not hok]
            clear hok
            go_wp2_with (go_at_call 7; refine (law03_awake _).mono ?_; rintro e w' ⟨rfl, hbAw⟩)
            go_returns
            exact ⟨rfl, by (repeat (first | (with_reducible exact Below.refl _ _) | (with_reducible assumption) | (with_reducible refine below_alloc ?_ _) | (with_reducible refine below_drew ?_) | (with_reducible refine below_drewN ?_ _) | (with_reducible refine below_step ?_ (by with_reducible assumption))))⟩
          · have hu1 := unit_yes hok; have hu2 := unit_no hok
            have hu3 := fun v => unit_check (vars := v) hok
            have hub := aUnit_fits HF2.out hok
            clear hok
            generalize aUnit l c = u at *
            have HU1 := Lib.hid hu1; have HU2 := Lib.hid hu2; have HU3 := Lib.hid hu3
            have HUB := Lib.hid hub
            clear hu1 hu2 hu3
            have hng : wrap64 (-u) = -u := IntWalk.wrap64_in _ ⟨by omega, by omega⟩
            have hlen := HM.out.1
            go_wp2_with (at_builtin; refine wpList_app rfl _ _ 22 rfl w4.heap.size 3 (.int .i64 0) 1 8 Try.underlying22 info_int rfl (by decide) _ 0 [] rfl (own_built w4 w4.heap.size 3 [] (Nat.le_refl _) (Nat.zero_le _)) a len cap (l.map (Value.int .i64)) rfl HCN.out (by rw [List.length_map, HL.out]; omega) ((R4.out.later (below_alloc (Below.refl _ _) _)).cellRow) (one_int · l) (by unfold maxLen; omega) (by omega) (by rw [World.size_alloc]; omega) ?_)
            intro v5 w5 hown5 hg5
            have hB5 : Below w4.heap.size w4 w5 := own_bel (below_alloc (Below.refl _ _) _) (own_built w4 w4.heap.size 3 [] (Nat.le_refl _) (Nat.zero_le _)) hg5
            have hsz5 := hB5.size
            clear hg5
            go_wp2_with (at_builtin; refine wpList_app rfl _ _ 22 rfl w4.heap.size 3 (.int .i64 0) 1 8 Try.underlying22 info_int rfl (by decide) _ _ _ rfl (hown5.alloc _) (some ⟨w5.heap.size, 0, none⟩) 1 1 [.int .i64 (u)] rfl ?c0 rfl ?c1 ?c2 ?c3 ?c4 ?c5 ?_)
            (case c0 => exact fun h => by cases h); (case c1 => exact CellRow.made w5 _ _); (case c2 => intro u hu; simp at hu; subst hu; rfl); (case c3 => unfold maxLen; omega); (case c4 => omega); (case c5 => simp; omega)
            intro v6 w6 hown6 hg6
            have hB6 : Below w4.heap.size w4 w6 := own_bel (below_alloc hB5 _) (hown5.alloc _) hg6
            have HY := Lib.hid (ownInts_snoc HL.out hown6)
            have R6 := Lib.hid (R4.out.later hB6); have S6 := Lib.hid (S4.out.later hB6)
            have hC6 := below_step hB4 hB6
            clear hown5 hown6 hg6 hsz5 hB5 hB6
            go_wp2_with (at_builtin; refine wpList_app rfl _ _ 22 rfl w6.heap.size 3 (.int .i64 0) 1 8 Try.underlying22 info_int rfl (by decide) _ 0 [] rfl (own_built w6 w6.heap.size 3 [] (Nat.le_refl _) (Nat.zero_le _)) a len cap (l.map (Value.int .i64)) rfl HCN.out (by rw [List.length_map, HL.out]; omega) ((R6.out.later (below_alloc (Below.refl _ _) _)).cellRow) (one_int · l) (by unfold maxLen; omega) (by omega) (by rw [World.size_alloc]; omega) ?_)
            intro v7 w7 hown7 hg7
            have hB7 : Below w6.heap.size w6 w7 := own_bel (below_alloc (Below.refl _ _) _) (own_built w6 w6.heap.size 3 [] (Nat.le_refl _) (Nat.zero_le _)) hg7
            have hsz7 := hB7.size
            clear hg7
            go_wp2_with (at_builtin; refine wpList_app rfl _ _ 22 rfl w6.heap.size 3 (.int .i64 0) 1 8 Try.underlying22 info_int rfl (by decide) _ _ _ rfl (hown7.alloc _) (some ⟨w7.heap.size, 0, none⟩) 1 1 [.int .i64 (-u)] rfl ?c0 rfl ?c1 ?c2 ?c3 ?c4 ?c5 ?_)
            (case c0 => exact fun h => by cases h); (case c1 => exact CellRow.made w7 _ _); (case c2 => intro u hu; simp at hu; subst hu; rfl); (case c3 => unfold maxLen; omega); (case c4 => omega); (case c5 => simp; omega)
            intro v8 w8 hown8 hg8
            have hB8 : Below w6.heap.size w6 w8 := own_bel (below_alloc hB7 _) (hown7.alloc _) hg8
            obtain ⟨a9, l9, c9, rfl, _, _, ry⟩ := (HY.out.later hB8).ints
            obtain ⟨a8, l8, c8, rfl, _, _, rn⟩ := (ownInts_snoc HL.out hown8).ints
            have e9 : l9 = len + 1 := by rw [← ry.1]; simp [HL.out]
            have e8 : l8 = len + 1 := by rw [← rn.1]; simp [HL.out]
            subst e9 e8
            have RY := Lib.hid ry; have RN := Lib.hid rn
            have FY := Lib.hid (fits_snoc (u := u) HF.out (by omega)); have FN := Lib.hid (fits_snoc (u := -u) HF.out (by omega))
            have R8 := Lib.hid (R6.out.later hB8); have S8 := Lib.hid (S6.out.later hB8)
            have hC8 := below_step hC6 hB8
            clear hown7 hown8 hg8 hsz7 hB7 hB8 ry rn hng
            go_wp2_with fail
            refine (asg_Clause _ _ _ (l ++ [u]) _ _ _ c _ RY.out S8.out (by omega) (by omega) FY.out HF2.out).mono ?_
            rintro e w9 ⟨rfl, hb9⟩
            rw [HU1.out]
            have R9 := Lib.hid (R8.out.later hb9); have S9 := Lib.hid (S8.out.later hb9)
            have RY9 := Lib.hid (RY.out.later hb9); have RN9 := Lib.hid (RN.out.later hb9)
            have hC9 := below_step hC8 hb9
            clear hb9 hC8 RY RN R8 S8 hB4 hC6
            go_wp2_with fail
            refine (asg_Clause _ _ _ (l ++ [-u]) _ _ _ c _ RN9.out S9.out (by omega) (by omega) FN.out HF2.out).mono ?_
            rintro e w10 ⟨rfl, hb10⟩
            rw [HU2.out]
            have R10 := Lib.hid (R9.out.later hb10)
            have RY10 := Lib.hid (RY9.out.later hb10)
            have hC10 := below_step hC9 hb10
            clear hb10 hC9 RY9 RN9 R9 S9
            go_wp2_with fail
            refine (asg_Check _ _ _ l _ _ R10.out (by omega)).mono ?_
            rintro e w11 ⟨rfl, hb11⟩
            have RY11 := Lib.hid (RY10.out.later hb11)
            have hC11 := below_step hC10 hb11
            clear hb11 hC10 RY10 R10
            by_cases k1 : aCheck l vars = 0
            · rw [k1]
              by_cases k2 : lcheck u vars = 0
              · have HK := Lib.hid (HU3.out vars k1 k2)
                have k3 : (lcheck u vars != 0) = false := by simpa using k2
                clear k1 k2
                go_wp2_with (go_at_call 25; refine (ref_Check _ _ _).mono ?_; rintro e w' ⟨rfl, rfl⟩)
                refine (asg_Check _ _ _ (l ++ [u]) _ _ RY11.out (by omega)).mono ?_
                rintro e w12 ⟨rfl, hb12⟩
                rw [HK.out]
                go_wp2_with (go_at_call 7; refine (law03_awake _).mono ?_; rintro e w' ⟨rfl, hbAw⟩)
                go_returns
                exact ⟨rfl, by (repeat (first | (with_reducible exact Below.refl _ _) | (with_reducible assumption) | (with_reducible refine below_alloc ?_ _) | (with_reducible refine below_drew ?_) | (with_reducible refine below_drewN ?_ _) | (with_reducible refine below_step ?_ (by with_reducible assumption))))⟩
              · have k3 : (lcheck u vars != 0) = true := by simpa using k2
                clear k1 k2
                go_wp2_with (first | (go_at_call 25; refine (ref_Check _ _ _).mono ?_; rintro e w' ⟨rfl, rfl⟩) | (go_at_call 7; refine (law03_awake _).mono ?_; rintro e w' ⟨rfl, hbAw⟩))
                go_returns
                exact ⟨rfl, by (repeat (first | (with_reducible exact Below.refl _ _) | (with_reducible assumption) | (with_reducible refine below_alloc ?_ _) | (with_reducible refine below_drew ?_) | (with_reducible refine below_drewN ?_ _) | (with_reducible refine below_step ?_ (by with_reducible assumption))))⟩
            · have k3 : (aCheck l vars != 0) = true := by simpa using k1
              clear k1
              go_wp2_with (go_at_call 7; refine (law03_awake _).mono ?_; rintro e w' ⟨rfl, hbAw⟩)
              go_returns
              exact ⟨rfl, by (repeat (first | (with_reducible exact Below.refl _ _) | (with_reducible assumption) | (with_reducible refine below_alloc ?_ _) | (with_reducible refine below_drew ?_) | (with_reducible refine below_drewN ?_ _) | (with_reducible refine below_step ?_ (by with_reducible assumption))))⟩
end Go.Proofs.Ytmaaoijlchfdgaa
