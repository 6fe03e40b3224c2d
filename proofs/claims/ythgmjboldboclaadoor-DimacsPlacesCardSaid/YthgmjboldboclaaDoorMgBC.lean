import Derived.Test.YthgmjboldboclaaDoorRows
import Derived.WalkKit
import Derived.WalkSpells
import Derived.WalkLawsBesides
import Derived.BigGuardPart
import Derived.Handy
import Derived.Deep.QuietTactic
import Derived.BigQuiet
import Derived.Deep.RegionHeld3
import Derived.Lib.Hide
import Derived.Test.YthgmjboldboclaaDoorMgAA
import Derived.Test.YthgmjboldboclaaDoorMgBA
namespace Go.Proofs.YthgmjboldboclaaDoor
open Go.RowKit
set_option linter.unusedVariables false
theorem eq_of_getD {α : Type} (z : α) {xs ys : List α} (hl : xs.length = ys.length) (h : ∀ i, i < xs.length → xs.getD i z = ys.getD i z) : xs = ys := by
  apply List.ext_getElem hl
  intro i h1 h2
  have := h i h1
  simpa [List.getD, h1, h2] using this
end Go.Proofs.YthgmjboldboclaaDoor
namespace Go.Proofs.YthgmjboldboclaaDoor
open Go.RowKit
def GrownT (w w' : World) (B : Nat) (t : TypeId) : Prop := w'.heap.size ≥ w.heap.size ∧ ∀ k, k < w.heap.size → w'.heap[k]? = w.heap[k]? ∨ (B ≤ k ∧ ∃ cur, w.heap[k]? = some (.cells cur t (0, 0)))
def OwnFull (w : World) (B : Nat) (e : TypeId) (v : Value) (n : Nat) (xs : List Value) (r : Option Nat) : Prop :=
  (w.ownsRow B e 1 v n xs ∧ r = v.ownBlock) ∨ (∃ g, v = .slice (some ⟨g, 0, none⟩) n n ∧ xs.length = n ∧ n ≤ maxLen ∧ CellRow w (some ⟨g, 0, none⟩) xs ∧ r = none)
theorem OwnFull.later {w w' : World} {B : Nat} {e : TypeId} {v : Value} {n : Nat} {xs : List Value} {r : Option Nat} (h : OwnFull w B e v n xs r) (hb : Below w.heap.size w w') : OwnFull w' B e v n xs r := by
  rcases h with ⟨h, hr⟩ | ⟨g, h1, h2, h3, h4, h5⟩
  · exact Or.inl ⟨own_later h hb, hr⟩
  · exact Or.inr ⟨g, h1, h2, h3, h4.later hb, h5⟩
end Go.Proofs.YthgmjboldboclaaDoor
namespace Go.Proofs.YthgmjboldboclaaDoor
open Go.RowKit
set_option linter.unusedVariables false
set_option linter.unusedSimpArgs false
set_option maxRecDepth 100000 in
set_option maxHeartbeats 1000000 in
theorem sl_Equal (a b : Option Addr) (la ca lb cb : Nat) (xs ys : List Int) (w : World) (ha : IntRow w a la xs) (hb : IntRow w b lb ys) :
    Calls Tryd.prog 37 #[.slice a la ca, .slice b lb cb] w fun e w' => e = .returned (.bool (decide (xs = ys))) ∧ Below w.heap.size w w' := by
  have ma := ha.2.1; have mb := hb.2.1
  unfold maxLen at ma mb
  by_cases hl : la = lb
  · subst hl
    have HA := Lib.hid ha; have HB := Lib.hid hb
    have HL := Lib.hid (ha.1.trans hb.1.symm)
    have HLA := Lib.hid ha.1
    clear ha hb
    by_cases heq : xs = ys
    all_goals
      have HEQ := Lib.hid heq
      first | rw [decide_eq_true heq] | rw [decide_eq_false heq]
      clear heq
      go_enter Tryd.func37, Tryd.ntmps37
      go_wp2_with fail
      go_loopw [5, 13] (fun _ i wr => ∃ k : Nat, k ≤ la ∧ i = .int .i64 k ∧ (∀ j, j < k → xs.getD j 0 = ys.getD j 0) ∧ Below w.heap.size w wr) (fun _ i _ => la - (intOf i).toNat)
      case atStart => exact ⟨0, Nat.zero_le _, rfl, fun j hj => by omega, Below.refl _ _⟩
      case round =>
        obtain ⟨k, hk, rfl, hall, hbw⟩ := hrel
        have HALL := Lib.hid hall; clear hall
        by_cases hlt : k < la
        · have ra := HA.out.later hbw
          have rb := HB.out.later hbw
          obtain ⟨ba, oa, rfl, ca'⟩ := ra.2.2 (by omega)
          obtain ⟨bb, ob, rfl, cb'⟩ := rb.2.2 (by omega)
          have c1 := ca' k hlt
          have c2 := cb' k hlt
          clear ca' cb' ra rb
          have t1 : (0 : Int) ≤ (k : Int) := by omega
          have t2 : (k : Int) < (la : Int) := by omega
          by_cases hk2 : xs.getD k 0 = ys.getD k 0
          · have hall' : ∀ j, j < k + 1 → xs.getD j 0 = ys.getD j 0 := by
              intro j hj
              rcases Nat.lt_or_ge j k with h | h
              · exact HALL.out j h
              · obtain rfl : j = k := by omega
                exact hk2
            have HALL' := Lib.hid hall'; clear hall'
            rw [hk2] at c1
            clear hk2
            go_wp2_with fail
            go_quiet (fail)
            go_wp2_with fail
            go_roundw
            case rel => exact ⟨k + 1, by omega, by go_num, HALL'.out, by (repeat (first | (with_reducible exact Below.refl _ _) | (with_reducible assumption) | (with_reducible refine below_alloc ?_ _) | (with_reducible refine below_drew ?_) | (with_reducible refine below_drewN ?_ _) | (with_reducible refine below_step ?_ (by with_reducible assumption))))⟩
            case measure => simp [intOf]; omega
          · have hk3 : (xs.getD k 0 != ys.getD k 0) = true := by simpa using hk2
            simp only [List.getD_eq_getElem?_getD] at hk3
            have HK2 := Lib.hid hk2; clear hk2
            go_wp2_with fail
            go_quiet (fail)
            go_wp2_with fail
            first
              | (go_ret; exact ⟨rfl, by (repeat (first | (with_reducible exact Below.refl _ _) | (with_reducible assumption) | (with_reducible refine below_alloc ?_ _) | (with_reducible refine below_drew ?_) | (with_reducible refine below_drewN ?_ _) | (with_reducible refine below_step ?_ (by with_reducible assumption))))⟩)
              | (exfalso; exact HK2.out (by rw [HEQ.out]))
        · have hka : k = la := by omega
          have HKA := Lib.hid hka; clear hka
          go_wp2_with fail
          first
            | (go_ret; exact ⟨rfl, by (repeat (first | (with_reducible exact Below.refl _ _) | (with_reducible assumption) | (with_reducible refine below_alloc ?_ _) | (with_reducible refine below_drew ?_) | (with_reducible refine below_drewN ?_ _) | (with_reducible refine below_step ?_ (by with_reducible assumption))))⟩)
            | (exfalso; exact HEQ.out (eq_of_getD 0 HL.out (fun i hi => HALL.out i (by rw [HKA.out, ← HLA.out]; exact hi))))
  · have hne : ¬ xs = ys := fun h => hl (by rw [← ha.1, ← hb.1, h])
    rw [decide_eq_false hne]
    clear hne ha hb
    have hl2 : ((la : Int) != (lb : Int)) = true := by simp; omega
    go_enter Tryd.func37, Tryd.ntmps37
    go_wp2_with fail
    go_ret
    exact ⟨rfl, Below.refl _ _⟩
theorem rows_eq {xss yss : List (List Int)} {len : Nat} (h1 : xss.length = len) (h2 : yss.length = len) (h : ∀ j, j < len → xss.getD j [] = yss.getD j []) : xss = yss := by
  apply List.ext_getElem (h1.trans h2.symm)
  intro i hi1 hi2
  have := h i (by omega)
  simpa [List.getD, hi1, hi2] using this
set_option maxRecDepth 100000 in
set_option maxHeartbeats 1000000 in
theorem cnf_Same1 (a b : Option Addr) (la ca lb cb : Nat) (xs ys : List Int) (w : World) (ha : IntRow w a la xs) (hb : IntRow w b lb ys) :
    Calls Tryd.prog 36 #[.slice a la ca, .slice b lb cb] w fun e w' => e = .returned (.bool (decide (xs = ys))) ∧ Below w.heap.size w w' := by
  have HCON := Lib.hid (sl_Equal a b la ca lb cb xs ys w ha hb)
  clear ha hb
  generalize decide (xs = ys) = D at *
  go_enter Tryd.func36, Tryd.ntmps36
  go_wp2_with fail
  refine HCON.out.mono ?_
  rintro e w2 ⟨rfl, hb⟩
  go_wp2_with fail
  go_ret
  exact ⟨rfl, hb⟩
set_option maxRecDepth 100000 in
set_option maxHeartbeats 1000000 in
theorem cnf_EqualRows (a b : Option Addr) (la ca lb cb : Nat) (xss yss : List (List Int)) (w : World) (ha : Rows2 w a la xss) (hb : Rows2 w b lb yss) :
    Calls Tryd.prog 38 #[.slice a la ca, .slice b lb cb, .func (.func 36) #[] #[]] w fun e w' => e = .returned (.bool (decide (xss = yss))) ∧ Below w.heap.size w w' := by
  have ma := ha.2.1; have mb := hb.2.1
  unfold maxLen at ma mb
  by_cases hl : la = lb
  · subst hl
    have HA := Lib.hid ha; have HB := Lib.hid hb
    have HLA := Lib.hid ha.1; have HLB := Lib.hid hb.1
    clear ha hb
    go_enter Tryd.func38, Tryd.ntmps38
    go_wp2_with fail
    go_loopw [7, 8, 9, 17] (fun _ _ _ i wr => ∃ k : Nat, k ≤ la ∧ i = .int .i64 k ∧ (∀ j, j < k → xss.getD j [] = yss.getD j []) ∧ Below w.heap.size w wr) (fun _ _ _ i _ => la - (intOf i).toNat)
    case atStart => exact ⟨0, Nat.zero_le _, rfl, fun j hj => by omega, Below.refl _ _⟩
    case round =>
      obtain ⟨k, hk, rfl, hall, hbw⟩ := hrel
      have HALL := Lib.hid hall; clear hall
      have t1 : (0 : Int) ≤ (k : Int) := by omega
      by_cases hlt : k < la
      · have ra := HA.out.later hbw
        have rb := HB.out.later hbw
        obtain ⟨ba, oa, u1, rfl, ck1, a1, l1, c1, rfl, _, _, hr1⟩ := ra.2.2 k hlt
        obtain ⟨bb, ob, u2, rfl, ck2, a2, l2, c2, rfl, _, _, hr2⟩ := rb.2.2 k hlt
        have t2 : (k : Int) < (la : Int) := by omega
        have HCON := Lib.hid (cnf_Same1 a1 a2 l1 c1 l2 c2 _ _ wr hr1 hr2)
        have HNE : Hid (xss.getD k [] ≠ yss.getD k [] → xss ≠ yss) := Lib.hid (fun h e => h (by rw [e]))
        have HEE : Hid (xss.getD k [] = yss.getD k [] → ∀ j, j < k + 1 → xss.getD j [] = yss.getD j []) := Lib.hid (fun h j hj => by
          rcases Nat.lt_or_ge j k with h1 | h1
          · exact HALL.out j h1
          · rw [show j = k by omega]; exact h)
        clear ra rb hr1 hr2
        generalize xss.getD k [] = z1 at *
        generalize yss.getD k [] = z2 at *
        by_cases he : z1 = z2
        · have HE := Lib.hid (HEE.out he)
          have HD : Hid (decide (z1 = z2) = true) := Lib.hid (decide_eq_true he)
          clear he
          go_wp2_with fail
          refine HCON.out.mono ?_
          rintro e w5 ⟨rfl, hb5⟩
          rw [HD.out]
          go_wp2_with fail
          go_roundw
          case rel => exact ⟨k + 1, by omega, by go_num, HE.out, below_step hbw hb5⟩
          case measure => simp [intOf]; omega
        · have HE : Hid (decide (xss = yss) = false) := Lib.hid (decide_eq_false (HNE.out he))
          have HD : Hid (decide (z1 = z2) = false) := Lib.hid (decide_eq_false he)
          clear he
          go_wp2_with fail
          refine HCON.out.mono ?_
          rintro e w5 ⟨rfl, hb5⟩
          rw [HD.out]
          go_wp2_with fail
          go_ret
          exact ⟨ret_bool HE.out.symm, below_step hbw hb5⟩
      · have hkn : k = la := by omega
        subst hkn
        have HE : Hid (decide (xss = yss) = true) := Lib.hid (decide_eq_true (rows_eq HLA.out HLB.out HALL.out))
        go_wp2_with fail
        go_ret
        exact ⟨ret_bool HE.out.symm, hbw⟩
  · have HE : Hid (decide (xss = yss) = false) := Lib.hid (decide_eq_false (fun h => hl (by rw [← ha.1, ← hb.1, h])))
    clear ha hb
    have hl2 : ((la : Int) != (lb : Int)) = true := by simp; omega
    go_enter Tryd.func38, Tryd.ntmps38
    go_wp2_with fail
    go_ret
    exact ⟨ret_bool HE.out.symm, Below.refl _ _⟩
def fSame (v1 v2 : Int) (xss yss : List (List Int)) : Bool := decide (v1 = v2) && decide (xss = yss)
set_option maxRecDepth 100000 in
set_option maxHeartbeats 1000000 in
theorem cnf_Same (v1 v2 : Int) (a b : Option Addr) (la ca lb cb : Nat) (xss yss : List (List Int)) (w : World) (ha : Rows2 w a la xss) (hb : Rows2 w b lb yss) :
    Calls Tryd.prog 17 #[.agg #[.int .i64 v1, .slice a la ca], .agg #[.int .i64 v2, .slice b lb cb]] w fun e w' => e = .returned (.bool (fSame v1 v2 xss yss)) ∧ Below w.heap.size w w' := by
  have hb1 : Below w.heap.size w (w.alloc (.cells #[.int .i64 v1, .slice a la ca] 25)) := below_alloc (Below.refl _ _) _
  have hc1 := Blk.made w #[.int .i64 v1, .slice a la ca] 25
  have hz1 : (w.alloc (.cells #[.int .i64 v1, .slice a la ca] 25)).heap.size = w.heap.size + 1 := by simp
  generalize hw1 : w.alloc (.cells #[.int .i64 v1, .slice a la ca] 25) = w1 at *
  have hb2 : Below w1.heap.size w1 (w1.alloc (.cells #[.int .i64 v2, .slice b lb cb] 25)) := below_alloc (Below.refl _ _) _
  have hc2 := Blk.made w1 #[.int .i64 v2, .slice b lb cb] 25
  generalize hw2 : w1.alloc (.cells #[.int .i64 v2, .slice b lb cb] 25) = w2 at *
  rw [hz1] at hc2
  have hB2 := below_step hb1 hb2
  have hc1b := hc1.later hb2
  have e0 := hc1b.cell 0; have e1 := hc1b.cell 1; have f0 := hc2.cell 0; have f1 := hc2.cell 1
  simp only [List.getElem?_toArray, List.getElem?_cons_zero, List.getElem?_cons_succ] at e0 e1 f0 f1
  have HCON := Lib.hid (cnf_EqualRows a b la ca lb cb xss yss w2 (ha.later hB2) (hb.later hB2))
  have HW1 := Lib.hid hw1; have HW2 := Lib.hid hw2
  clear ha hb hw1 hw2 hb1 hb2 hc1 hc2 hc1b hz1
  by_cases h : v1 = v2
  · have HV : Hid (fSame v1 v2 xss yss = decide (xss = yss)) := Lib.hid (by unfold fSame; rw [decide_eq_true h, Bool.true_and])
    have d1 : (v1 == v2) = true := by simpa using h
    clear h
    generalize decide (xss = yss) = D at *
    go_enter Tryd.func17, Tryd.ntmps17
    go_wp2_with fail
    try rw [HW1.out, HW2.out]
    refine HCON.out.mono ?_
    rintro e w5 ⟨rfl, hb5⟩
    go_wp2_with fail
    go_ret
    exact ⟨ret_bool HV.out.symm, below_step hB2 hb5⟩
  · have HV : Hid (fSame v1 v2 xss yss = false) := Lib.hid (by unfold fSame; rw [decide_eq_false h, Bool.false_and])
    have d1 : (v1 == v2) = false := by simpa using h
    clear h
    go_enter Tryd.func17, Tryd.ntmps17
    go_wp2_with fail
    try rw [HW1.out, HW2.out]
    go_ret
    exact ⟨ret_bool HV.out.symm, hB2⟩
end Go.Proofs.YthgmjboldboclaaDoor
