/- Layer 32: PlacesOrders is true for every input. -/
import Derived.Test.YthfcbjfeepindaaLaw32c
namespace Go.Proofs.Ythfcbjfeepindaa
open Go.RowKit
set_option linter.unusedVariables false
set_option linter.unusedSimpArgs false

set_option maxHeartbeats 2000000 in
theorem placesOrders_walk (w : World) (o s : Int) (wo : (Lit.int .i64 o).wf = true) (ws : (Lit.int .i64 s).wf = true) (ma : Option Addr) (ml mc : Nat) (bs : List Bool) (hm : BoolRow w ma ml bs) (hmc : ml ≤ mc ∧ mc ≤ maxLen ∧ (ma = none → mc = 0)) :
    Calls Try.prog 8 #[.agg #[.int .i64 o, .int .i64 s], .slice ma ml mc] w fun e w' => e = .returned (.bool true) ∧ Below w.heap.size w w' := by
  clear wo ws hmc
  have HM := Lib.hid hm
  have hml : bs.length = ml := hm.1
  clear hm
  have hb1 : Below w.heap.size w (w.alloc (.cells #[.int .i64 o, .int .i64 s] 23)) := by (repeat (first | (with_reducible exact Below.refl _ _) | (with_reducible assumption) | (with_reducible refine below_alloc ?_ _) | (with_reducible refine below_drew ?_) | (with_reducible refine below_drewN ?_ _) | (with_reducible refine below_step ?_ (by with_reducible assumption))))
  have hs1 := Blk.made w #[.int .i64 o, .int .i64 s] 23
  generalize hw1 : w.alloc (.cells #[.int .i64 o, .int .i64 s] 23) = W1 at hb1 hs1
  have HW1 := Lib.hid hw1; clear hw1
  have c0 := hs1.cell 0; have c1 := hs1.cell 1
  simp at c0 c1
  by_cases hbig : 10 < o
  · go_enter Try.func8, Try.ntmps8
    go_wp2_with fail
    all_goals (try rw [HW1.out])
    all_goals
      go_wp2_with (go_at_call 30; refine (law32_awake _).mono ?_; rintro e w' ⟨rfl, hbAw⟩)
      all_goals first | (exfalso; omega) | (go_returns; exact ⟨rfl, by (repeat (first | (with_reducible exact Below.refl _ _) | (with_reducible assumption) | (with_reducible refine below_alloc ?_ _) | (with_reducible refine below_drew ?_) | (with_reducible refine below_drewN ?_ _) | (with_reducible refine below_step ?_ (by with_reducible assumption))))⟩)
  have d10 : decide (10 < o) = false := by simpa using hbig
  by_cases hok : nOk o s
  · obtain ⟨n, rfl⟩ : ∃ n : Nat, o = n := ⟨o.toNat, by have := hok.1; omega⟩
    have hk : (nCheck n s != 0) = false := by rw [nCheck_yes hok]; rfl
    by_cases hv : (ml : Int) = nVars n s
    · have hV : ((ml : Int) != nVars n s) = false := by simp [hv]
      have hcl := plaC_holds hok (bs := bs) (by rw [hml]; exact hv)
      go_enter Try.func8, Try.ntmps8
      go_wp2_with fail
      all_goals (try rw [HW1.out])
      go_wp2_with (first | (go_at_call 25; refine (num_Check _ _ _).mono ?_; rintro e w' ⟨rfl, hbC⟩; have c0 := cell_later hbC c0; have c1 := cell_later hbC c1) | (go_at_call 27; refine (num_Vars _ _ _).mono ?_; rintro e w' ⟨rfl, hbV⟩; have c0 := cell_later hbV c0; have c1 := cell_later hbV c1))
      refine (pla_Order n s _ _ _ bs _ hok hv (HM.out.later (by (repeat (first | (with_reducible exact Below.refl _ _) | (with_reducible assumption) | (with_reducible refine below_alloc ?_ _) | (with_reducible refine below_drew ?_) | (with_reducible refine below_drewN ?_ _) | (with_reducible refine below_step ?_ (by with_reducible assumption))))))).mono ?_
      rintro e w2 (⟨l, v, rfl, hA, hvA, hb2⟩ | ⟨hno, rfl, hb2⟩)
      · have hhold := hcl.2 ⟨l, hA⟩
        have hlen : l.length = n := hA.1
        obtain ⟨la, ll, lc, rfl, _, _, hlr⟩ := hvA.ints
        have hll : ll = n := hlr.1.symm.trans hlen
        subst hll
        clear hcl hA hvA hlr
        have c0 := cell_later hb2 c0; have c1 := cell_later hb2 c1
        go_wp2_with fail
        refine (pla_Clauses _ s _ hok).mono ?_
        rintro e w3 ⟨u, rfl, hC, hb3⟩
        obtain ⟨ca, cl, cc, rfl, _, _, hCr⟩ := hC.rows
        have c0 := cell_later hb3 c0; have c1 := cell_later hb3 c1
        go_wp2_with fail
        refine (ref_First _ _ _ _ _ _ _ _ bs _ hCr (HM.out.later (by (repeat (first | (with_reducible exact Below.refl _ _) | (with_reducible assumption) | (with_reducible refine below_alloc ?_ _) | (with_reducible refine below_drew ?_) | (with_reducible refine below_drewN ?_ _) | (with_reducible refine below_step ?_ (by with_reducible assumption))))))).mono ?_
        rintro e w4 ⟨i, rfl, hi, hb4⟩
        have c0 := cell_later hb4 c0; have c1 := cell_later hb4 c1
        have hi0 : decide (i < 0) = true := by simpa using hi.2 hhold
        clear hi hC hCr
        go_wp2_with (go_at_call 30; refine (law32_awake _).mono ?_; rintro e w' ⟨rfl, hbAw⟩)
        go_returns
        exact ⟨rfl, by (repeat (first | (with_reducible exact Below.refl _ _) | (with_reducible assumption) | (with_reducible refine below_alloc ?_ _) | (with_reducible refine below_drew ?_) | (with_reducible refine below_drewN ?_ _) | (with_reducible refine below_step ?_ (by with_reducible assumption))))⟩
      · have hhold : ¬ _ := fun h => (hcl.1 h).elim fun l hl => hno l hl
        clear hcl hno
        have c0 := cell_later hb2 c0; have c1 := cell_later hb2 c1
        go_wp2_with fail
        refine (pla_Clauses _ s _ hok).mono ?_
        rintro e w3 ⟨u, rfl, hC, hb3⟩
        obtain ⟨ca, cl, cc, rfl, _, _, hCr⟩ := hC.rows
        have c0 := cell_later hb3 c0; have c1 := cell_later hb3 c1
        go_wp2_with fail
        refine (ref_First _ _ _ _ _ _ _ _ bs _ hCr (HM.out.later (by (repeat (first | (with_reducible exact Below.refl _ _) | (with_reducible assumption) | (with_reducible refine below_alloc ?_ _) | (with_reducible refine below_drew ?_) | (with_reducible refine below_drewN ?_ _) | (with_reducible refine below_step ?_ (by with_reducible assumption))))))).mono ?_
        rintro e w4 ⟨i, rfl, hi, hb4⟩
        have c0 := cell_later hb4 c0; have c1 := cell_later hb4 c1
        have hi0 : decide (i < 0) = false := by simpa using fun h => hhold (hi.1 h)
        clear hi hC hCr
        go_wp2_with (go_at_call 30; refine (law32_awake _).mono ?_; rintro e w' ⟨rfl, hbAw⟩)
        go_returns
        exact ⟨rfl, by (repeat (first | (with_reducible exact Below.refl _ _) | (with_reducible assumption) | (with_reducible refine below_alloc ?_ _) | (with_reducible refine below_drew ?_) | (with_reducible refine below_drewN ?_ _) | (with_reducible refine below_step ?_ (by with_reducible assumption))))⟩
    · have hV : ((ml : Int) != nVars n s) = true := by simp [hv]
      go_enter Try.func8, Try.ntmps8
      go_wp2_with fail
      all_goals (try rw [HW1.out])
      go_wp2_with (first | (go_at_call 25; refine (num_Check _ _ _).mono ?_; rintro e w' ⟨rfl, hbC⟩; have c0 := cell_later hbC c0; have c1 := cell_later hbC c1) | (go_at_call 27; refine (num_Vars _ _ _).mono ?_; rintro e w' ⟨rfl, hbV⟩; have c0 := cell_later hbV c0; have c1 := cell_later hbV c1) | (go_at_call 30; refine (law32_awake _).mono ?_; rintro e w' ⟨rfl, hbAw⟩))
      go_returns
      exact ⟨rfl, by (repeat (first | (with_reducible exact Below.refl _ _) | (with_reducible assumption) | (with_reducible refine below_alloc ?_ _) | (with_reducible refine below_drew ?_) | (with_reducible refine below_drewN ?_ _) | (with_reducible refine below_step ?_ (by with_reducible assumption))))⟩
  · have hk : (nCheck o s != 0) = true := by rw [nCheck_no hok]; rfl
    go_enter Try.func8, Try.ntmps8
    go_wp2_with fail
    all_goals (try rw [HW1.out])
    go_wp2_with (first | (go_at_call 25; refine (num_Check _ _ _).mono ?_; rintro e w' ⟨rfl, hbC⟩; have c0 := cell_later hbC c0; have c1 := cell_later hbC c1) | (go_at_call 27; refine (num_Vars _ _ _).mono ?_; rintro e w' ⟨rfl, hbV⟩; have c0 := cell_later hbV c0; have c1 := cell_later hbV c1) | (go_at_call 30; refine (law32_awake _).mono ?_; rintro e w' ⟨rfl, hbAw⟩))
    go_returns
    exact ⟨rfl, by (repeat (first | (with_reducible exact Below.refl _ _) | (with_reducible assumption) | (with_reducible refine below_alloc ?_ _) | (with_reducible refine below_drew ?_) | (with_reducible refine below_drewN ?_ _) | (with_reducible refine below_step ?_ (by with_reducible assumption))))⟩
end Go.Proofs.Ythfcbjfeepindaa
