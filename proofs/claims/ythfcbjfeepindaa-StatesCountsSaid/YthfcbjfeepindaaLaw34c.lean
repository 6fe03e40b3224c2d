/- Layer 34: StatesCounts is true for every input. -/
import Derived.Test.YthfcbjfeepindaaLaw34b
namespace Go.Proofs.Ythfcbjfeepindaa
open Go.RowKit
set_option linter.unusedVariables false
set_option linter.unusedSimpArgs false

theorem stTOk_true {n m rl : Nat} {row : List Int} (h : stTOk n m rl row = true) : rl = n + 1 ∧ stMay n m row (n + 1) := by
  unfold stTOk at h
  have h2 := of_decide_eq_true h
  exact ⟨by omega, by have := h2.2.2; simpa using this⟩

set_option maxRecDepth 100000 in
set_option maxHeartbeats 4000000 in
theorem statesCounts_walk (w : World) (o s : Int) (wo : (Lit.int .i64 o).wf = true) (ws : (Lit.int .i64 s).wf = true) (va : Option Addr) (vl vc : Nat) (xs : List Int) (hr : IntRow w va vl xs) (hf : Fits xs) (hvc : vl ≤ vc ∧ vc ≤ maxLen ∧ (va = none → vc = 0)) :
    Calls Try.prog 16 #[.agg #[.int .i64 o, .int .i64 s], .slice va vl vc] w fun e w' => e = .returned (.bool true) ∧ Below w.heap.size w w' := by
  clear wo ws hf
  have hcv := hvc.1; have hcm := hvc.2.1
  clear hvc
  have HR := Lib.hid hr
  have hxl : xs.length = vl := hr.1
  clear hr
  have hb1 : Below w.heap.size w (w.alloc (.cells #[.int .i64 o, .int .i64 s] 23)) := by (repeat (first | (with_reducible exact Below.refl _ _) | (with_reducible assumption) | (with_reducible refine below_alloc ?_ _) | (with_reducible refine below_drew ?_) | (with_reducible refine below_drewN ?_ _) | (with_reducible refine below_step ?_ (by with_reducible assumption))))
  have hs1 := Blk.made w #[.int .i64 o, .int .i64 s] 23
  generalize hw1 : w.alloc (.cells #[.int .i64 o, .int .i64 s] 23) = W1 at hb1 hs1
  have HW1 := Lib.hid hw1; clear hw1
  have c0 := hs1.cell 0; have c1 := hs1.cell 1
  simp at c0 c1
  clear hs1
  by_cases hbig : 10 < o
  · go_enter Try.func16, Try.ntmps16
    go_wp2_with fail
    all_goals (try rw [HW1.out])
    all_goals
      go_wp2_with (go_at_call 53; refine (law34_awake _).mono ?_; rintro e w' ⟨rfl, hbAw⟩)
      all_goals first | (exfalso; omega) | (go_returns; exact ⟨rfl, by (repeat (first | (with_reducible exact Below.refl _ _) | (with_reducible assumption) | (with_reducible refine below_alloc ?_ _) | (with_reducible refine below_drew ?_) | (with_reducible refine below_drewN ?_ _) | (with_reducible refine below_step ?_ (by with_reducible assumption))))⟩)
  have d10 : decide (10 < o) = false := by simpa using hbig
  by_cases hok : nOk o s
  · obtain ⟨n, rfl⟩ : ∃ n : Nat, o = n := ⟨o.toNat, by have := hok.1; omega⟩
    obtain ⟨m, rfl⟩ : ∃ m : Nat, s = m := ⟨s.toNat, by have := hok.2.2.1; omega⟩
    have hk : (nCheck n m != 0) = false := by rw [nCheck_yes hok]; rfl
    have hn10 : n ≤ 10 ∧ 1 ≤ m ∧ m ≤ 32 := by unfold nOk at hok; omega
    have HOK := Lib.hid hok
    clear hok hbig
    by_cases hv : 100 < (vl : Int)
    · have hV : decide (100 < (vl : Int)) = true := by simpa using hv
      have hV2 : decide (100 < vl) = true := by simp; omega
      clear hv
      go_enter Try.func16, Try.ntmps16
      go_wp2_with fail
      all_goals (try rw [HW1.out])
      go_wp2_with (first | (go_at_call 25; refine (num_Check _ _ _).mono ?_; rintro e w' ⟨rfl, hbC⟩; have c0 := cell_later hbC c0; have c1 := cell_later hbC c1) | (go_at_call 53; refine (law34_awake _).mono ?_; rintro e w' ⟨rfl, hbAw⟩))
      go_returns
      exact ⟨rfl, by (repeat (first | (with_reducible exact Below.refl _ _) | (with_reducible assumption) | (with_reducible refine below_alloc ?_ _) | (with_reducible refine below_drew ?_) | (with_reducible refine below_drewN ?_ _) | (with_reducible refine below_step ?_ (by with_reducible assumption))))⟩
    · have hV : decide (100 < (vl : Int)) = false := by simpa using hv
      have hV2 : decide (100 < vl) = false := by simp; omega
      clear hv
      go_enter Try.func16, Try.ntmps16
      go_wp2_with fail
      all_goals (try rw [HW1.out])
      go_wp2_with (first | (go_at_call 25; refine (num_Check _ _ _).mono ?_; rintro e w' ⟨rfl, hbC⟩; have c0 := cell_later hbC c0; have c1 := cell_later hbC c1))
      refine (sta_Truths n m _ _ _ xs _ (HR.out.later (by (repeat (first | (with_reducible exact Below.refl _ _) | (with_reducible assumption) | (with_reducible refine below_alloc ?_ _) | (with_reducible refine below_drew ?_) | (with_reducible refine below_drewN ?_ _) | (with_reducible refine below_step ?_ (by with_reducible assumption))))))).mono ?_
      rintro e w2 ⟨v, rfl, hv, hb2⟩
      have c0 := cell_later hb2 c0; have c1 := cell_later hb2 c1
      cases hst : stTOk n m vl xs
      · have hnil : stTru n m vl xs = [] := by unfold stTru; rw [hst, if_neg (by decide)]
        rw [hnil] at hv
        obtain ⟨la, lc, rfl, _, _, _, _⟩ := own_cells hv
        clear hv hst hnil
        go_wp2_with (go_at_call 53; refine (law34_awake _).mono ?_; rintro e w' ⟨rfl, hbAw⟩)
        go_returns
        exact ⟨rfl, by (repeat (first | (with_reducible exact Below.refl _ _) | (with_reducible assumption) | (with_reducible refine below_alloc ?_ _) | (with_reducible refine below_drew ?_) | (with_reducible refine below_drewN ?_ _) | (with_reducible refine below_step ?_ (by with_reducible assumption))))⟩
      · obtain ⟨hvl, hmay⟩ := stTOk_true hst
        have htru : stTru n m vl xs = stTs n m xs (n + 1) := by unfold stTru; rw [hst, if_pos rfl, Int.toNat_natCast, Int.toNat_natCast]
        rw [htru] at hv
        subst hvl
        obtain ⟨ba, bc, rfl, _, _, hbr⟩ := hv.row
        have hbl : ((stTs n m xs (n + 1)).length : Int) = nVars n m := by rw [stTs_length, stVars HOK.out]
        have HBL := Lib.hid hbl
        have hall : ∀ a, a < n + 1 → cntT (stB n m (stTs n m xs (n + 1)) a) m = 1 := fun a ha => (stTs_back HOK.out hmay ha).1
        have hback := stRows_back HOK.out hmay hxl
        have hx0 := hmay 0 (by omega)
        obtain ⟨q, hq⟩ : ∃ q : Nat, xs.getD 0 0 = q := ⟨(xs.getD 0 0).toNat, by omega⟩
        have hqm : q < m := by omega
        have hlast : lastT (stB n m (stTs n m xs (n + 1)) 0) m = q := by
          have := (stTs_back HOK.out hmay (a := 0) (by omega)).2
          omega
        have HHOLD := Lib.hid ((stC_holds HOK.out hbl hqm).2 ⟨hall, hlast⟩)
        have hst2 : stOk n m (stTs n m xs (n + 1)).length (stTs n m xs (n + 1)) = true := stOk_mk HOK.out hbl hall
        have hrow2 := stRow_true hst2
        rw [hback] at hrow2
        have HST2 := Lib.hid hst2; have HROW2 := Lib.hid hrow2
        have HLEN := Lib.hid (stC_len (q := q) HOK.out)
        have HBR := Lib.hid hbr
        obtain ⟨rb, ro, rfl, hrc⟩ := (HR.out.later hb1).2.2 (by omega)
        have hr0 := hrc 0 (by omega)
        rw [hq] at hr0
        simp only [Nat.add_zero] at hr0
        have HR0 := Lib.hid hr0
        clear hv hst htru hbl hall hback hx0 hq hlast hst2 hrow2 hbr hrc hr0 hmay
        go_wp2_with fail
        refine (sta_Row n m _ _ _ (stTs n m xs (n + 1)) _ HBR.out).mono ?_
        rintro e w3 ⟨v, rfl, hv, hb3⟩
        rw [HST2.out]
        rw [HROW2.out] at hv
        have HV := Lib.hid hv
        clear hv
        have c0 := cell_later hb3 c0; have c1 := cell_later hb3 c1
        have hB3 : Below W1.heap.size W1 w3 := by (repeat (first | (with_reducible exact Below.refl _ _) | (with_reducible assumption) | (with_reducible refine below_alloc ?_ _) | (with_reducible refine below_drew ?_) | (with_reducible refine below_drewN ?_ _) | (with_reducible refine below_step ?_ (by with_reducible assumption))))
        have c2 := cell_later hB3 HR0.out
        have h0n : (0 : Int) < (n : Int) + 1 := by omega
        go_wp2_with fail
        go_region_held3 (fun wx => Below w3.heap.size w3 wx ∧ wx.cell? ⟨w.heap.size, 0, none⟩ = some (.int .i64 n) ∧ wx.cell? ⟨w.heap.size, 1, none⟩ = some (.int .i64 m) ∧ wx.cell? ⟨rb, ro, none⟩ = some (.int .i64 q)) ((refine ⟨?_, ?_, ?_, ?_⟩; (repeat (first | (with_reducible exact Below.refl _ _) | (with_reducible assumption) | (with_reducible refine below_alloc ?_ _) | (with_reducible refine below_drew ?_) | (with_reducible refine below_drewN ?_ _) | (with_reducible refine below_step ?_ (by with_reducible assumption)))); all_goals (refine cell_later (w := w3) ?_ ?_ <;> (repeat (first | (with_reducible exact Below.refl _ _) | (with_reducible assumption) | (with_reducible refine below_alloc ?_ _) | (with_reducible refine below_drew ?_) | (with_reducible refine below_drewN ?_ _) | (with_reducible refine below_step ?_ (by with_reducible assumption)))))))
          (first | (go_at_call 58; refine (sta_Clauses _ _ _ _).mono ?_; rintro e w' ⟨u, rfl, hC, hbA⟩))
        all_goals
          rename_i hHeld
          obtain ⟨hB4, d0, d1, d2⟩ := hHeld
          rw [show stCl n m q = stC n m q by unfold stCl; rw [if_pos ⟨HOK.out, by omega, by omega⟩]] at hC
          obtain ⟨ca, cl, cc, rfl, _, _, hCr⟩ := hC.rows
          have hcl := hCr.1
          have hlen := HLEN.out
          rw [hcl] at hlen
          have hmm := mul_bd (x := m) (y := (m : Int) - 1) (a := 32) (b := 31) (by omega) (by omega) (by omega) (by omega)
          have hpar : ∃ H : Int, (m : Int) * (m - 1) = 2 * H ∧ 0 ≤ H ∧ H ≤ 496 := by
            have h2 : (m : Int) % 2 = 0 ∨ (m : Int) % 2 = 1 := by omega
            have h3 : ∃ H : Int, (m : Int) * (m - 1) = 2 * H := by
              rcases h2 with h2 | h2
              · obtain ⟨t, ht⟩ : ∃ t : Int, (m : Int) = 2 * t := ⟨(m : Int) / 2, by omega⟩
                exact ⟨t * (m - 1), by rw [← Int.mul_assoc, ← ht]⟩
              · obtain ⟨t, ht⟩ : ∃ t : Int, (m : Int) - 1 = 2 * t := ⟨((m : Int) - 1) / 2, by omega⟩
                exact ⟨m * t, by rw [ht, ← Int.mul_assoc, Int.mul_comm (m : Int) 2, Int.mul_assoc]⟩
            obtain ⟨H, hH⟩ := h3
            exact ⟨H, hH, by omega, by omega⟩
          obtain ⟨H, hH, hH0, hH1⟩ := hpar
          have hdiv : (m : Int) * (m - 1) / 2 = H := by omega
          have hpp := mul_bd (x := (n : Int) + 1) (y := 1 + H) (a := 11) (b := 497) (by omega) (by omega) (by omega) (by omega)
          have hcl3 : (cl : Int) = 1 + ((n : Int) + 1) * (1 + H) := by
            have e : ((n : Int) + 1) * (2 + 2 * H) = 2 * (((n : Int) + 1) * (1 + H)) := by
              rw [show (2 : Int) + 2 * H = 2 * (1 + H) by omega, Int.mul_left_comm]
            rw [hH, e] at hlen
            omega
          have hm1 := hmm.1; have hm2 := hmm.2
          rw [← hdiv] at hpp hcl3
          have hp1 := hpp.1; have hp2 := hpp.2
          have hcmp : ((cl : Int) == 1 + ((n : Int) + 1) * (1 + (m : Int) * (m - 1) / 2)) = true := by rw [← hcl3]; simp
          have hV := HV.out
          clear hH hH0 hH1 hdiv hpp hcl3 hmm hlen hcl hC
          go_wp2_with fail
          refine (same_IntsV _ _ _ _ _ (hV.ints.later (by (repeat (first | (with_reducible exact Below.refl _ _) | (with_reducible assumption) | (with_reducible refine below_alloc ?_ _) | (with_reducible refine below_drew ?_) | (with_reducible refine below_drewN ?_ _) | (with_reducible refine below_step ?_ (by with_reducible assumption)))))) ⟨_, _, _, rfl, hcv, hcm, HR.out.later (by (repeat (first | (with_reducible exact Below.refl _ _) | (with_reducible assumption) | (with_reducible refine below_alloc ?_ _) | (with_reducible refine below_drew ?_) | (with_reducible refine below_drewN ?_ _) | (with_reducible refine below_step ?_ (by with_reducible assumption)))))⟩).mono ?_
          rintro e w5 ⟨rfl, hb5⟩
          have d0 := cell_later hb5 d0; have d1 := cell_later hb5 d1
          go_wp2_with fail
          refine (ref_First _ _ _ _ _ _ _ _ (stTs n m xs (n + 1)) _ (hCr.later (by (repeat (first | (with_reducible exact Below.refl _ _) | (with_reducible assumption) | (with_reducible refine below_alloc ?_ _) | (with_reducible refine below_drew ?_) | (with_reducible refine below_drewN ?_ _) | (with_reducible refine below_step ?_ (by with_reducible assumption)))))) (HBR.out.later (by (repeat (first | (with_reducible exact Below.refl _ _) | (with_reducible assumption) | (with_reducible refine below_alloc ?_ _) | (with_reducible refine below_drew ?_) | (with_reducible refine below_drewN ?_ _) | (with_reducible refine below_step ?_ (by with_reducible assumption))))))).mono ?_
          rintro e w6 ⟨i, rfl, hi, hb6⟩
          have d0 := cell_later hb6 d0; have d1 := cell_later hb6 d1
          have hi0 : decide (i < 0) = true := by simpa using hi.2 HHOLD.out
          clear hi hCr
          go_wp2_with (go_at_call 53; refine (law34_awake _).mono ?_; rintro e w' ⟨rfl, hbAw⟩)
          go_returns
          exact ⟨rfl, by (repeat (first | (with_reducible exact Below.refl _ _) | (with_reducible assumption) | (with_reducible refine below_alloc ?_ _) | (with_reducible refine below_drew ?_) | (with_reducible refine below_drewN ?_ _) | (with_reducible refine below_step ?_ (by with_reducible assumption))))⟩
  · have hk : (nCheck o s != 0) = true := by rw [nCheck_no hok]; rfl
    clear hok hbig
    go_enter Try.func16, Try.ntmps16
    go_wp2_with fail
    all_goals (try rw [HW1.out])
    go_wp2_with (first | (go_at_call 25; refine (num_Check _ _ _).mono ?_; rintro e w' ⟨rfl, hbC⟩; have c0 := cell_later hbC c0; have c1 := cell_later hbC c1) | (go_at_call 53; refine (law34_awake _).mono ?_; rintro e w' ⟨rfl, hbAw⟩))
    go_returns
    exact ⟨rfl, by (repeat (first | (with_reducible exact Below.refl _ _) | (with_reducible assumption) | (with_reducible refine below_alloc ?_ _) | (with_reducible refine below_drew ?_) | (with_reducible refine below_drewN ?_ _) | (with_reducible refine below_step ?_ (by with_reducible assumption))))⟩
end Go.Proofs.Ythfcbjfeepindaa
