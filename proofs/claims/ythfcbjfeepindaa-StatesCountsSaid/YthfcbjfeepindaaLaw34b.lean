/- Layer 34: StatesOne is true for every input. -/
import Derived.Test.YthfcbjfeepindaaStaB
import Derived.Test.YthfcbjfeepindaaLaw34m
namespace Go.Proofs.Ythfcbjfeepindaa
open Go.RowKit
set_option linter.unusedVariables false
set_option linter.unusedSimpArgs false

theorem stOk_true {n m ml : Nat} {bs : List Bool} (h : stOk n m ml bs = true) : nOk n m ∧ (ml : Int) = nVars n m ∧ ∀ a, a < n + 1 → cntT (stB n m bs a) m = 1 := by
  unfold stOk at h
  have h2 := of_decide_eq_true h
  exact ⟨h2.1, h2.2.1, by have := h2.2.2; simpa using this⟩
theorem stOk_mk {n m ml : Nat} {bs : List Bool} (h : nOk n m) (h2 : (ml : Int) = nVars n m) (h3 : ∀ a, a < n + 1 → cntT (stB n m bs a) m = 1) : stOk n m ml bs = true := by
  unfold stOk
  rw [decide_eq_true]
  exact ⟨h, h2, by simpa using h3⟩
theorem stRow_true {n m ml : Nat} {bs : List Bool} (h : stOk n m ml bs = true) : stRow n m ml bs = stRows n m bs (n + 1) := by
  unfold stRow; rw [h, if_pos rfl, Int.toNat_natCast]
theorem stRow_false {o s : Int} {ml : Nat} {bs : List Bool} (h : stOk o s ml bs = false) : stRow o s ml bs = [] := by
  unfold stRow; rw [h, if_neg (by decide)]

set_option maxRecDepth 100000 in
set_option maxHeartbeats 4000000 in
theorem statesOne_walk (w : World) (o s : Int) (wo : (Lit.int .i64 o).wf = true) (ws : (Lit.int .i64 s).wf = true) (init : Int) (wi : (Lit.int .i64 init).wf = true) (ma : Option Addr) (ml mc : Nat) (bs : List Bool) (hm : BoolRow w ma ml bs) (hmc : ml ≤ mc ∧ mc ≤ maxLen ∧ (ma = none → mc = 0)) :
    Calls Try.prog 15 #[.agg #[.int .i64 o, .int .i64 s], .int .i64 init, .slice ma ml mc] w fun e w' => e = .returned (.bool true) ∧ Below w.heap.size w w' := by
  clear wo ws hmc wi
  have HM := Lib.hid hm
  have hml : bs.length = ml := hm.1
  clear hm
  have hb1 : Below w.heap.size w (w.alloc (.cells #[.int .i64 o, .int .i64 s] 23)) := by (repeat (first | (with_reducible exact Below.refl _ _) | (with_reducible assumption) | (with_reducible refine below_alloc ?_ _) | (with_reducible refine below_drew ?_) | (with_reducible refine below_drewN ?_ _) | (with_reducible refine below_step ?_ (by with_reducible assumption))))
  have hs1 := Blk.made w #[.int .i64 o, .int .i64 s] 23
  generalize hw1 : w.alloc (.cells #[.int .i64 o, .int .i64 s] 23) = W1 at hb1 hs1
  have HW1 := Lib.hid hw1; clear hw1
  have c0 := hs1.cell 0; have c1 := hs1.cell 1
  simp at c0 c1
  clear hs1
  by_cases hbig : 10 < o
  · go_enter Try.func15, Try.ntmps15
    go_wp2_with fail
    all_goals (try rw [HW1.out])
    all_goals
      go_wp2_with (go_at_call 53; refine (law34_awake _).mono ?_; rintro e w' ⟨rfl, hbAw⟩)
      all_goals first | (exfalso; omega) | (go_returns; exact ⟨rfl, by (repeat (first | (with_reducible exact Below.refl _ _) | (with_reducible assumption) | (with_reducible refine below_alloc ?_ _) | (with_reducible refine below_drew ?_) | (with_reducible refine below_drewN ?_ _) | (with_reducible refine below_step ?_ (by with_reducible assumption))))⟩)
  have d10 : decide (10 < o) = false := by simpa using hbig
  by_cases hok : nOk o s
  · obtain ⟨n, rfl⟩ : ∃ n : Nat, o = n := ⟨o.toNat, by have := hok.1; omega⟩
    obtain ⟨m, rfl⟩ : ∃ m : Nat, s = m := ⟨s.toNat, by have := hok.2.2.1; omega⟩
    have hk : (nCheck n m != 0) = false := by rw [nCheck_yes hok]; rfl
    have hn10 : n ≤ 10 := by omega
    have HOK := Lib.hid hok
    by_cases hv : (ml : Int) = nVars n m
    · have hV : ((ml : Int) != nVars n m) = false := by simp [hv]
      have HV := Lib.hid hv
      clear hok hv hbig
      by_cases hlo : init < 0
      · have e1 : decide (init < 0) = true := by simpa using hlo
        clear hlo
        go_enter Try.func15, Try.ntmps15
        go_wp2_with fail
        rw [HW1.out]
        go_wp2_with (first | (go_at_call 25; refine (num_Check _ _ _).mono ?_; rintro e w' ⟨rfl, hbC⟩; have c0 := cell_later hbC c0; have c1 := cell_later hbC c1) | (go_at_call 27; refine (num_Vars _ _ _).mono ?_; rintro e w' ⟨rfl, hbV⟩; have c0 := cell_later hbV c0; have c1 := cell_later hbV c1) | (go_at_call 53; refine (law34_awake _).mono ?_; rintro e w' ⟨rfl, hbAw⟩))
        go_returns
        exact ⟨rfl, by (repeat (first | (with_reducible exact Below.refl _ _) | (with_reducible assumption) | (with_reducible refine below_alloc ?_ _) | (with_reducible refine below_drew ?_) | (with_reducible refine below_drewN ?_ _) | (with_reducible refine below_step ?_ (by with_reducible assumption))))⟩
      have e1 : decide (init < 0) = false := by simpa using hlo
      by_cases hhi : (m : Int) ≤ init
      · have e2 : decide ((m : Int) ≤ init) = true := by simpa using hhi
        clear hlo hhi
        go_enter Try.func15, Try.ntmps15
        go_wp2_with fail
        rw [HW1.out]
        go_wp2_with (first | (go_at_call 25; refine (num_Check _ _ _).mono ?_; rintro e w' ⟨rfl, hbC⟩; have c0 := cell_later hbC c0; have c1 := cell_later hbC c1) | (go_at_call 27; refine (num_Vars _ _ _).mono ?_; rintro e w' ⟨rfl, hbV⟩; have c0 := cell_later hbV c0; have c1 := cell_later hbV c1) | (go_at_call 53; refine (law34_awake _).mono ?_; rintro e w' ⟨rfl, hbAw⟩))
        go_returns
        exact ⟨rfl, by (repeat (first | (with_reducible exact Below.refl _ _) | (with_reducible assumption) | (with_reducible refine below_alloc ?_ _) | (with_reducible refine below_drew ?_) | (with_reducible refine below_drewN ?_ _) | (with_reducible refine below_step ?_ (by with_reducible assumption))))⟩
      obtain ⟨q, rfl⟩ : ∃ q : Nat, init = q := ⟨init.toNat, by omega⟩
      have hqm : q < m := by omega
      have e2 : decide ((m : Int) ≤ q) = false := by simp; omega
      have e3 : decide (m ≤ q) = false := by simp; omega
      have HCL := Lib.hid (stC_holds (bs := bs) HOK.out (by rw [hml]; exact HV.out) hqm)
      clear hlo hhi
      have HQM := Lib.hid hqm
      clear hqm
      go_enter Try.func15, Try.ntmps15
      go_wp2_with fail
      rw [HW1.out]
      go_wp2_with (first | (go_at_call 25; refine (num_Check _ _ _).mono ?_; rintro e w' ⟨rfl, hbC⟩; have c0 := cell_later hbC c0; have c1 := cell_later hbC c1) | (go_at_call 27; refine (num_Vars _ _ _).mono ?_; rintro e w' ⟨rfl, hbV⟩; have c0 := cell_later hbV c0; have c1 := cell_later hbV c1))
      refine (sta_Row n m _ _ _ bs _ (HM.out.later (by (repeat (first | (with_reducible exact Below.refl _ _) | (with_reducible assumption) | (with_reducible refine below_alloc ?_ _) | (with_reducible refine below_drew ?_) | (with_reducible refine below_drewN ?_ _) | (with_reducible refine below_step ?_ (by with_reducible assumption))))))).mono ?_
      rintro e w2 ⟨v, rfl, hv, hb2⟩
      have c0 := cell_later hb2 c0; have c1 := cell_later hb2 c1
      cases hst : stOk n m ml bs
      · rw [stRow_false hst] at hv
        obtain ⟨la, lc, rfl, _, _, _, _⟩ := own_cells hv
        have hno : ¬ ∀ c ∈ stC n m q, holdsC bs c = true := fun h => by
          have h2 := stOk_mk HOK.out HV.out (HCL.out.1 h).1
          rw [hst] at h2; cases h2
        have HNO := Lib.hid hno
        clear hv hst hno
        go_wp2_with fail
        refine (sta_Clauses n m q _).mono ?_
        rintro e w3 ⟨u, rfl, hC, hb3⟩
        rw [show stCl n m q = stC n m q by unfold stCl; rw [if_pos ⟨HOK.out, by omega, by have := HQM.out; omega⟩]] at hC
        obtain ⟨ca, cl, cc, rfl, _, _, hCr⟩ := hC.rows
        have c0 := cell_later hb3 c0; have c1 := cell_later hb3 c1
        clear hC
        go_wp2_with fail
        refine (ref_First _ _ _ _ _ _ _ _ bs _ hCr (HM.out.later (by (repeat (first | (with_reducible exact Below.refl _ _) | (with_reducible assumption) | (with_reducible refine below_alloc ?_ _) | (with_reducible refine below_drew ?_) | (with_reducible refine below_drewN ?_ _) | (with_reducible refine below_step ?_ (by with_reducible assumption))))))).mono ?_
        rintro e w4 ⟨i, rfl, hi, hb4⟩
        have c0 := cell_later hb4 c0; have c1 := cell_later hb4 c1
        have hi0 : decide (i < 0) = false := by simpa using fun h => HNO.out (hi.1 h)
        clear hi hCr
        go_wp2_with (go_at_call 53; refine (law34_awake _).mono ?_; rintro e w' ⟨rfl, hbAw⟩)
        go_returns
        exact ⟨rfl, by (repeat (first | (with_reducible exact Below.refl _ _) | (with_reducible assumption) | (with_reducible refine below_alloc ?_ _) | (with_reducible refine below_drew ?_) | (with_reducible refine below_drewN ?_ _) | (with_reducible refine below_step ?_ (by with_reducible assumption))))⟩
      · have hall := (stOk_true hst).2.2
        rw [stRow_true hst] at hv
        obtain ⟨la, ll, lc, rfl, _, _, hlr⟩ := hv.ints
        have hll : ll = n + 1 := by rw [← hlr.1, stRows_length]
        subst hll
        obtain ⟨lb, lo, rfl, hlc⟩ := hlr.2.2 (by omega)
        have hl0 := hlc 0 (by omega)
        rw [show (stRows n m bs (n + 1)).getD 0 0 = (lastT (stB n m bs 0) m : Int) by simp [stRows, List.getD, List.range_succ_eq_map]] at hl0
        simp only [Nat.add_zero] at hl0
        have hcl : (∀ c ∈ stC n m q, holdsC bs c = true) ↔ lastT (stB n m bs 0) m = q := ⟨fun h => (HCL.out.1 h).2, fun h => HCL.out.2 ⟨hall, h⟩⟩
        have HCL2 := Lib.hid hcl
        have hgd : (((n + 1 : Nat) : Int) != (n : Int) + 1) = false := by simp
        generalize lastT (stB n m bs 0) m = x at *
        have HL0 := Lib.hid hl0
        clear hv hst hlc hlr hall hcl hl0
        go_wp2_with fail
        refine (sta_Clauses n m q _).mono ?_
        rintro e w3 ⟨u, rfl, hC, hb3⟩
        rw [show stCl n m q = stC n m q by unfold stCl; rw [if_pos ⟨HOK.out, by omega, by have := HQM.out; omega⟩]] at hC
        obtain ⟨ca, cl, cc, rfl, _, _, hCr⟩ := hC.rows
        have c0 := cell_later hb3 c0; have c1 := cell_later hb3 c1
        clear hC
        go_wp2_with fail
        refine (ref_First _ _ _ _ _ _ _ _ bs _ hCr (HM.out.later (by (repeat (first | (with_reducible exact Below.refl _ _) | (with_reducible assumption) | (with_reducible refine below_alloc ?_ _) | (with_reducible refine below_drew ?_) | (with_reducible refine below_drewN ?_ _) | (with_reducible refine below_step ?_ (by with_reducible assumption))))))).mono ?_
        rintro e w4 ⟨i, rfl, hi, hb4⟩
        have c0 := cell_later hb4 c0; have c1 := cell_later hb4 c1
        have hl1 := cell_later hb4 (by have := HL0.out; exact cell_later hb3 this)
        by_cases hxq : x = q
        · have hi0 : decide (i < 0) = true := by simpa using hi.2 (HCL2.out.2 hxq)
          have hx1 : ((x : Int) == (q : Int)) = true := by simp; omega
          have hx2 : (x == q) = true := by simpa using hxq
          clear hi hCr hxq
          go_wp2_with (go_at_call 53; refine (law34_awake _).mono ?_; rintro e w' ⟨rfl, hbAw⟩)
          go_returns
          exact ⟨rfl, by (repeat (first | (with_reducible exact Below.refl _ _) | (with_reducible assumption) | (with_reducible refine below_alloc ?_ _) | (with_reducible refine below_drew ?_) | (with_reducible refine below_drewN ?_ _) | (with_reducible refine below_step ?_ (by with_reducible assumption))))⟩
        · have hi0 : decide (i < 0) = false := by simpa using fun h => hxq (HCL2.out.1 (hi.1 h))
          have hx1 : ((x : Int) == (q : Int)) = false := by simp; omega
          have hx2 : (x == q) = false := by simpa using hxq
          clear hi hCr hxq
          go_wp2_with (go_at_call 53; refine (law34_awake _).mono ?_; rintro e w' ⟨rfl, hbAw⟩)
          go_returns
          exact ⟨rfl, by (repeat (first | (with_reducible exact Below.refl _ _) | (with_reducible assumption) | (with_reducible refine below_alloc ?_ _) | (with_reducible refine below_drew ?_) | (with_reducible refine below_drewN ?_ _) | (with_reducible refine below_step ?_ (by with_reducible assumption))))⟩
    · have hV : ((ml : Int) != nVars n m) = true := by simp [hv]
      clear hok hv hbig
      go_enter Try.func15, Try.ntmps15
      go_wp2_with fail
      all_goals (try rw [HW1.out])
      go_wp2_with (first | (go_at_call 25; refine (num_Check _ _ _).mono ?_; rintro e w' ⟨rfl, hbC⟩; have c0 := cell_later hbC c0; have c1 := cell_later hbC c1) | (go_at_call 27; refine (num_Vars _ _ _).mono ?_; rintro e w' ⟨rfl, hbV⟩; have c0 := cell_later hbV c0; have c1 := cell_later hbV c1) | (go_at_call 53; refine (law34_awake _).mono ?_; rintro e w' ⟨rfl, hbAw⟩))
      go_returns
      exact ⟨rfl, by (repeat (first | (with_reducible exact Below.refl _ _) | (with_reducible assumption) | (with_reducible refine below_alloc ?_ _) | (with_reducible refine below_drew ?_) | (with_reducible refine below_drewN ?_ _) | (with_reducible refine below_step ?_ (by with_reducible assumption))))⟩
  · have hk : (nCheck o s != 0) = true := by rw [nCheck_no hok]; rfl
    clear hok hbig
    go_enter Try.func15, Try.ntmps15
    go_wp2_with fail
    all_goals (try rw [HW1.out])
    go_wp2_with (first | (go_at_call 25; refine (num_Check _ _ _).mono ?_; rintro e w' ⟨rfl, hbC⟩; have c0 := cell_later hbC c0; have c1 := cell_later hbC c1) | (go_at_call 27; refine (num_Vars _ _ _).mono ?_; rintro e w' ⟨rfl, hbV⟩; have c0 := cell_later hbV c0; have c1 := cell_later hbV c1) | (go_at_call 53; refine (law34_awake _).mono ?_; rintro e w' ⟨rfl, hbAw⟩))
    go_returns
    exact ⟨rfl, by (repeat (first | (with_reducible exact Below.refl _ _) | (with_reducible assumption) | (with_reducible refine below_alloc ?_ _) | (with_reducible refine below_drew ?_) | (with_reducible refine below_drewN ?_ _) | (with_reducible refine below_step ?_ (by with_reducible assumption))))⟩
end Go.Proofs.Ythfcbjfeepindaa
