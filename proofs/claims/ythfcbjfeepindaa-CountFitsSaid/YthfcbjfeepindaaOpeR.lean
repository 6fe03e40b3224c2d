/- The contracts of the reference's operations: Ahead, meets, Check. -/
import Derived.Test.YthfcbjfeepindaaOpeD
namespace Go.Proofs.Ythfcbjfeepindaa
open Go.RowKit
set_option linter.unusedVariables false
set_option linter.unusedSimpArgs false

theorem ref_Ahead27 (x y : Op5) (w : World) : Calls Try.prog 114 #[opV x, opV y] w fun e w' => e = .returned (.bool (oAhead x y)) ∧ Below w.heap.size w w' := by
  obtain ⟨p, k, s, e, r⟩ := x
  obtain ⟨p', k', s', e', r'⟩ := y
  unfold opV opC oAhead
  dsimp only
  by_cases h1 : 0 ≤ e
  · by_cases h2 : e < s'
    · have e1 : decide (0 ≤ e ∧ e < s') = true := decide_eq_true ⟨h1, h2⟩
      rw [e1]; clear e1
      go_enter Try.func114, Try.ntmps114
      go_wp2_with fail
      go_returns
      exact ⟨rfl, by (repeat (first | (with_reducible exact Below.refl _ _) | (with_reducible assumption) | (with_reducible refine below_alloc ?_ _) | (with_reducible refine below_drew ?_) | (with_reducible refine below_drewN ?_ _) | (with_reducible refine below_step ?_ (by with_reducible assumption))))⟩
    · have e1 : decide (0 ≤ e ∧ e < s') = false := decide_eq_false (fun h => h2 h.2)
      have e2 : decide (e < s') = false := decide_eq_false h2
      rw [e1]; clear e1
      go_enter Try.func114, Try.ntmps114
      go_wp2_with fail
      go_returns
      exact ⟨rfl, by (repeat (first | (with_reducible exact Below.refl _ _) | (with_reducible assumption) | (with_reducible refine below_alloc ?_ _) | (with_reducible refine below_drew ?_) | (with_reducible refine below_drewN ?_ _) | (with_reducible refine below_step ?_ (by with_reducible assumption))))⟩
  · have e1 : decide (0 ≤ e ∧ e < s') = false := decide_eq_false (fun h => h1 h.1)
    have e2 : decide (0 ≤ e) = false := decide_eq_false h1
    rw [e1]; clear e1
    go_enter Try.func114, Try.ntmps114
    go_wp2_with fail
    go_returns
    exact ⟨rfl, by (repeat (first | (with_reducible exact Below.refl _ _) | (with_reducible assumption) | (with_reducible refine below_alloc ?_ _) | (with_reducible refine below_drew ?_) | (with_reducible refine below_drewN ?_ _) | (with_reducible refine below_step ?_ (by with_reducible assumption))))⟩

set_option maxHeartbeats 1000000 in
theorem ref_meets27 (x y : Op5) (w : World) : Calls Try.prog 113 #[opV x, opV y] w fun e w' => e = .returned (.bool (decide (oMeets x y))) ∧ Below w.heap.size w w' := by
  obtain ⟨p, k, s, e, r⟩ := x
  obtain ⟨p', k', s', e', r'⟩ := y
  unfold opV opC oMeets
  dsimp only
  by_cases h1 : s = s'
  · have e1 : decide (s = s' ∨ e = s' ∨ s = e' ∨ e = e' ∧ e ≠ -1) = true := decide_eq_true (Or.inl h1)
    have d1 : (s == s') = true := by simpa using h1
    rw [e1]; clear e1 h1
    go_enter Try.func113, Try.ntmps113
    go_wp2_with fail
    go_returns
    exact ⟨rfl, by (repeat (first | (with_reducible exact Below.refl _ _) | (with_reducible assumption) | (with_reducible refine below_alloc ?_ _) | (with_reducible refine below_drew ?_) | (with_reducible refine below_drewN ?_ _) | (with_reducible refine below_step ?_ (by with_reducible assumption))))⟩
  have d1 : (s == s') = false := by simpa using h1
  by_cases h2 : e = s'
  · have e1 : decide (s = s' ∨ e = s' ∨ s = e' ∨ e = e' ∧ e ≠ -1) = true := decide_eq_true (Or.inr (Or.inl h2))
    have d2 : (e == s') = true := by simpa using h2
    rw [e1]; clear e1 h1 h2
    go_enter Try.func113, Try.ntmps113
    go_wp2_with fail
    go_returns
    exact ⟨rfl, by (repeat (first | (with_reducible exact Below.refl _ _) | (with_reducible assumption) | (with_reducible refine below_alloc ?_ _) | (with_reducible refine below_drew ?_) | (with_reducible refine below_drewN ?_ _) | (with_reducible refine below_step ?_ (by with_reducible assumption))))⟩
  have d2 : (e == s') = false := by simpa using h2
  by_cases h3 : s = e'
  · have e1 : decide (s = s' ∨ e = s' ∨ s = e' ∨ e = e' ∧ e ≠ -1) = true := decide_eq_true (Or.inr (Or.inr (Or.inl h3)))
    have d3 : (s == e') = true := by simpa using h3
    rw [e1]; clear e1 h1 h2 h3
    go_enter Try.func113, Try.ntmps113
    go_wp2_with fail
    go_returns
    exact ⟨rfl, by (repeat (first | (with_reducible exact Below.refl _ _) | (with_reducible assumption) | (with_reducible refine below_alloc ?_ _) | (with_reducible refine below_drew ?_) | (with_reducible refine below_drewN ?_ _) | (with_reducible refine below_step ?_ (by with_reducible assumption))))⟩
  have d3 : (s == e') = false := by simpa using h3
  by_cases h4 : e = e'
  · have d4 : (e == e') = true := by simpa using h4
    by_cases h5 : e = -1
    · have e1 : decide (s = s' ∨ e = s' ∨ s = e' ∨ e = e' ∧ e ≠ -1) = false := decide_eq_false (fun h => h.elim h1 (fun h => h.elim h2 (fun h => h.elim h3 (fun h => h.2 h5))))
      have d5 : (e != -1) = false := by simp [h5]
      rw [e1]; clear e1 h1 h2 h3 h4 h5
      go_enter Try.func113, Try.ntmps113
      go_wp2_with fail
      go_returns
      exact ⟨rfl, by (repeat (first | (with_reducible exact Below.refl _ _) | (with_reducible assumption) | (with_reducible refine below_alloc ?_ _) | (with_reducible refine below_drew ?_) | (with_reducible refine below_drewN ?_ _) | (with_reducible refine below_step ?_ (by with_reducible assumption))))⟩
    · have e1 : decide (s = s' ∨ e = s' ∨ s = e' ∨ e = e' ∧ e ≠ -1) = true := decide_eq_true (Or.inr (Or.inr (Or.inr ⟨h4, h5⟩)))
      have d5 : (e != -1) = true := by simpa using h5
      rw [e1]; clear e1 h1 h2 h3 h4 h5
      go_enter Try.func113, Try.ntmps113
      go_wp2_with fail
      go_returns
      exact ⟨rfl, by (repeat (first | (with_reducible exact Below.refl _ _) | (with_reducible assumption) | (with_reducible refine below_alloc ?_ _) | (with_reducible refine below_drew ?_) | (with_reducible refine below_drewN ?_ _) | (with_reducible refine below_step ?_ (by with_reducible assumption))))⟩
  · have d4 : (e == e') = false := by simpa using h4
    have e1 : decide (s = s' ∨ e = s' ∨ s = e' ∨ e = e' ∧ e ≠ -1) = false := decide_eq_false (fun h => h.elim h1 (fun h => h.elim h2 (fun h => h.elim h3 (fun h => h4 h.1))))
    rw [e1]; clear e1 h1 h2 h3 h4
    go_enter Try.func113, Try.ntmps113
    go_wp2_with fail
    go_returns
    exact ⟨rfl, by (repeat (first | (with_reducible exact Below.refl _ _) | (with_reducible assumption) | (with_reducible refine below_alloc ?_ _) | (with_reducible refine below_drew ?_) | (with_reducible refine below_drewN ?_ _) | (with_reducible refine below_step ?_ (by with_reducible assumption))))⟩

/-- What is known of the ones ahead, so far. -/
def OAt27 (xs : List Op5) (i j b : Nat) (op : Bool) (w wr : World) : Prop := (∀ k, k < j → ¬ ((oAt xs k).s ≥ (oAt xs i).s ∨ oMeets (oAt xs k) (oAt xs i))) ∧ (op = true ↔ ∃ k, k < j ∧ (oAt xs k).p = (oAt xs i).p ∧ oAhead (oAt xs k) (oAt xs i) = false) ∧ Blk wr b (opC (oAt xs i)).toArray 111 ∧ Below w.heap.size w wr
theorem oMay_cases (x : Op5) : (oMay x = 2 ∧ (¬ (1 ≤ x.p ∧ x.p ≤ 1000) ∨ ¬ (0 ≤ x.s ∧ x.s ≤ 9999))) ∨ (oMay x = 31 ∧ (1 ≤ x.p ∧ x.p ≤ 1000 ∧ 0 ≤ x.s ∧ x.s ≤ 9999) ∧ ¬ (0 ≤ x.k ∧ x.k ≤ 63)) ∨
    (oMay x = 7 ∧ (1 ≤ x.p ∧ x.p ≤ 1000 ∧ 0 ≤ x.s ∧ x.s ≤ 9999 ∧ 0 ≤ x.k ∧ x.k ≤ 63) ∧ ¬ (x.e = -1 ∧ x.r = -1) ∧ ¬ (x.s < x.e ∧ x.e ≤ 9999 ∧ 0 ≤ x.r ∧ x.r ≤ 1000000)) ∨ oMay x = 0 := by
  unfold oMay
  split
  · exact Or.inl ⟨rfl, ‹_›⟩
  · split
    · exact Or.inr (Or.inl ⟨rfl, by omega, ‹_›⟩)
    · split
      · exact Or.inr (Or.inr (Or.inr rfl))
      · split
        · exact Or.inr (Or.inr (Or.inl ⟨rfl, by omega, by omega, by omega⟩))
        · exact Or.inr (Or.inr (Or.inr rfl))


set_option maxRecDepth 100000 in
set_option maxHeartbeats 4000000 in
theorem ref_Check27 (a : Option Addr) (len cap : Nat) (xs : List Op5) (w : World) (hr : OpRow w a len xs) : Calls Try.prog 100 #[.slice a len cap] w (OChkPost xs w) := by
  have hxl := hr.1
  have HR := Lib.hid hr
  have HXL := Lib.hid hxl
  by_cases hbig : 5000 < len
  · have d1 : decide (5000 < (len : Int)) = true := by simp; omega
    have d2 : decide (5000 < len) = true := by simpa using hbig
    clear hr hxl
    have HB := Lib.hid hbig
    clear hbig
    go_enter Try.func100, Try.ntmps100
    go_wp2_with fail
    go_ret2
    exact ⟨0, 3, rfl, Or.inl ⟨by rw [HXL.out]; exact HB.out, rfl, rfl⟩, Below.refl _ _⟩
  have d1 : decide (5000 < (len : Int)) = false := by simp; omega
  have d2 : decide (5000 < len) = false := by simpa using hbig
  have hlen : len ≤ 5000 := by omega
  clear hr hxl hbig
  go_enter Try.func100, Try.ntmps100
  go_wp2_with fail
  go_loopw [4] (fun i wr => ∃ k : Nat, k ≤ len ∧ i = .int .i64 k ∧ oGood xs k ∧ Below w.heap.size w wr) (fun i _ => len - (intOf i).toNat)
  case atStart => exact ⟨0, Nat.zero_le _, rfl, fun i hi => by omega, Below.refl _ _⟩
  case round =>
    obtain ⟨k, hk, rfl, hg, hbr⟩ := hrel
    obtain ⟨wo, rfl⟩ : ∃ wo : World, wo = wr := ⟨_, rfl⟩
    have HG := Lib.hid hg
    clear hg
    by_cases hlt : k < len
    · have hra := HR.out.later hbr
      obtain ⟨b, off, rfl, hc⟩ := hra.2.2 (by omega)
      obtain ⟨q0, q1, q2, q3, q4⟩ := hc k hlt
      have t1 : (0 : Int) ≤ (k : Int) := by omega
      have t2 : (k : Int) < (len : Int) := by omega
      clear hc hra
      have HERR : Hid (oMay (oAt xs k) ≠ 0 → oErr xs k = oMay (oAt xs k)) := Lib.hid (fun h => by unfold oErr; rw [if_pos h])
      rcases oMay_cases (oAt xs k) with ⟨hm, h1⟩ | ⟨hm, h1, h2⟩ | ⟨hm, h1, h2, h3⟩ | hm
      · have HM := Lib.hid hm
        clear hm
        go_wp2_with fail
        all_goals first | (exfalso; omega; done) | skip
        all_goals
          go_ret2
          exact OChkPost.err (by rw [HXL.out]; exact hlen) (by rw [HXL.out]; exact hlt) HG.out ((HERR.out (by rw [HM.out]; decide)).trans HM.out) (by decide) rfl (by (repeat (first | (with_reducible exact Below.refl _ _) | (with_reducible assumption) | (with_reducible refine below_alloc ?_ _) | (with_reducible refine below_drew ?_) | (with_reducible refine below_drewN ?_ _) | (with_reducible refine below_step ?_ (by with_reducible assumption)))))
      · have HM := Lib.hid hm
        obtain ⟨m1, m2, m3, m4⟩ := h1
        clear hm
        go_wp2_with fail
        all_goals first | (exfalso; omega; done) | skip
        all_goals
          go_ret2
          exact OChkPost.err (by rw [HXL.out]; exact hlen) (by rw [HXL.out]; exact hlt) HG.out ((HERR.out (by rw [HM.out]; decide)).trans HM.out) (by decide) rfl (by (repeat (first | (with_reducible exact Below.refl _ _) | (with_reducible assumption) | (with_reducible refine below_alloc ?_ _) | (with_reducible refine below_drew ?_) | (with_reducible refine below_drewN ?_ _) | (with_reducible refine below_step ?_ (by with_reducible assumption)))))
      · have HM := Lib.hid hm
        obtain ⟨m1, m2, m3, m4, m5, m6⟩ := h1
        clear hm
        go_wp2_with fail
        all_goals first | (exfalso; simp_all <;> omega; done) | skip
        all_goals
          go_ret2
          exact OChkPost.err (by rw [HXL.out]; exact hlen) (by rw [HXL.out]; exact hlt) HG.out ((HERR.out (by rw [HM.out]; decide)).trans HM.out) (by decide) rfl (by (repeat (first | (with_reducible exact Below.refl _ _) | (with_reducible assumption) | (with_reducible refine below_alloc ?_ _) | (with_reducible refine below_drew ?_) | (with_reducible refine below_drewN ?_ _) | (with_reducible refine below_step ?_ (by with_reducible assumption)))))
      · have hmz := oMay_zero hm
        have HM := Lib.hid hm
        obtain ⟨⟨m1, m1'⟩, ⟨m2, m2'⟩, ⟨m3, m3'⟩, m4⟩ := hmz
        have hx0 : Blk (wo.alloc (.cells (opC (oAt xs k)).toArray 111)) wo.heap.size (opC (oAt xs k)).toArray 111 := Blk.made _ _ _
        have hbw : Below w.heap.size w (wo.alloc (.cells (opC (oAt xs k)).toArray 111)) := by (repeat (first | (with_reducible exact Below.refl _ _) | (with_reducible assumption) | (with_reducible refine below_alloc ?_ _) | (with_reducible refine below_drew ?_) | (with_reducible refine below_drewN ?_ _) | (with_reducible refine below_step ?_ (by with_reducible assumption))))
        have HX0 := Lib.hid hx0
        clear hm hx0
        rcases m4 with ⟨m4, m5⟩ | ⟨m4, m5, m6, m7⟩
        · have f1 : ((oAt xs k).e == -1) = true := by simp [m4]
          have f2 : ((oAt xs k).r != -1) = false := by simp [m5]
          have f3 : ((oAt xs k).e != -1) = false := by simp [m4]
          clear m4 m5
          go_wp2_with fail
          all_goals first | (exfalso; omega; done) | skip
          go_loopw [6, 7] (fun op j wx => ∃ (t : Nat) (c : Bool), t ≤ k ∧ j = .int .i64 t ∧ op = .bool c ∧ OAt27 xs k t wo.heap.size c w wx) (fun _ j _ => k - (intOf j).toNat)
          case atStart => exact ⟨0, false, Nat.zero_le _, rfl, rfl, fun j hj => by omega, ⟨(fun h => by cases h), fun ⟨j, hj, _⟩ => by omega⟩, HX0.out, hbw⟩
          case round =>
            obtain ⟨t, c, ht, rfl, rfl, hall, hop, hblk, hbx⟩ := hrel
            have HALL := Lib.hid hall
            have HOP := Lib.hid hop
            have HBLK := Lib.hid hblk
            have x0 := hblk.cell 0
            have x1 := hblk.cell 1
            have x2 := hblk.cell 2
            have x3 := hblk.cell 3
            have x4 := hblk.cell 4
            simp [opC] at x0 x1 x2 x3 x4
            have hbl := hblk.lt
            clear hall hop hblk q0 q1 q2 q3 q4
            by_cases htk : t < k
            · have hra := HR.out.later hbx
              obtain ⟨_, _, e1, hc⟩ := hra.2.2 (by omega)
              cases e1
              obtain ⟨p0, p1, p2, p3, p4⟩ := hc t (by omega)
              have u1 : (0 : Int) ≤ (t : Int) := by omega
              have u2 : (t : Int) < (len : Int) := by omega
              have u3 : (t : Int) < (k : Int) := by omega
              clear hc hra
              by_cases hge : (oAt xs k).s ≤ (oAt xs t).s
              · have HER : Hid (oErr xs k = 32) := Lib.hid (by unfold oErr; rw [if_neg (fun h => h HM.out), if_pos ⟨t, htk, Or.inl hge⟩])
                have e1 : decide ((oAt xs k).s ≤ (oAt xs t).s) = true := decide_eq_true hge
                clear hge
                go_wp2_with fail
                go_quiet (fail)
                go_wp2_with fail
                go_ret2
                exact OChkPost.err (by rw [HXL.out]; exact hlen) (by rw [HXL.out]; exact hlt) HG.out HER.out (by decide) rfl (by (repeat (first | (with_reducible exact Below.refl _ _) | (with_reducible assumption) | (with_reducible refine below_alloc ?_ _) | (with_reducible refine below_drew ?_) | (with_reducible refine below_drewN ?_ _) | (with_reducible refine below_step ?_ (by with_reducible assumption)))))
              · have e1 : decide ((oAt xs k).s ≤ (oAt xs t).s) = false := decide_eq_false hge
                have HGE := Lib.hid hge
                clear hge
                cases hme : decide (oMeets (oAt xs t) (oAt xs k))
                rotate_left
                · have HME := Lib.hid hme
                  have HER : Hid (oErr xs k = 32) := Lib.hid (by unfold oErr; rw [if_neg (fun h => h HM.out), if_pos ⟨t, htk, Or.inr (of_decide_eq_true hme)⟩])
                  clear hme
                  go_wp2_with fail
                  go_region_held3 (fun wx => Below wr.heap.size wr wx ∧ wx.cell? ⟨wo.heap.size, 0, none⟩ = some (.int .i64 (oAt xs k).p) ∧ wx.cell? ⟨wo.heap.size, 1, none⟩ = some (.int .i64 (oAt xs k).k) ∧ wx.cell? ⟨wo.heap.size, 2, none⟩ = some (.int .i64 (oAt xs k).s) ∧ wx.cell? ⟨wo.heap.size, 3, none⟩ = some (.int .i64 (oAt xs k).e) ∧ wx.cell? ⟨wo.heap.size, 4, none⟩ = some (.int .i64 (oAt xs k).r) ∧ wx.cell? ⟨b, off + t * 5, none⟩ = some (.int .i64 (oAt xs t).p) ∧ wx.cell? ⟨b, off + t * 5 + 1, none⟩ = some (.int .i64 (oAt xs t).k) ∧ wx.cell? ⟨b, off + t * 5 + 2, none⟩ = some (.int .i64 (oAt xs t).s) ∧ wx.cell? ⟨b, off + t * 5 + 3, none⟩ = some (.int .i64 (oAt xs t).e) ∧ wx.cell? ⟨b, off + t * 5 + 4, none⟩ = some (.int .i64 (oAt xs t).r)) ((refine ⟨?_, ?_, ?_, ?_, ?_, ?_, ?_, ?_, ?_, ?_, ?_⟩; (repeat (first | (with_reducible exact Below.refl _ _) | (with_reducible assumption) | (with_reducible refine below_alloc ?_ _) | (with_reducible refine below_drew ?_) | (with_reducible refine below_drewN ?_ _) | (with_reducible refine below_step ?_ (by with_reducible assumption)))); all_goals (refine cell_later (w := wr) ?_ ?_ <;> (repeat (first | (with_reducible exact Below.refl _ _) | (with_reducible assumption) | (with_reducible refine below_alloc ?_ _) | (with_reducible refine below_drew ?_) | (with_reducible refine below_drewN ?_ _) | (with_reducible refine below_step ?_ (by with_reducible assumption))))))) (first | (go_at_call 113; refine (ref_meets27 (oAt xs t) (oAt xs k) _).mono ?_; rintro e w' ⟨rfl, hbM⟩; rw [HME.out]))
                  all_goals
                    rename_i hHeld
                    have hB := hHeld.1
                    clear hHeld
                    go_wp2_with fail
                    go_ret2
                    exact OChkPost.err (by rw [HXL.out]; exact hlen) (by rw [HXL.out]; exact hlt) HG.out HER.out (by decide) rfl (by (repeat (first | (with_reducible exact Below.refl _ _) | (with_reducible assumption) | (with_reducible refine below_alloc ?_ _) | (with_reducible refine below_drew ?_) | (with_reducible refine below_drewN ?_ _) | (with_reducible refine below_step ?_ (by with_reducible assumption)))))
                · have HME := Lib.hid hme
                  clear hme
                  have HALL2 : Hid (∀ i, i < t + 1 → ¬ ((oAt xs i).s ≥ (oAt xs k).s ∨ oMeets (oAt xs i) (oAt xs k))) := Lib.hid (fun i hi => by
                    rcases Nat.lt_or_ge i t with h | h
                    · exact HALL.out i h
                    · obtain rfl : i = t := by omega
                      exact fun h => h.elim HGE.out (of_decide_eq_false HME.out))
                  go_wp2_with fail
                  go_region_held3 (fun wx => Below wr.heap.size wr wx ∧ wx.cell? ⟨wo.heap.size, 0, none⟩ = some (.int .i64 (oAt xs k).p) ∧ wx.cell? ⟨wo.heap.size, 1, none⟩ = some (.int .i64 (oAt xs k).k) ∧ wx.cell? ⟨wo.heap.size, 2, none⟩ = some (.int .i64 (oAt xs k).s) ∧ wx.cell? ⟨wo.heap.size, 3, none⟩ = some (.int .i64 (oAt xs k).e) ∧ wx.cell? ⟨wo.heap.size, 4, none⟩ = some (.int .i64 (oAt xs k).r) ∧ wx.cell? ⟨b, off + t * 5, none⟩ = some (.int .i64 (oAt xs t).p) ∧ wx.cell? ⟨b, off + t * 5 + 1, none⟩ = some (.int .i64 (oAt xs t).k) ∧ wx.cell? ⟨b, off + t * 5 + 2, none⟩ = some (.int .i64 (oAt xs t).s) ∧ wx.cell? ⟨b, off + t * 5 + 3, none⟩ = some (.int .i64 (oAt xs t).e) ∧ wx.cell? ⟨b, off + t * 5 + 4, none⟩ = some (.int .i64 (oAt xs t).r)) ((refine ⟨?_, ?_, ?_, ?_, ?_, ?_, ?_, ?_, ?_, ?_, ?_⟩; (repeat (first | (with_reducible exact Below.refl _ _) | (with_reducible assumption) | (with_reducible refine below_alloc ?_ _) | (with_reducible refine below_drew ?_) | (with_reducible refine below_drewN ?_ _) | (with_reducible refine below_step ?_ (by with_reducible assumption)))); all_goals (refine cell_later (w := wr) ?_ ?_ <;> (repeat (first | (with_reducible exact Below.refl _ _) | (with_reducible assumption) | (with_reducible refine below_alloc ?_ _) | (with_reducible refine below_drew ?_) | (with_reducible refine below_drewN ?_ _) | (with_reducible refine below_step ?_ (by with_reducible assumption))))))) (first | (go_at_call 113; refine (ref_meets27 (oAt xs t) (oAt xs k) _).mono ?_; rintro e w5 ⟨rfl, hbM⟩; rw [HME.out]))
                  rename_i hHeld
                  obtain ⟨hB, y0, y1, y2, y3, y4, s0, s1, s2, s3, s4⟩ := hHeld
                  have hB5 : Below w.heap.size w w5 := by (repeat (first | (with_reducible exact Below.refl _ _) | (with_reducible assumption) | (with_reducible refine below_alloc ?_ _) | (with_reducible refine below_drew ?_) | (with_reducible refine below_drewN ?_ _) | (with_reducible refine below_step ?_ (by with_reducible assumption))))
                  have HBLK5 := Lib.hid (HBLK.out.later hB)
                  clear x0 x1 x2 x3 x4 p0 p1 p2 p3 p4
                  cases c
                  · cases hp : ((oAt xs t).p == (oAt xs k).p)
                    · have HOP2 : Hid (false = true ↔ ∃ i, i < t + 1 ∧ (oAt xs i).p = (oAt xs k).p ∧ oAhead (oAt xs i) (oAt xs k) = false) := Lib.hid ⟨(fun h => by cases h), fun ⟨i, hi, h1, h2⟩ => by
                        rcases Nat.lt_or_ge i t with h | h
                        · exact HOP.out.2 ⟨i, h, h1, h2⟩
                        · obtain rfl : i = t := by omega
                          simp [h1] at hp⟩
                      go_wp2_with fail
                      go_quiet (fail)
                      go_wp2_with fail
                      go_roundw
                      case rel => exact ⟨t + 1, false, by omega, by go_num, rfl, HALL2.out, HOP2.out, HBLK5.out.later (by (repeat (first | (with_reducible exact Below.refl _ _) | (with_reducible assumption) | (with_reducible refine below_alloc ?_ _) | (with_reducible refine below_drew ?_) | (with_reducible refine below_drewN ?_ _) | (with_reducible refine below_step ?_ (by with_reducible assumption))))), by (repeat (first | (with_reducible exact Below.refl _ _) | (with_reducible assumption) | (with_reducible refine below_alloc ?_ _) | (with_reducible refine below_drew ?_) | (with_reducible refine below_drewN ?_ _) | (with_reducible refine below_step ?_ (by with_reducible assumption))))⟩
                      case measure => simp [intOf]; omega
                    · cases hA : oAhead (oAt xs t) (oAt xs k)
                      · have HOP3 : Hid (∃ i, i < t + 1 ∧ (oAt xs i).p = (oAt xs k).p ∧ oAhead (oAt xs i) (oAt xs k) = false) := Lib.hid ⟨t, by omega, by simpa using hp, hA⟩
                        have HA := Lib.hid hA
                        clear hA
                        go_wp2_with fail
                        go_region_held3 (fun wx => Below w5.heap.size w5 wx ∧ wx.cell? ⟨wo.heap.size, 0, none⟩ = some (.int .i64 (oAt xs k).p) ∧ wx.cell? ⟨wo.heap.size, 1, none⟩ = some (.int .i64 (oAt xs k).k) ∧ wx.cell? ⟨wo.heap.size, 2, none⟩ = some (.int .i64 (oAt xs k).s) ∧ wx.cell? ⟨wo.heap.size, 3, none⟩ = some (.int .i64 (oAt xs k).e) ∧ wx.cell? ⟨wo.heap.size, 4, none⟩ = some (.int .i64 (oAt xs k).r) ∧ wx.cell? ⟨b, off + t * 5, none⟩ = some (.int .i64 (oAt xs t).p) ∧ wx.cell? ⟨b, off + t * 5 + 1, none⟩ = some (.int .i64 (oAt xs t).k) ∧ wx.cell? ⟨b, off + t * 5 + 2, none⟩ = some (.int .i64 (oAt xs t).s) ∧ wx.cell? ⟨b, off + t * 5 + 3, none⟩ = some (.int .i64 (oAt xs t).e) ∧ wx.cell? ⟨b, off + t * 5 + 4, none⟩ = some (.int .i64 (oAt xs t).r)) ((refine ⟨?_, ?_, ?_, ?_, ?_, ?_, ?_, ?_, ?_, ?_, ?_⟩; (repeat (first | (with_reducible exact Below.refl _ _) | (with_reducible assumption) | (with_reducible refine below_alloc ?_ _) | (with_reducible refine below_drew ?_) | (with_reducible refine below_drewN ?_ _) | (with_reducible refine below_step ?_ (by with_reducible assumption)))); all_goals (refine cell_later (w := w5) ?_ ?_ <;> (repeat (first | (with_reducible exact Below.refl _ _) | (with_reducible assumption) | (with_reducible refine below_alloc ?_ _) | (with_reducible refine below_drew ?_) | (with_reducible refine below_drewN ?_ _) | (with_reducible refine below_step ?_ (by with_reducible assumption))))))) (first | (go_at_call 114; refine (ref_Ahead27 (oAt xs t) (oAt xs k) _).mono ?_; rintro e w6 ⟨rfl, hbM⟩; rw [HA.out]))
                        rename_i hHeld
                        have hB2 := hHeld.1
                        clear hHeld
                        go_wp2_with fail
                        go_roundw
                        case rel => exact ⟨t + 1, true, by omega, by go_num, rfl, HALL2.out, ⟨fun _ => HOP3.out, fun _ => rfl⟩, HBLK5.out.later (by (repeat (first | (with_reducible exact Below.refl _ _) | (with_reducible assumption) | (with_reducible refine below_alloc ?_ _) | (with_reducible refine below_drew ?_) | (with_reducible refine below_drewN ?_ _) | (with_reducible refine below_step ?_ (by with_reducible assumption))))), by (repeat (first | (with_reducible exact Below.refl _ _) | (with_reducible assumption) | (with_reducible refine below_alloc ?_ _) | (with_reducible refine below_drew ?_) | (with_reducible refine below_drewN ?_ _) | (with_reducible refine below_step ?_ (by with_reducible assumption))))⟩
                        case measure => simp [intOf]; omega
                      · have HOP2 : Hid (false = true ↔ ∃ i, i < t + 1 ∧ (oAt xs i).p = (oAt xs k).p ∧ oAhead (oAt xs i) (oAt xs k) = false) := Lib.hid ⟨(fun h => by cases h), fun ⟨i, hi, h1, h2⟩ => by
                          rcases Nat.lt_or_ge i t with h | h
                          · exact HOP.out.2 ⟨i, h, h1, h2⟩
                          · obtain rfl : i = t := by omega
                            rw [hA] at h2; exact h2.symm⟩
                        have HA := Lib.hid hA
                        clear hA
                        go_wp2_with fail
                        go_region_held3 (fun wx => Below w5.heap.size w5 wx ∧ wx.cell? ⟨wo.heap.size, 0, none⟩ = some (.int .i64 (oAt xs k).p) ∧ wx.cell? ⟨wo.heap.size, 1, none⟩ = some (.int .i64 (oAt xs k).k) ∧ wx.cell? ⟨wo.heap.size, 2, none⟩ = some (.int .i64 (oAt xs k).s) ∧ wx.cell? ⟨wo.heap.size, 3, none⟩ = some (.int .i64 (oAt xs k).e) ∧ wx.cell? ⟨wo.heap.size, 4, none⟩ = some (.int .i64 (oAt xs k).r) ∧ wx.cell? ⟨b, off + t * 5, none⟩ = some (.int .i64 (oAt xs t).p) ∧ wx.cell? ⟨b, off + t * 5 + 1, none⟩ = some (.int .i64 (oAt xs t).k) ∧ wx.cell? ⟨b, off + t * 5 + 2, none⟩ = some (.int .i64 (oAt xs t).s) ∧ wx.cell? ⟨b, off + t * 5 + 3, none⟩ = some (.int .i64 (oAt xs t).e) ∧ wx.cell? ⟨b, off + t * 5 + 4, none⟩ = some (.int .i64 (oAt xs t).r)) ((refine ⟨?_, ?_, ?_, ?_, ?_, ?_, ?_, ?_, ?_, ?_, ?_⟩; (repeat (first | (with_reducible exact Below.refl _ _) | (with_reducible assumption) | (with_reducible refine below_alloc ?_ _) | (with_reducible refine below_drew ?_) | (with_reducible refine below_drewN ?_ _) | (with_reducible refine below_step ?_ (by with_reducible assumption)))); all_goals (refine cell_later (w := w5) ?_ ?_ <;> (repeat (first | (with_reducible exact Below.refl _ _) | (with_reducible assumption) | (with_reducible refine below_alloc ?_ _) | (with_reducible refine below_drew ?_) | (with_reducible refine below_drewN ?_ _) | (with_reducible refine below_step ?_ (by with_reducible assumption))))))) (first | (go_at_call 114; refine (ref_Ahead27 (oAt xs t) (oAt xs k) _).mono ?_; rintro e w6 ⟨rfl, hbM⟩; rw [HA.out]))
                        rename_i hHeld
                        have hB2 := hHeld.1
                        clear hHeld
                        go_wp2_with fail
                        go_roundw
                        case rel => exact ⟨t + 1, false, by omega, by go_num, rfl, HALL2.out, HOP2.out, HBLK5.out.later (by (repeat (first | (with_reducible exact Below.refl _ _) | (with_reducible assumption) | (with_reducible refine below_alloc ?_ _) | (with_reducible refine below_drew ?_) | (with_reducible refine below_drewN ?_ _) | (with_reducible refine below_step ?_ (by with_reducible assumption))))), by (repeat (first | (with_reducible exact Below.refl _ _) | (with_reducible assumption) | (with_reducible refine below_alloc ?_ _) | (with_reducible refine below_drew ?_) | (with_reducible refine below_drewN ?_ _) | (with_reducible refine below_step ?_ (by with_reducible assumption))))⟩
                        case measure => simp [intOf]; omega
                  · have HOP3 : Hid (∃ i, i < t + 1 ∧ (oAt xs i).p = (oAt xs k).p ∧ oAhead (oAt xs i) (oAt xs k) = false) := Lib.hid (by obtain ⟨i, h1, h2⟩ := HOP.out.1 rfl; exact ⟨i, by omega, h2⟩)
                    go_wp2_with fail
                    go_quiet (fail)
                    go_wp2_with fail
                    go_roundw
                    case rel => exact ⟨t + 1, true, by omega, by go_num, rfl, HALL2.out, ⟨fun _ => HOP3.out, fun _ => rfl⟩, HBLK5.out.later (by (repeat (first | (with_reducible exact Below.refl _ _) | (with_reducible assumption) | (with_reducible refine below_alloc ?_ _) | (with_reducible refine below_drew ?_) | (with_reducible refine below_drewN ?_ _) | (with_reducible refine below_step ?_ (by with_reducible assumption))))), by (repeat (first | (with_reducible exact Below.refl _ _) | (with_reducible assumption) | (with_reducible refine below_alloc ?_ _) | (with_reducible refine below_drew ?_) | (with_reducible refine below_drewN ?_ _) | (with_reducible refine below_step ?_ (by with_reducible assumption))))⟩
                    case measure => simp [intOf]; omega
            · have htk2 : t = k := by omega
              subst htk2
              have hno : ¬ oOrd xs t (oAt xs t) := fun ⟨i, h1, h2⟩ => HALL.out i h1 h2
              have HNO := Lib.hid hno
              clear hno x0 x1 x2 x3 x4
              cases c
              · have HOE : Hid (oErr xs t = 0) := Lib.hid (by unfold oErr; rw [if_neg (fun h => h HM.out), if_neg HNO.out, if_neg (show ¬ oOpen xs t (oAt xs t) from fun h => Bool.noConfusion (HOP.out.2 h))])
                go_wp2_with fail
                go_roundw
                case rel => exact ⟨t + 1, by omega, by go_num, HG.out.succ HOE.out, hbx⟩
                case measure => simp [intOf]; omega
              · have HOE : Hid (oErr xs t = 33) := Lib.hid (by unfold oErr; rw [if_neg (fun h => h HM.out), if_neg HNO.out, if_pos (show oOpen xs t (oAt xs t) from HOP.out.1 rfl)])
                go_wp2_with fail
                go_ret2
                exact OChkPost.err (by rw [HXL.out]; exact hlen) (by rw [HXL.out]; exact hlt) HG.out HOE.out (by decide) rfl hbx
        · have f1 : ((oAt xs k).e == -1) = false := by simp; omega
          have f3 : ((oAt xs k).e != -1) = true := by simp; omega
          have m8 : (oAt xs k).s < (oAt xs k).e := by omega
          clear m4
          go_wp2_with fail
          all_goals first | (exfalso; omega; done) | skip
          go_loopw [6, 7] (fun op j wx => ∃ (t : Nat) (c : Bool), t ≤ k ∧ j = .int .i64 t ∧ op = .bool c ∧ OAt27 xs k t wo.heap.size c w wx) (fun _ j _ => k - (intOf j).toNat)
          case atStart => exact ⟨0, false, Nat.zero_le _, rfl, rfl, fun j hj => by omega, ⟨(fun h => by cases h), fun ⟨j, hj, _⟩ => by omega⟩, HX0.out, hbw⟩
          case round =>
            obtain ⟨t, c, ht, rfl, rfl, hall, hop, hblk, hbx⟩ := hrel
            have HALL := Lib.hid hall
            have HOP := Lib.hid hop
            have HBLK := Lib.hid hblk
            have x0 := hblk.cell 0
            have x1 := hblk.cell 1
            have x2 := hblk.cell 2
            have x3 := hblk.cell 3
            have x4 := hblk.cell 4
            simp [opC] at x0 x1 x2 x3 x4
            have hbl := hblk.lt
            clear hall hop hblk q0 q1 q2 q3 q4
            by_cases htk : t < k
            · have hra := HR.out.later hbx
              obtain ⟨_, _, e1, hc⟩ := hra.2.2 (by omega)
              cases e1
              obtain ⟨p0, p1, p2, p3, p4⟩ := hc t (by omega)
              have u1 : (0 : Int) ≤ (t : Int) := by omega
              have u2 : (t : Int) < (len : Int) := by omega
              have u3 : (t : Int) < (k : Int) := by omega
              clear hc hra
              by_cases hge : (oAt xs k).s ≤ (oAt xs t).s
              · have HER : Hid (oErr xs k = 32) := Lib.hid (by unfold oErr; rw [if_neg (fun h => h HM.out), if_pos ⟨t, htk, Or.inl hge⟩])
                have e1 : decide ((oAt xs k).s ≤ (oAt xs t).s) = true := decide_eq_true hge
                clear hge
                go_wp2_with fail
                go_quiet (fail)
                go_wp2_with fail
                go_ret2
                exact OChkPost.err (by rw [HXL.out]; exact hlen) (by rw [HXL.out]; exact hlt) HG.out HER.out (by decide) rfl (by (repeat (first | (with_reducible exact Below.refl _ _) | (with_reducible assumption) | (with_reducible refine below_alloc ?_ _) | (with_reducible refine below_drew ?_) | (with_reducible refine below_drewN ?_ _) | (with_reducible refine below_step ?_ (by with_reducible assumption)))))
              · have e1 : decide ((oAt xs k).s ≤ (oAt xs t).s) = false := decide_eq_false hge
                have HGE := Lib.hid hge
                clear hge
                cases hme : decide (oMeets (oAt xs t) (oAt xs k))
                rotate_left
                · have HME := Lib.hid hme
                  have HER : Hid (oErr xs k = 32) := Lib.hid (by unfold oErr; rw [if_neg (fun h => h HM.out), if_pos ⟨t, htk, Or.inr (of_decide_eq_true hme)⟩])
                  clear hme
                  go_wp2_with fail
                  go_region_held3 (fun wx => Below wr.heap.size wr wx ∧ wx.cell? ⟨wo.heap.size, 0, none⟩ = some (.int .i64 (oAt xs k).p) ∧ wx.cell? ⟨wo.heap.size, 1, none⟩ = some (.int .i64 (oAt xs k).k) ∧ wx.cell? ⟨wo.heap.size, 2, none⟩ = some (.int .i64 (oAt xs k).s) ∧ wx.cell? ⟨wo.heap.size, 3, none⟩ = some (.int .i64 (oAt xs k).e) ∧ wx.cell? ⟨wo.heap.size, 4, none⟩ = some (.int .i64 (oAt xs k).r) ∧ wx.cell? ⟨b, off + t * 5, none⟩ = some (.int .i64 (oAt xs t).p) ∧ wx.cell? ⟨b, off + t * 5 + 1, none⟩ = some (.int .i64 (oAt xs t).k) ∧ wx.cell? ⟨b, off + t * 5 + 2, none⟩ = some (.int .i64 (oAt xs t).s) ∧ wx.cell? ⟨b, off + t * 5 + 3, none⟩ = some (.int .i64 (oAt xs t).e) ∧ wx.cell? ⟨b, off + t * 5 + 4, none⟩ = some (.int .i64 (oAt xs t).r)) ((refine ⟨?_, ?_, ?_, ?_, ?_, ?_, ?_, ?_, ?_, ?_, ?_⟩; (repeat (first | (with_reducible exact Below.refl _ _) | (with_reducible assumption) | (with_reducible refine below_alloc ?_ _) | (with_reducible refine below_drew ?_) | (with_reducible refine below_drewN ?_ _) | (with_reducible refine below_step ?_ (by with_reducible assumption)))); all_goals (refine cell_later (w := wr) ?_ ?_ <;> (repeat (first | (with_reducible exact Below.refl _ _) | (with_reducible assumption) | (with_reducible refine below_alloc ?_ _) | (with_reducible refine below_drew ?_) | (with_reducible refine below_drewN ?_ _) | (with_reducible refine below_step ?_ (by with_reducible assumption))))))) (first | (go_at_call 113; refine (ref_meets27 (oAt xs t) (oAt xs k) _).mono ?_; rintro e w' ⟨rfl, hbM⟩; rw [HME.out]))
                  all_goals
                    rename_i hHeld
                    have hB := hHeld.1
                    clear hHeld
                    go_wp2_with fail
                    go_ret2
                    exact OChkPost.err (by rw [HXL.out]; exact hlen) (by rw [HXL.out]; exact hlt) HG.out HER.out (by decide) rfl (by (repeat (first | (with_reducible exact Below.refl _ _) | (with_reducible assumption) | (with_reducible refine below_alloc ?_ _) | (with_reducible refine below_drew ?_) | (with_reducible refine below_drewN ?_ _) | (with_reducible refine below_step ?_ (by with_reducible assumption)))))
                · have HME := Lib.hid hme
                  clear hme
                  have HALL2 : Hid (∀ i, i < t + 1 → ¬ ((oAt xs i).s ≥ (oAt xs k).s ∨ oMeets (oAt xs i) (oAt xs k))) := Lib.hid (fun i hi => by
                    rcases Nat.lt_or_ge i t with h | h
                    · exact HALL.out i h
                    · obtain rfl : i = t := by omega
                      exact fun h => h.elim HGE.out (of_decide_eq_false HME.out))
                  go_wp2_with fail
                  go_region_held3 (fun wx => Below wr.heap.size wr wx ∧ wx.cell? ⟨wo.heap.size, 0, none⟩ = some (.int .i64 (oAt xs k).p) ∧ wx.cell? ⟨wo.heap.size, 1, none⟩ = some (.int .i64 (oAt xs k).k) ∧ wx.cell? ⟨wo.heap.size, 2, none⟩ = some (.int .i64 (oAt xs k).s) ∧ wx.cell? ⟨wo.heap.size, 3, none⟩ = some (.int .i64 (oAt xs k).e) ∧ wx.cell? ⟨wo.heap.size, 4, none⟩ = some (.int .i64 (oAt xs k).r) ∧ wx.cell? ⟨b, off + t * 5, none⟩ = some (.int .i64 (oAt xs t).p) ∧ wx.cell? ⟨b, off + t * 5 + 1, none⟩ = some (.int .i64 (oAt xs t).k) ∧ wx.cell? ⟨b, off + t * 5 + 2, none⟩ = some (.int .i64 (oAt xs t).s) ∧ wx.cell? ⟨b, off + t * 5 + 3, none⟩ = some (.int .i64 (oAt xs t).e) ∧ wx.cell? ⟨b, off + t * 5 + 4, none⟩ = some (.int .i64 (oAt xs t).r)) ((refine ⟨?_, ?_, ?_, ?_, ?_, ?_, ?_, ?_, ?_, ?_, ?_⟩; (repeat (first | (with_reducible exact Below.refl _ _) | (with_reducible assumption) | (with_reducible refine below_alloc ?_ _) | (with_reducible refine below_drew ?_) | (with_reducible refine below_drewN ?_ _) | (with_reducible refine below_step ?_ (by with_reducible assumption)))); all_goals (refine cell_later (w := wr) ?_ ?_ <;> (repeat (first | (with_reducible exact Below.refl _ _) | (with_reducible assumption) | (with_reducible refine below_alloc ?_ _) | (with_reducible refine below_drew ?_) | (with_reducible refine below_drewN ?_ _) | (with_reducible refine below_step ?_ (by with_reducible assumption))))))) (first | (go_at_call 113; refine (ref_meets27 (oAt xs t) (oAt xs k) _).mono ?_; rintro e w5 ⟨rfl, hbM⟩; rw [HME.out]))
                  rename_i hHeld
                  obtain ⟨hB, y0, y1, y2, y3, y4, s0, s1, s2, s3, s4⟩ := hHeld
                  have hB5 : Below w.heap.size w w5 := by (repeat (first | (with_reducible exact Below.refl _ _) | (with_reducible assumption) | (with_reducible refine below_alloc ?_ _) | (with_reducible refine below_drew ?_) | (with_reducible refine below_drewN ?_ _) | (with_reducible refine below_step ?_ (by with_reducible assumption))))
                  have HBLK5 := Lib.hid (HBLK.out.later hB)
                  clear x0 x1 x2 x3 x4 p0 p1 p2 p3 p4
                  cases c
                  · cases hp : ((oAt xs t).p == (oAt xs k).p)
                    · have HOP2 : Hid (false = true ↔ ∃ i, i < t + 1 ∧ (oAt xs i).p = (oAt xs k).p ∧ oAhead (oAt xs i) (oAt xs k) = false) := Lib.hid ⟨(fun h => by cases h), fun ⟨i, hi, h1, h2⟩ => by
                        rcases Nat.lt_or_ge i t with h | h
                        · exact HOP.out.2 ⟨i, h, h1, h2⟩
                        · obtain rfl : i = t := by omega
                          simp [h1] at hp⟩
                      go_wp2_with fail
                      go_quiet (fail)
                      go_wp2_with fail
                      go_roundw
                      case rel => exact ⟨t + 1, false, by omega, by go_num, rfl, HALL2.out, HOP2.out, HBLK5.out.later (by (repeat (first | (with_reducible exact Below.refl _ _) | (with_reducible assumption) | (with_reducible refine below_alloc ?_ _) | (with_reducible refine below_drew ?_) | (with_reducible refine below_drewN ?_ _) | (with_reducible refine below_step ?_ (by with_reducible assumption))))), by (repeat (first | (with_reducible exact Below.refl _ _) | (with_reducible assumption) | (with_reducible refine below_alloc ?_ _) | (with_reducible refine below_drew ?_) | (with_reducible refine below_drewN ?_ _) | (with_reducible refine below_step ?_ (by with_reducible assumption))))⟩
                      case measure => simp [intOf]; omega
                    · cases hA : oAhead (oAt xs t) (oAt xs k)
                      · have HOP3 : Hid (∃ i, i < t + 1 ∧ (oAt xs i).p = (oAt xs k).p ∧ oAhead (oAt xs i) (oAt xs k) = false) := Lib.hid ⟨t, by omega, by simpa using hp, hA⟩
                        have HA := Lib.hid hA
                        clear hA
                        go_wp2_with fail
                        go_region_held3 (fun wx => Below w5.heap.size w5 wx ∧ wx.cell? ⟨wo.heap.size, 0, none⟩ = some (.int .i64 (oAt xs k).p) ∧ wx.cell? ⟨wo.heap.size, 1, none⟩ = some (.int .i64 (oAt xs k).k) ∧ wx.cell? ⟨wo.heap.size, 2, none⟩ = some (.int .i64 (oAt xs k).s) ∧ wx.cell? ⟨wo.heap.size, 3, none⟩ = some (.int .i64 (oAt xs k).e) ∧ wx.cell? ⟨wo.heap.size, 4, none⟩ = some (.int .i64 (oAt xs k).r) ∧ wx.cell? ⟨b, off + t * 5, none⟩ = some (.int .i64 (oAt xs t).p) ∧ wx.cell? ⟨b, off + t * 5 + 1, none⟩ = some (.int .i64 (oAt xs t).k) ∧ wx.cell? ⟨b, off + t * 5 + 2, none⟩ = some (.int .i64 (oAt xs t).s) ∧ wx.cell? ⟨b, off + t * 5 + 3, none⟩ = some (.int .i64 (oAt xs t).e) ∧ wx.cell? ⟨b, off + t * 5 + 4, none⟩ = some (.int .i64 (oAt xs t).r)) ((refine ⟨?_, ?_, ?_, ?_, ?_, ?_, ?_, ?_, ?_, ?_, ?_⟩; (repeat (first | (with_reducible exact Below.refl _ _) | (with_reducible assumption) | (with_reducible refine below_alloc ?_ _) | (with_reducible refine below_drew ?_) | (with_reducible refine below_drewN ?_ _) | (with_reducible refine below_step ?_ (by with_reducible assumption)))); all_goals (refine cell_later (w := w5) ?_ ?_ <;> (repeat (first | (with_reducible exact Below.refl _ _) | (with_reducible assumption) | (with_reducible refine below_alloc ?_ _) | (with_reducible refine below_drew ?_) | (with_reducible refine below_drewN ?_ _) | (with_reducible refine below_step ?_ (by with_reducible assumption))))))) (first | (go_at_call 114; refine (ref_Ahead27 (oAt xs t) (oAt xs k) _).mono ?_; rintro e w6 ⟨rfl, hbM⟩; rw [HA.out]))
                        rename_i hHeld
                        have hB2 := hHeld.1
                        clear hHeld
                        go_wp2_with fail
                        go_roundw
                        case rel => exact ⟨t + 1, true, by omega, by go_num, rfl, HALL2.out, ⟨fun _ => HOP3.out, fun _ => rfl⟩, HBLK5.out.later (by (repeat (first | (with_reducible exact Below.refl _ _) | (with_reducible assumption) | (with_reducible refine below_alloc ?_ _) | (with_reducible refine below_drew ?_) | (with_reducible refine below_drewN ?_ _) | (with_reducible refine below_step ?_ (by with_reducible assumption))))), by (repeat (first | (with_reducible exact Below.refl _ _) | (with_reducible assumption) | (with_reducible refine below_alloc ?_ _) | (with_reducible refine below_drew ?_) | (with_reducible refine below_drewN ?_ _) | (with_reducible refine below_step ?_ (by with_reducible assumption))))⟩
                        case measure => simp [intOf]; omega
                      · have HOP2 : Hid (false = true ↔ ∃ i, i < t + 1 ∧ (oAt xs i).p = (oAt xs k).p ∧ oAhead (oAt xs i) (oAt xs k) = false) := Lib.hid ⟨(fun h => by cases h), fun ⟨i, hi, h1, h2⟩ => by
                          rcases Nat.lt_or_ge i t with h | h
                          · exact HOP.out.2 ⟨i, h, h1, h2⟩
                          · obtain rfl : i = t := by omega
                            rw [hA] at h2; exact h2.symm⟩
                        have HA := Lib.hid hA
                        clear hA
                        go_wp2_with fail
                        go_region_held3 (fun wx => Below w5.heap.size w5 wx ∧ wx.cell? ⟨wo.heap.size, 0, none⟩ = some (.int .i64 (oAt xs k).p) ∧ wx.cell? ⟨wo.heap.size, 1, none⟩ = some (.int .i64 (oAt xs k).k) ∧ wx.cell? ⟨wo.heap.size, 2, none⟩ = some (.int .i64 (oAt xs k).s) ∧ wx.cell? ⟨wo.heap.size, 3, none⟩ = some (.int .i64 (oAt xs k).e) ∧ wx.cell? ⟨wo.heap.size, 4, none⟩ = some (.int .i64 (oAt xs k).r) ∧ wx.cell? ⟨b, off + t * 5, none⟩ = some (.int .i64 (oAt xs t).p) ∧ wx.cell? ⟨b, off + t * 5 + 1, none⟩ = some (.int .i64 (oAt xs t).k) ∧ wx.cell? ⟨b, off + t * 5 + 2, none⟩ = some (.int .i64 (oAt xs t).s) ∧ wx.cell? ⟨b, off + t * 5 + 3, none⟩ = some (.int .i64 (oAt xs t).e) ∧ wx.cell? ⟨b, off + t * 5 + 4, none⟩ = some (.int .i64 (oAt xs t).r)) ((refine ⟨?_, ?_, ?_, ?_, ?_, ?_, ?_, ?_, ?_, ?_, ?_⟩; (repeat (first | (with_reducible exact Below.refl _ _) | (with_reducible assumption) | (with_reducible refine below_alloc ?_ _) | (with_reducible refine below_drew ?_) | (with_reducible refine below_drewN ?_ _) | (with_reducible refine below_step ?_ (by with_reducible assumption)))); all_goals (refine cell_later (w := w5) ?_ ?_ <;> (repeat (first | (with_reducible exact Below.refl _ _) | (with_reducible assumption) | (with_reducible refine below_alloc ?_ _) | (with_reducible refine below_drew ?_) | (with_reducible refine below_drewN ?_ _) | (with_reducible refine below_step ?_ (by with_reducible assumption))))))) (first | (go_at_call 114; refine (ref_Ahead27 (oAt xs t) (oAt xs k) _).mono ?_; rintro e w6 ⟨rfl, hbM⟩; rw [HA.out]))
                        rename_i hHeld
                        have hB2 := hHeld.1
                        clear hHeld
                        go_wp2_with fail
                        go_roundw
                        case rel => exact ⟨t + 1, false, by omega, by go_num, rfl, HALL2.out, HOP2.out, HBLK5.out.later (by (repeat (first | (with_reducible exact Below.refl _ _) | (with_reducible assumption) | (with_reducible refine below_alloc ?_ _) | (with_reducible refine below_drew ?_) | (with_reducible refine below_drewN ?_ _) | (with_reducible refine below_step ?_ (by with_reducible assumption))))), by (repeat (first | (with_reducible exact Below.refl _ _) | (with_reducible assumption) | (with_reducible refine below_alloc ?_ _) | (with_reducible refine below_drew ?_) | (with_reducible refine below_drewN ?_ _) | (with_reducible refine below_step ?_ (by with_reducible assumption))))⟩
                        case measure => simp [intOf]; omega
                  · have HOP3 : Hid (∃ i, i < t + 1 ∧ (oAt xs i).p = (oAt xs k).p ∧ oAhead (oAt xs i) (oAt xs k) = false) := Lib.hid (by obtain ⟨i, h1, h2⟩ := HOP.out.1 rfl; exact ⟨i, by omega, h2⟩)
                    go_wp2_with fail
                    go_quiet (fail)
                    go_wp2_with fail
                    go_roundw
                    case rel => exact ⟨t + 1, true, by omega, by go_num, rfl, HALL2.out, ⟨fun _ => HOP3.out, fun _ => rfl⟩, HBLK5.out.later (by (repeat (first | (with_reducible exact Below.refl _ _) | (with_reducible assumption) | (with_reducible refine below_alloc ?_ _) | (with_reducible refine below_drew ?_) | (with_reducible refine below_drewN ?_ _) | (with_reducible refine below_step ?_ (by with_reducible assumption))))), by (repeat (first | (with_reducible exact Below.refl _ _) | (with_reducible assumption) | (with_reducible refine below_alloc ?_ _) | (with_reducible refine below_drew ?_) | (with_reducible refine below_drewN ?_ _) | (with_reducible refine below_step ?_ (by with_reducible assumption))))⟩
                    case measure => simp [intOf]; omega
            · have htk2 : t = k := by omega
              subst htk2
              have hno : ¬ oOrd xs t (oAt xs t) := fun ⟨i, h1, h2⟩ => HALL.out i h1 h2
              have HNO := Lib.hid hno
              clear hno x0 x1 x2 x3 x4
              cases c
              · have HOE : Hid (oErr xs t = 0) := Lib.hid (by unfold oErr; rw [if_neg (fun h => h HM.out), if_neg HNO.out, if_neg (show ¬ oOpen xs t (oAt xs t) from fun h => Bool.noConfusion (HOP.out.2 h))])
                go_wp2_with fail
                go_roundw
                case rel => exact ⟨t + 1, by omega, by go_num, HG.out.succ HOE.out, hbx⟩
                case measure => simp [intOf]; omega
              · have HOE : Hid (oErr xs t = 33) := Lib.hid (by unfold oErr; rw [if_neg (fun h => h HM.out), if_neg HNO.out, if_pos (show oOpen xs t (oAt xs t) from HOP.out.1 rfl)])
                go_wp2_with fail
                go_ret2
                exact OChkPost.err (by rw [HXL.out]; exact hlen) (by rw [HXL.out]; exact hlt) HG.out HOE.out (by decide) rfl hbx
    · have hkn : k = len := by omega
      have HKN := Lib.hid hkn; clear hkn
      go_wp2_with fail
      go_ret2
      exact ⟨_, _, rfl, Or.inr (Or.inr ⟨by rw [HXL.out]; exact hlen, by rw [HXL.out, ← HKN.out]; exact HG.out, by rw [HXL.out], rfl⟩), hbr⟩
end Go.Proofs.Ythfcbjfeepindaa
