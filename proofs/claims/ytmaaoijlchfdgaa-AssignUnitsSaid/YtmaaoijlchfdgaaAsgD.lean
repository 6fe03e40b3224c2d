/- The contracts of assign's Clause, Unit and Full. -/
import Derived.Test.YtmaaoijlchfdgaaAsgC
namespace Go.Proofs.Ytmaaoijlchfdgaa
open Go.RowKit
set_option linter.unusedVariables false
set_option linter.unusedSimpArgs false

theorem asg_CountE (a : Option Addr) (len cap : Nat) (l : List Int) (a2 : Option Addr) (m cap2 : Nat) (c : List Int) (w : World) (hr : IntRow w a len l) (hr2 : IntRow w a2 m c) (hlen : len ≤ 1000000) (hlen2 : m ≤ 1000000) (hf : Fits' l) (hf2 : Fits' c) (h g o : Nat) (hh : aN l c 1 = h ∧ aN l c (-1) = g ∧ aN l c 0 = o) :
    Calls Try.prog 16 #[.slice a len cap, .slice a2 m cap2] w fun e w' => e = .returned (.agg #[.int .i64 h, .int .i64 g, .int .i64 o]) ∧ Below w.heap.size w w' :=
  (asg_Count a len cap l a2 m cap2 c w hr hr2 hlen hlen2 hf hf2).mono fun e w' hq => ⟨by rw [hq.1]; unfold cntV cntC; rw [hh.1, hh.2.1, hh.2.2], hq.2⟩
set_option maxRecDepth 100000 in
theorem asg_Clause (a : Option Addr) (len cap : Nat) (l : List Int) (a2 : Option Addr) (m cap2 : Nat) (c : List Int) (w : World) (hr : IntRow w a len l) (hr2 : IntRow w a2 m c) (hlen : len ≤ 1000000) (hlen2 : m ≤ 1000000) (hf : Fits' l) (hf2 : Fits' c) :
    Calls Try.prog 14 #[.slice a len cap, .slice a2 m cap2] w fun e w' => e = .returned (.int .i64 (aCl l c)) ∧ Below w.heap.size w w' := by
  have hct := fun h g o hh => asg_CountE a len cap l a2 m cap2 c w hr hr2 hlen hlen2 hf hf2 h g o hh
  have HA : Hid (aCl l c = if 0 < aN l c 1 then 1 else if 0 < aN l c 0 then 0 else -1) := Lib.hid rfl
  obtain ⟨h, hh⟩ : ∃ h, aN l c 1 = h := ⟨_, rfl⟩
  obtain ⟨g, hg⟩ : ∃ g, aN l c (-1) = g := ⟨_, rfl⟩
  obtain ⟨o, ho⟩ : ∃ o, aN l c 0 = o := ⟨_, rfl⟩
  have HCT := Lib.hid (hct h g o ⟨hh, hg, ho⟩)
  rw [hh, ho] at HA
  clear hct hr hr2 hh hg ho
  by_cases c1 : 0 < h
  · have HV : Hid (aCl l c = 1) := Lib.hid (by rw [HA.out, if_pos c1])
    have d1 : decide (0 < h) = true := decide_eq_true c1
    have d2 : decide (0 < (h : Int)) = true := decide_eq_true (by omega)
    go_enter Try.func14, Try.ntmps14
    go_wp2_with (refine HCT.out.mono ?_; rintro e w' ⟨rfl, hb⟩)
    go_ret
    exact ⟨ret_int HV.out.symm, by (repeat (first | (with_reducible exact Below.refl _ _) | (with_reducible assumption) | (with_reducible refine below_alloc ?_ _) | (with_reducible refine below_drew ?_) | (with_reducible refine below_drewN ?_ _) | (with_reducible refine below_step ?_ (by with_reducible assumption))))⟩
  · have d1 : decide (0 < h) = false := decide_eq_false c1
    have d2 : decide (0 < (h : Int)) = false := decide_eq_false (by omega)
    by_cases c2 : 0 < o
    · have HV : Hid (aCl l c = 0) := Lib.hid (by rw [HA.out, if_neg c1, if_pos c2])
      have d3 : decide (0 < o) = true := decide_eq_true c2
      have d4 : decide (0 < (o : Int)) = true := decide_eq_true (by omega)
      go_enter Try.func14, Try.ntmps14
      go_wp2_with (refine HCT.out.mono ?_; rintro e w' ⟨rfl, hb⟩)
      go_ret
      exact ⟨ret_int HV.out.symm, by (repeat (first | (with_reducible exact Below.refl _ _) | (with_reducible assumption) | (with_reducible refine below_alloc ?_ _) | (with_reducible refine below_drew ?_) | (with_reducible refine below_drewN ?_ _) | (with_reducible refine below_step ?_ (by with_reducible assumption))))⟩
    · have HV : Hid (aCl l c = -1) := Lib.hid (by rw [HA.out, if_neg c1, if_neg c2])
      have d3 : decide (0 < o) = false := decide_eq_false c2
      have d4 : decide (0 < (o : Int)) = false := decide_eq_false (by omega)
      go_enter Try.func14, Try.ntmps14
      go_wp2_with (refine HCT.out.mono ?_; rintro e w' ⟨rfl, hb⟩)
      go_ret
      exact ⟨ret_int HV.out.symm, by (repeat (first | (with_reducible exact Below.refl _ _) | (with_reducible assumption) | (with_reducible refine below_alloc ?_ _) | (with_reducible refine below_drew ?_) | (with_reducible refine below_drewN ?_ _) | (with_reducible refine below_step ?_ (by with_reducible assumption))))⟩

theorem unit_ways (h o : Nat) : (¬ (h = 0 ∧ o = 1) ∧ (decide (0 < h) = true ∧ decide (0 < (h : Int)) = true ∨ (decide (0 < h) = false ∧ decide (0 < (h : Int)) = false) ∧ ((o : Int) != 1) = true)) ∨ ((h = 0 ∧ o = 1) ∧ decide (0 < h) = false ∧ decide (0 < (h : Int)) = false ∧ ((o : Int) != 1) = false) := by
  simp only [decide_eq_true_eq, decide_eq_false_iff_not, bne_iff_ne, ne_eq, bne_eq_false_iff_eq]
  omega
set_option maxRecDepth 100000 in
set_option maxHeartbeats 2000000 in
theorem asg_Unit (a : Option Addr) (len cap : Nat) (l : List Int) (a2 : Option Addr) (m cap2 : Nat) (c : List Int) (w : World) (hr : IntRow w a len l) (hr2 : IntRow w a2 m c) (hlen : len ≤ 1000000) (hlen2 : m ≤ 1000000) (hf : Fits' l) (hf2 : Fits' c) :
    Calls Try.prog 8 #[.slice a len cap, .slice a2 m cap2] w fun e w' => e = .returned (.tuple #[.int .i64 (aUnit l c), .bool (aUnitOk l c)]) ∧ Below w.heap.size w w' := by
  have hct := fun h g o hh => asg_CountE a len cap l a2 m cap2 c w hr hr2 hlen hlen2 hf hf2 h g o hh
  obtain ⟨h, hh⟩ : ∃ h, aN l c 1 = h := ⟨_, rfl⟩
  obtain ⟨g, hg⟩ : ∃ g, aN l c (-1) = g := ⟨_, rfl⟩
  obtain ⟨o, ho⟩ : ∃ o, aN l c 0 = o := ⟨_, rfl⟩
  have HCT := Lib.hid (hct h g o ⟨hh, hg, ho⟩)
  have HOK : Hid (aUnitOk l c = decide (h = 0 ∧ o = 1)) := Lib.hid (by unfold aUnitOk; rw [hh, ho])
  have HR := Lib.hid hr; have HR2 := Lib.hid hr2
  have HL2 := Lib.hid hr2.1
  have HO := Lib.hid ho
  have HF2 := Lib.hid hf2
  clear hct hr hr2 hh hg ho hf2
  rcases unit_ways h o with ⟨hn, hd⟩ | ⟨hy, d1, d2, d3⟩
  · have HV : Hid (aUnitOk l c = false) := Lib.hid (by rw [HOK.out]; exact decide_eq_false hn)
    have HU : Hid (aUnit l c = 0) := Lib.hid (by unfold aUnit; rw [HV.out]; rfl)
    clear hn
    rcases hd with ⟨d1, d2⟩ | ⟨⟨d1, d2⟩, d3⟩
    all_goals
      go_enter Try.func8, Try.ntmps8
      go_wp2_with (refine HCT.out.mono ?_; rintro e w' ⟨rfl, hb⟩)
      go_ret2
      exact ⟨ret_intb HU.out.symm HV.out.symm, by (repeat (first | (with_reducible exact Below.refl _ _) | (with_reducible assumption) | (with_reducible refine below_alloc ?_ _) | (with_reducible refine below_drew ?_) | (with_reducible refine below_drewN ?_ _) | (with_reducible refine below_step ?_ (by with_reducible assumption))))⟩
  · have HV : Hid (aUnitOk l c = true) := Lib.hid (by rw [HOK.out]; exact decide_eq_true hy)
    have HO1 : Hid (0 < aN l c 0) := Lib.hid (by rw [HO.out]; omega)
    clear hy
    go_enter Try.func8, Try.ntmps8
    go_wp2_with fail
    refine HCT.out.mono ?_
    rintro e w1 ⟨rfl, hb1⟩
    go_wp2_with fail
    have hb1' : Below w.heap.size w (w1.alloc (.cells #[.int .i64 h, .int .i64 g, .int .i64 o] 31)) := by (repeat (first | (with_reducible exact Below.refl _ _) | (with_reducible assumption) | (with_reducible refine below_alloc ?_ _) | (with_reducible refine below_drew ?_) | (with_reducible refine below_drewN ?_ _) | (with_reducible refine below_step ?_ (by with_reducible assumption))))
    generalize w1.alloc (.cells #[.int .i64 h, .int .i64 g, .int .i64 o] 31) = w2 at *
    refine (asg_values a len cap l m w2 (HR.out.later hb1') hlen hf).mono ?_
    rintro e w3 ⟨f, rfl, hv, hb3⟩
    have hB3 := below_step hb1' hb3
    have HV3 := Lib.hid hv
    have HB0 : Hid (∀ z W, Below w3.heap.size w3 W → -9223372036854775808 ≤ z ∧ z ≤ 9223372036854775807 → ∀ b, (f = .func (.func 37) #[] #[.pointer (some ⟨b, 0, none⟩)] → Calls Try.prog 37 #[.int .i64 z, .pointer (some ⟨b, 0, none⟩)] W fun e w' => e = .returned (.int .i64 (aVal l z)) ∧ Below W.heap.size W w') ∧
        (f = .func (.func 38) #[] #[.pointer (some ⟨b, 0, none⟩)] → Calls Try.prog 38 #[.int .i64 z, .pointer (some ⟨b, 0, none⟩)] W fun e w' => e = .returned (.int .i64 (aVal l z)) ∧ Below W.heap.size W w')) := Lib.hid (fun z W hW hz b => by
      have hvW := HV3.out.later hW
      have hrW := HR.out.later (below_step hB3 hW)
      constructor
      · intro e
        rcases hvW with ⟨b', _, e', h3⟩ | ⟨b', m', n', _, _, e', _⟩
        · rw [e] at e'; cases e'
          exact asg_values1 b a len cap l z W h3 hrW
        · rw [e] at e'; cases e'
      · intro e
        rcases hvW with ⟨b', _, e', h3⟩ | ⟨b', m', n', _, _, e', h4, h5⟩
        · rw [e] at e'; cases e'
        · rw [e] at e'; cases e'
          exact asg_values2 b m' n' l z W h4 h5 hz.1 hz.2)
    rcases hv with ⟨bb, _, hfe, _⟩ | ⟨bb, mm, nn, _, _, hfe, _, _⟩
    all_goals
      have HFE := Lib.hid hfe
      have HCV := Lib.hid (fun z W hW hz => by first | exact (HB0.out z W hW hz bb).1 hfe | exact (HB0.out z W hW hz bb).2 hfe)
      rw [hfe]
      clear hfe
      go_wp2_with fail
      go_loopw [9, 27] (fun _ i wr => ∃ k : Nat, k ≤ m ∧ i = .int .i64 k ∧ (∀ j, j < k → aIs l 0 (c.getD j 0) = false) ∧ Below w3.heap.size w3 wr) (fun _ i _ => m - (intOf i).toNat)
      case atStart => exact ⟨0, Nat.zero_le _, rfl, (fun j hj => by omega), Below.refl _ _⟩
      case round =>
        obtain ⟨k, hk, rfl, hno, hbr⟩ := hrel
        have HNO := Lib.hid hno
        clear hno
        have t1 : (0 : Int) ≤ (k : Int) := by omega
        by_cases hlt : k < m
        · have hra := HR2.out.later (below_step hB3 hbr)
          obtain ⟨b, off, rfl, hc⟩ := hra.2.2 (by omega)
          have hck := hc k hlt
          have t2 : (k : Int) < (m : Int) := by omega
          have HM := Lib.hid (at_mem HL2.out hlt)
          have hct := fun W hW => HCV.out (c.getD k 0) W hW (HF2.out _ HM.out)
          have HCT2 := Lib.hid hct
          have hAI : aIs l 0 (c.getD k 0) = decide (lvar (c.getD k 0) ≠ 0 ∧ aVal l (c.getD k 0) = 0) := rfl
          have HN1 : Hid (aIs l 0 (c.getD k 0) = false → ∀ j, j < k + 1 → aIs l 0 (c.getD j 0) = false) := Lib.hid (fun h j hj => by
            rcases Nat.lt_or_ge j k with h1 | h1
            · exact HNO.out j h1
            · rw [show j = k by omega]; exact h)
          have HUA : Hid (lvar (c.getD k 0) ≠ 0 → aVal l (c.getD k 0) = 0 → aUnit l c = c.getD k 0) := Lib.hid (fun h1 h2 => aUnit_at HV.out HM.out h1 h2)
          clear hc hra hct
          generalize c.getD k 0 = z at *
          by_cases hz0 : lvar z = 0
          · have d8 : (lvar z != 0) = false := by simpa using hz0
            have HE : Hid (aIs l 0 z = false) := Lib.hid (by rw [hAI]; exact decide_eq_false (fun h => h.1 hz0))
            clear hAI hz0
            go_wp2_with (go_at_call 29; refine (lit_Var _ _).mono ?_; rintro e w' ⟨rfl, rfl⟩)
            go_roundw
            case rel => exact ⟨k + 1, by omega, by go_num, HN1.out HE.out, by (repeat (first | (with_reducible exact Below.refl _ _) | (with_reducible assumption) | (with_reducible refine below_alloc ?_ _) | (with_reducible refine below_drew ?_) | (with_reducible refine below_drewN ?_ _) | (with_reducible refine below_step ?_ (by with_reducible assumption))))⟩
            case measure => simp [intOf]; omega
          · have d8 : (lvar z != 0) = true := by simpa using hz0
            by_cases hv0 : aVal l z = 0
            · have d9 : (aVal l z == 0) = true := by simpa using hv0
              have HE := Lib.hid (HUA.out hz0 hv0)
              clear hAI hz0 hv0
              go_wp2_with (first | (go_at_call 29; refine (lit_Var _ _).mono ?_; rintro e w' ⟨rfl, rfl⟩) | (refine (HCT2.out _ (by (repeat (first | (with_reducible exact Below.refl _ _) | (with_reducible assumption) | (with_reducible refine below_alloc ?_ _) | (with_reducible refine below_drew ?_) | (with_reducible refine below_drewN ?_ _) | (with_reducible refine below_step ?_ (by with_reducible assumption)))))).mono ?_; rintro e w' ⟨rfl, hbq⟩))
              go_ret2
              exact ⟨ret_intb HE.out.symm HV.out.symm, by (repeat (first | (with_reducible exact Below.refl _ _) | (with_reducible assumption) | (with_reducible refine below_alloc ?_ _) | (with_reducible refine below_drew ?_) | (with_reducible refine below_drewN ?_ _) | (with_reducible refine below_step ?_ (by with_reducible assumption))))⟩
            · have d9 : (aVal l z == 0) = false := by simpa using hv0
              have HE : Hid (aIs l 0 z = false) := Lib.hid (by rw [hAI]; exact decide_eq_false (fun h => hv0 h.2))
              clear hAI hz0 hv0
              go_wp2_with (first | (go_at_call 29; refine (lit_Var _ _).mono ?_; rintro e w' ⟨rfl, rfl⟩) | (refine (HCT2.out _ (by (repeat (first | (with_reducible exact Below.refl _ _) | (with_reducible assumption) | (with_reducible refine below_alloc ?_ _) | (with_reducible refine below_drew ?_) | (with_reducible refine below_drewN ?_ _) | (with_reducible refine below_step ?_ (by with_reducible assumption)))))).mono ?_; rintro e w' ⟨rfl, hbq⟩))
              go_roundw
              case rel => exact ⟨k + 1, by omega, by go_num, HN1.out HE.out, by (repeat (first | (with_reducible exact Below.refl _ _) | (with_reducible assumption) | (with_reducible refine below_alloc ?_ _) | (with_reducible refine below_drew ?_) | (with_reducible refine below_drewN ?_ _) | (with_reducible refine below_step ?_ (by with_reducible assumption))))⟩
              case measure => simp [intOf]; omega
        · exfalso
          have hkm : k = m := by omega
          obtain ⟨x, hx, hi⟩ := (aN_pos l c 0).1 HO1.out
          have := all_at (p := fun x => aIs l 0 x = false) HL2.out (fun i hi => HNO.out i (by omega)) x hx
          rw [hi] at this; cases this
set_option maxRecDepth 100000 in
theorem asg_Full (a : Option Addr) (len cap : Nat) (l : List Int) (vars : Int) (w : World) (hr : IntRow w a len l) (hlen : len ≤ 1000000) : Calls Try.prog 24 #[.slice a len cap, .int .i64 vars] w fun e w' => e = .returned (.bool (aFull l vars)) ∧ Below w.heap.size w w' := by
  have HL := Lib.hid hr.1
  by_cases h1 : (len : Int) = vars
  · have d1 : ((len : Int) == vars) = true := by simpa using h1
    have HV : Hid (aFull l vars = (aCheck l vars == 0)) := Lib.hid (by
      unfold aFull; rw [HL.out, Bool.eq_iff_iff]; simp [h1])
    clear h1
    go_enter Try.func24, Try.ntmps24
    go_wp2_with (go_at_call 10; refine (asg_Check _ _ _ _ _ _ hr hlen).mono ?_; rintro e w' ⟨rfl, hb⟩)
    go_ret
    exact ⟨ret_bool HV.out.symm, by (repeat (first | (with_reducible exact Below.refl _ _) | (with_reducible assumption) | (with_reducible refine below_alloc ?_ _) | (with_reducible refine below_drew ?_) | (with_reducible refine below_drewN ?_ _) | (with_reducible refine below_step ?_ (by with_reducible assumption))))⟩
  · have d1 : ((len : Int) == vars) = false := by simpa using h1
    have HV : Hid (aFull l vars = false) := Lib.hid (by unfold aFull; rw [HL.out]; exact decide_eq_false (fun h => h1 h.1))
    clear h1
    go_enter Try.func24, Try.ntmps24
    go_wp2_with fail
    go_ret
    exact ⟨ret_bool HV.out.symm, by (repeat (first | (with_reducible exact Below.refl _ _) | (with_reducible assumption) | (with_reducible refine below_alloc ?_ _) | (with_reducible refine below_drew ?_) | (with_reducible refine below_drewN ?_ _) | (with_reducible refine below_step ?_ (by with_reducible assumption))))⟩
end Go.Proofs.Ytmaaoijlchfdgaa
