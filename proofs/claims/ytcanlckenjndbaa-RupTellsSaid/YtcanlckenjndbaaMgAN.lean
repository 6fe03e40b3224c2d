import Derived.Test.YtcanlckenjndbaaMgAM
namespace Go.Proofs.Ytcanlckenjndbaa
open Go.RowKit
set_option linter.unusedVariables false
set_option linter.unusedSimpArgs false
theorem asg_CountE (a : Option Addr) (len cap : Nat) (l : List Int) (a2 : Option Addr) (m cap2 : Nat) (c : List Int) (w : World) (hr : IntRow w a len l) (hr2 : IntRow w a2 m c) (hlen : len ≤ 1000000) (hlen2 : m ≤ 1000000) (hf : Fits' l) (hf2 : Fits' c) (h g o : Nat) (hh : aN l c 1 = h ∧ aN l c (-1) = g ∧ aN l c 0 = o) :
    Calls Try.prog 100 #[.slice a len cap, .slice a2 m cap2] w fun e w' => e = .returned (.agg #[.int .i64 h, .int .i64 g, .int .i64 o]) ∧ Below w.heap.size w w' :=
  (asg_Count a len cap l a2 m cap2 c w hr hr2 hlen hlen2 hf hf2).mono fun e w' hq => ⟨by rw [hq.1]; unfold cntV cntC; rw [hh.1, hh.2.1, hh.2.2], hq.2⟩
set_option maxRecDepth 100000 in
theorem asg_Clause (a : Option Addr) (len cap : Nat) (l : List Int) (a2 : Option Addr) (m cap2 : Nat) (c : List Int) (w : World) (hr : IntRow w a len l) (hr2 : IntRow w a2 m c) (hlen : len ≤ 1000000) (hlen2 : m ≤ 1000000) (hf : Fits' l) (hf2 : Fits' c) :
    Calls Try.prog 65 #[.slice a len cap, .slice a2 m cap2] w fun e w' => e = .returned (.int .i64 (aCl l c)) ∧ Below w.heap.size w w' := by
  have hct := fun h g o hh => asg_CountE a len cap l a2 m cap2 c w hr hr2 hlen hlen2 hf hf2 h g o hh
  have HA : Hid (aCl l c = if 0 < aN l c 1 then 1 else if 0 < aN l c 0 then 0 else -1) := Lib.hid rfl
  obtain ⟨h, hh⟩ : ∃ h, aN l c 1 = h := ⟨_, rfl⟩
  obtain ⟨g, hg⟩ : ∃ g, aN l c (-1) = g := ⟨_, rfl⟩
  obtain ⟨o, ho⟩ : ∃ o, aN l c 0 = o := ⟨_, rfl⟩
  have HCT := Lib.hid (hct h g o ⟨hh, hg, ho⟩)
  rw [hh, ho] at HA
  clear hct hr hr2 hh hg ho
  by_cases c1 : 0 < h
  · have HV : Hid (aCl l c = 1) := Lib.hid (by rw [HA.out, if_pos c1])
    have d1 : decide (0 < h) = true := decide_eq_true c1
    have d2 : decide (0 < (h : Int)) = true := decide_eq_true (by omega)
    go_enter Try.func65, Try.ntmps65
    go_wp2_with (refine HCT.out.mono ?_; rintro e w' ⟨rfl, hb⟩)
    go_ret
    exact ⟨ret_int HV.out.symm, by (repeat (first | (with_reducible exact Below.refl _ _) | (with_reducible assumption) | (with_reducible refine below_alloc ?_ _) | (with_reducible refine below_drew ?_) | (with_reducible refine below_drewN ?_ _) | (with_reducible refine below_step ?_ (by with_reducible assumption))))⟩
  · have d1 : decide (0 < h) = false := decide_eq_false c1
    have d2 : decide (0 < (h : Int)) = false := decide_eq_false (by omega)
    by_cases c2 : 0 < o
    · have HV : Hid (aCl l c = 0) := Lib.hid (by rw [HA.out, if_neg c1, if_pos c2])
      have d3 : decide (0 < o) = true := decide_eq_true c2
      have d4 : decide (0 < (o : Int)) = true := decide_eq_true (by omega)
      go_enter Try.func65, Try.ntmps65
      go_wp2_with (refine HCT.out.mono ?_; rintro e w' ⟨rfl, hb⟩)
      go_ret
      exact ⟨ret_int HV.out.symm, by (repeat (first | (with_reducible exact Below.refl _ _) | (with_reducible assumption) | (with_reducible refine below_alloc ?_ _) | (with_reducible refine below_drew ?_) | (with_reducible refine below_drewN ?_ _) | (with_reducible refine below_step ?_ (by with_reducible assumption))))⟩
    · have HV : Hid (aCl l c = -1) := Lib.hid (by rw [HA.out, if_neg c1, if_neg c2])
      have d3 : decide (0 < o) = false := decide_eq_false c2
      have d4 : decide (0 < (o : Int)) = false := decide_eq_false (by omega)
      go_enter Try.func65, Try.ntmps65
      go_wp2_with (refine HCT.out.mono ?_; rintro e w' ⟨rfl, hb⟩)
      go_ret
      exact ⟨ret_int HV.out.symm, by (repeat (first | (with_reducible exact Below.refl _ _) | (with_reducible assumption) | (with_reducible refine below_alloc ?_ _) | (with_reducible refine below_drew ?_) | (with_reducible refine below_drewN ?_ _) | (with_reducible refine below_step ?_ (by with_reducible assumption))))⟩
theorem unit_ways (h o : Nat) : (¬ (h = 0 ∧ o = 1) ∧ (decide (0 < h) = true ∧ decide (0 < (h : Int)) = true ∨ (decide (0 < h) = false ∧ decide (0 < (h : Int)) = false) ∧ ((o : Int) != 1) = true)) ∨ ((h = 0 ∧ o = 1) ∧ decide (0 < h) = false ∧ decide (0 < (h : Int)) = false ∧ ((o : Int) != 1) = false) := by
  simp only [decide_eq_true_eq, decide_eq_false_iff_not, bne_iff_ne, ne_eq, bne_eq_false_iff_eq]
  omega
set_option maxRecDepth 100000 in
set_option maxHeartbeats 2000000 in
theorem asg_Unit (a : Option Addr) (len cap : Nat) (l : List Int) (a2 : Option Addr) (m cap2 : Nat) (c : List Int) (w : World) (hr : IntRow w a len l) (hr2 : IntRow w a2 m c) (hlen : len ≤ 1000000) (hlen2 : m ≤ 1000000) (hf : Fits' l) (hf2 : Fits' c) :
    Calls Try.prog 66 #[.slice a len cap, .slice a2 m cap2] w fun e w' => e = .returned (.tuple #[.int .i64 (aUnit l c), .bool (aUnitOk l c)]) ∧ Below w.heap.size w w' := by
  have hct := fun h g o hh => asg_CountE a len cap l a2 m cap2 c w hr hr2 hlen hlen2 hf hf2 h g o hh
  obtain ⟨h, hh⟩ : ∃ h, aN l c 1 = h := ⟨_, rfl⟩
  obtain ⟨g, hg⟩ : ∃ g, aN l c (-1) = g := ⟨_, rfl⟩
  obtain ⟨o, ho⟩ : ∃ o, aN l c 0 = o := ⟨_, rfl⟩
  have HCT := Lib.hid (hct h g o ⟨hh, hg, ho⟩)
  have HOK : Hid (aUnitOk l c = decide (h = 0 ∧ o = 1)) := Lib.hid (by unfold aUnitOk; rw [hh, ho])
  have HR := Lib.hid hr; have HR2 := Lib.hid hr2
  have HL2 := Lib.hid hr2.1
  have HO := Lib.hid ho
  have HF2 := Lib.hid hf2
  clear hct hr hr2 hh hg ho hf2
  rcases unit_ways h o with ⟨hn, hd⟩ | ⟨hy, d1, d2, d3⟩
  · have HV : Hid (aUnitOk l c = false) := Lib.hid (by rw [HOK.out]; exact decide_eq_false hn)
    have HU : Hid (aUnit l c = 0) := Lib.hid (by unfold aUnit; rw [HV.out]; rfl)
    clear hn
    rcases hd with ⟨d1, d2⟩ | ⟨⟨d1, d2⟩, d3⟩
    all_goals
      go_enter Try.func66, Try.ntmps66
      go_wp2_with (refine HCT.out.mono ?_; rintro e w' ⟨rfl, hb⟩)
      go_ret2
      exact ⟨ret_intb HU.out.symm HV.out.symm, by (repeat (first | (with_reducible exact Below.refl _ _) | (with_reducible assumption) | (with_reducible refine below_alloc ?_ _) | (with_reducible refine below_drew ?_) | (with_reducible refine below_drewN ?_ _) | (with_reducible refine below_step ?_ (by with_reducible assumption))))⟩
  · have HV : Hid (aUnitOk l c = true) := Lib.hid (by rw [HOK.out]; exact decide_eq_true hy)
    have HO1 : Hid (0 < aN l c 0) := Lib.hid (by rw [HO.out]; omega)
    clear hy
    go_enter Try.func66, Try.ntmps66
    go_wp2_with fail
    refine HCT.out.mono ?_
    rintro e w1 ⟨rfl, hb1⟩
    go_wp2_with fail
    have hb1' : Below w.heap.size w (w1.alloc (.cells #[.int .i64 h, .int .i64 g, .int .i64 o] 142)) := by (repeat (first | (with_reducible exact Below.refl _ _) | (with_reducible assumption) | (with_reducible refine below_alloc ?_ _) | (with_reducible refine below_drew ?_) | (with_reducible refine below_drewN ?_ _) | (with_reducible refine below_step ?_ (by with_reducible assumption))))
    generalize w1.alloc (.cells #[.int .i64 h, .int .i64 g, .int .i64 o] 142) = w2 at *
    refine (asg_values a len cap l m w2 (HR.out.later hb1') hlen hf).mono ?_
    rintro e w3 ⟨f, rfl, hv, hb3⟩
    have hB3 := below_step hb1' hb3
    have HV3 := Lib.hid hv
    have HB0 : Hid (∀ z W, Below w3.heap.size w3 W → -9223372036854775808 ≤ z ∧ z ≤ 9223372036854775807 → ∀ b, (f = .func (.func 121) #[] #[.pointer (some ⟨b, 0, none⟩)] → Calls Try.prog 121 #[.int .i64 z, .pointer (some ⟨b, 0, none⟩)] W fun e w' => e = .returned (.int .i64 (aVal l z)) ∧ Below W.heap.size W w') ∧
        (f = .func (.func 123) #[] #[.pointer (some ⟨b, 0, none⟩)] → Calls Try.prog 123 #[.int .i64 z, .pointer (some ⟨b, 0, none⟩)] W fun e w' => e = .returned (.int .i64 (aVal l z)) ∧ Below W.heap.size W w')) := Lib.hid (fun z W hW hz b => by
      have hvW := HV3.out.later hW
      have hrW := HR.out.later (below_step hB3 hW)
      constructor
      · intro e
        rcases hvW with ⟨b', _, e', h3⟩ | ⟨b', m', n', _, _, e', _⟩
        · rw [e] at e'; cases e'
          exact asg_values1 b a len cap l z W h3 hrW
        · rw [e] at e'; cases e'
      · intro e
        rcases hvW with ⟨b', _, e', h3⟩ | ⟨b', m', n', _, _, e', h4, h5⟩
        · rw [e] at e'; cases e'
        · rw [e] at e'; cases e'
          exact asg_values2 b m' n' l z W h4 h5 hz.1 hz.2)
    rcases hv with ⟨bb, _, hfe, _⟩ | ⟨bb, mm, nn, _, _, hfe, _, _⟩
    all_goals
      have HFE := Lib.hid hfe
      have HCV := Lib.hid (fun z W hW hz => by first | exact (HB0.out z W hW hz bb).1 hfe | exact (HB0.out z W hW hz bb).2 hfe)
      rw [hfe]
      clear hfe
      go_wp2_with fail
      go_loopw [9, 27] (fun _ i wr => ∃ k : Nat, k ≤ m ∧ i = .int .i64 k ∧ (∀ j, j < k → aIs l 0 (c.getD j 0) = false) ∧ Below w3.heap.size w3 wr) (fun _ i _ => m - (intOf i).toNat)
      case atStart => exact ⟨0, Nat.zero_le _, rfl, (fun j hj => by omega), Below.refl _ _⟩
      case round =>
        obtain ⟨k, hk, rfl, hno, hbr⟩ := hrel
        have HNO := Lib.hid hno
        clear hno
        have t1 : (0 : Int) ≤ (k : Int) := by omega
        by_cases hlt : k < m
        · have hra := HR2.out.later (below_step hB3 hbr)
          obtain ⟨b, off, rfl, hc⟩ := hra.2.2 (by omega)
          have hck := hc k hlt
          have t2 : (k : Int) < (m : Int) := by omega
          have HM := Lib.hid (at_mem HL2.out hlt)
          have hct := fun W hW => HCV.out (c.getD k 0) W hW (HF2.out _ HM.out)
          have HCT2 := Lib.hid hct
          have hAI : aIs l 0 (c.getD k 0) = decide (lvar (c.getD k 0) ≠ 0 ∧ aVal l (c.getD k 0) = 0) := rfl
          have HN1 : Hid (aIs l 0 (c.getD k 0) = false → ∀ j, j < k + 1 → aIs l 0 (c.getD j 0) = false) := Lib.hid (fun h j hj => by
            rcases Nat.lt_or_ge j k with h1 | h1
            · exact HNO.out j h1
            · rw [show j = k by omega]; exact h)
          have HUA : Hid (lvar (c.getD k 0) ≠ 0 → aVal l (c.getD k 0) = 0 → aUnit l c = c.getD k 0) := Lib.hid (fun h1 h2 => aUnit_at HV.out HM.out h1 h2)
          clear hc hra hct
          generalize c.getD k 0 = z at *
          by_cases hz0 : lvar z = 0
          · have d8 : (lvar z != 0) = false := by simpa using hz0
            have HE : Hid (aIs l 0 z = false) := Lib.hid (by rw [hAI]; exact decide_eq_false (fun h => h.1 hz0))
            clear hAI hz0
            go_wp2_with (go_at_call 57; refine (lit_Var _ _).mono ?_; rintro e w' ⟨rfl, rfl⟩)
            go_roundw
            case rel => exact ⟨k + 1, by omega, by go_num, HN1.out HE.out, by (repeat (first | (with_reducible exact Below.refl _ _) | (with_reducible assumption) | (with_reducible refine below_alloc ?_ _) | (with_reducible refine below_drew ?_) | (with_reducible refine below_drewN ?_ _) | (with_reducible refine below_step ?_ (by with_reducible assumption))))⟩
            case measure => simp [intOf]; omega
          · have d8 : (lvar z != 0) = true := by simpa using hz0
            by_cases hv0 : aVal l z = 0
            · have d9 : (aVal l z == 0) = true := by simpa using hv0
              have HE := Lib.hid (HUA.out hz0 hv0)
              clear hAI hz0 hv0
              go_wp2_with (first | (go_at_call 57; refine (lit_Var _ _).mono ?_; rintro e w' ⟨rfl, rfl⟩) | (refine (HCT2.out _ (by (repeat (first | (with_reducible exact Below.refl _ _) | (with_reducible assumption) | (with_reducible refine below_alloc ?_ _) | (with_reducible refine below_drew ?_) | (with_reducible refine below_drewN ?_ _) | (with_reducible refine below_step ?_ (by with_reducible assumption)))))).mono ?_; rintro e w' ⟨rfl, hbq⟩))
              go_ret2
              exact ⟨ret_intb HE.out.symm HV.out.symm, by (repeat (first | (with_reducible exact Below.refl _ _) | (with_reducible assumption) | (with_reducible refine below_alloc ?_ _) | (with_reducible refine below_drew ?_) | (with_reducible refine below_drewN ?_ _) | (with_reducible refine below_step ?_ (by with_reducible assumption))))⟩
            · have d9 : (aVal l z == 0) = false := by simpa using hv0
              have HE : Hid (aIs l 0 z = false) := Lib.hid (by rw [hAI]; exact decide_eq_false (fun h => hv0 h.2))
              clear hAI hz0 hv0
              go_wp2_with (first | (go_at_call 57; refine (lit_Var _ _).mono ?_; rintro e w' ⟨rfl, rfl⟩) | (refine (HCT2.out _ (by (repeat (first | (with_reducible exact Below.refl _ _) | (with_reducible assumption) | (with_reducible refine below_alloc ?_ _) | (with_reducible refine below_drew ?_) | (with_reducible refine below_drewN ?_ _) | (with_reducible refine below_step ?_ (by with_reducible assumption)))))).mono ?_; rintro e w' ⟨rfl, hbq⟩))
              go_roundw
              case rel => exact ⟨k + 1, by omega, by go_num, HN1.out HE.out, by (repeat (first | (with_reducible exact Below.refl _ _) | (with_reducible assumption) | (with_reducible refine below_alloc ?_ _) | (with_reducible refine below_drew ?_) | (with_reducible refine below_drewN ?_ _) | (with_reducible refine below_step ?_ (by with_reducible assumption))))⟩
              case measure => simp [intOf]; omega
        · exfalso
          have hkm : k = m := by omega
          obtain ⟨x, hx, hi⟩ := (aN_pos l c 0).1 HO1.out
          have := all_at (p := fun x => aIs l 0 x = false) HL2.out (fun i hi => HNO.out i (by omega)) x hx
          rw [hi] at this; cases this
end Go.Proofs.Ytcanlckenjndbaa
namespace Go.Proofs.Ytcanlckenjndbaa
open Go.RowKit
set_option linter.unusedVariables false
set_option linter.unusedSimpArgs false
def mdl (l : List Int) (V : Nat) : List Bool := (List.range V).map fun i : Nat => lhas l ((i : Int) + 1)
def frF (m : List Bool) (i : Nat) : Int := lmake ((i : Int) + 1) (m.getD i false)
end Go.Proofs.Ytcanlckenjndbaa
namespace Go.Proofs.Ytcanlckenjndbaa
open Go.RowKit
set_option linter.unusedVariables false
set_option linter.unusedSimpArgs false
theorem lindex_ge (x : Int) : decide (0 ≤ lindex x) = decide (lvar x ≠ 0) := by
  rw [Bool.eq_iff_iff, decide_eq_true_eq, decide_eq_true_eq]
  have hb := lvar_bd x
  unfold lindex
  by_cases h : lvar x = 0
  · rw [if_pos h]; omega
  · rw [if_neg h]; split <;> omega
set_option maxRecDepth 100000 in
set_option maxHeartbeats 2000000 in
theorem ref_Count03 (a : Option Addr) (len cap : Nat) (l : List Int) (a2 : Option Addr) (m cap2 : Nat) (c : List Int) (w : World) (hr : IntRow w a len l) (hr2 : IntRow w a2 m c) (hlen2 : m ≤ 1000000) :
    Calls Try.prog 103 #[.slice a len cap, .slice a2 m cap2] w fun e w' => e = .returned (cntV l c) ∧ Below w.heap.size w w' := by
  have HR := Lib.hid hr; have HR2 := Lib.hid hr2
  have HL2 := Lib.hid hr2.1
  have h4 : Blk ((w.alloc (.cells #[.int .i64 0, .int .i64 0, .int .i64 0] 142)).alloc (.cells #[.int .i64 0, .int .i64 0, .int .i64 0] 142)) w.heap.size (cntC 0 0 0) 142 := (Blk.made w _ _).later (below_alloc (Below.refl _ _) _)
  have h5 : Blk ((w.alloc (.cells #[.int .i64 0, .int .i64 0, .int .i64 0] 142)).alloc (.cells #[.int .i64 0, .int .i64 0, .int .i64 0] 142)) (w.heap.size + 1) (cntC 0 0 0) 142 := by
    have := Blk.made (w.alloc (.cells #[.int .i64 0, .int .i64 0, .int .i64 0] 142)) #[.int .i64 0, .int .i64 0, .int .i64 0] 142
    rw [World.size_alloc] at this
    exact this
  have hB0 : Below w.heap.size w ((w.alloc (.cells #[.int .i64 0, .int .i64 0, .int .i64 0] 142)).alloc (.cells #[.int .i64 0, .int .i64 0, .int .i64 0] 142)) := by (repeat (first | (with_reducible exact Below.refl _ _) | (with_reducible assumption) | (with_reducible refine below_alloc ?_ _) | (with_reducible refine below_drew ?_) | (with_reducible refine below_drewN ?_ _) | (with_reducible refine below_step ?_ (by with_reducible assumption))))
  clear hr hr2
  go_enter Try.func103, Try.ntmps103
  go_wp2_with fail
  generalize ((w.alloc (.cells #[.int .i64 0, .int .i64 0, .int .i64 0] 142)).alloc (.cells #[.int .i64 0, .int .i64 0, .int .i64 0] 142)) = w1 at *
  have H0 : Hid (∀ v, aN l (c.take 0) v = 0) := Lib.hid (fun v => rfl)
  go_loopw [6, 7] (fun i _ wr => ∃ k : Nat, k ≤ m ∧ i = .int .i64 k ∧ Blk wr (w.heap.size + 1) (cntC (aN l (c.take k) 1) (aN l (c.take k) (-1)) (aN l (c.take k) 0)) 142 ∧ Blk wr w.heap.size (cntC 0 0 0) 142 ∧ Below w.heap.size w wr) (fun i _ _ => m - (intOf i).toNat)
  case atStart => exact ⟨0, Nat.zero_le _, rfl, by rw [H0.out, H0.out, H0.out]; exact h5, h4, hB0⟩
  case round =>
    clear h5 h4 hB0
    obtain ⟨k, hk, rfl, h5, h4, hB⟩ := hrel
    have H5 := Lib.hid h5; have H4 := Lib.hid h4
    have t1 : (0 : Int) ≤ (k : Int) := by omega
    by_cases hlt : k < m
    · have hra := HR2.out.later hB
      obtain ⟨b, off, rfl, hc⟩ := hra.2.2 (by omega)
      have hck := hc k hlt
      have t2 : (k : Int) < (m : Int) := by omega
      have HT : Hid (c.take (k + 1) = c.take k ++ [c.getD k 0]) := Lib.hid (take_snoc c k (by rw [HL2.out]; exact hlt))
      have hst : ∀ v, aN l (c.take (k + 1)) v = aN l (c.take k) v + if aIs l v (c.getD k 0) = true then 1 else 0 := fun v => by rw [HT.out, aN_snoc]
      have s1 := hst 1; have s2 := hst (-1); have s3 := hst 0
      have hl1 : aN l (c.take k) 1 ≤ 1000000 := Nat.le_trans (aN_le _ _ _) (by rw [List.length_take]; omega)
      have hl2 : aN l (c.take k) (-1) ≤ 1000000 := Nat.le_trans (aN_le _ _ _) (by rw [List.length_take]; omega)
      have hl3 : aN l (c.take k) 0 ≤ 1000000 := Nat.le_trans (aN_le _ _ _) (by rw [List.length_take]; omega)
      have hrl := HR.out.later hB
      have HRL := Lib.hid hrl
      clear hra hc hst hrl h5 h4
      generalize c.getD k 0 = x at *
      generalize aN l (c.take k) 1 = h at *
      generalize aN l (c.take k) (-1) = g at *
      generalize aN l (c.take k) 0 = o at *
      have q0 := H5.out.cell 0; have q1 := H5.out.cell 1; have q2 := H5.out.cell 2
      have f0 := H5.out.free 0; have f1 := H5.out.free 1; have f2 := H5.out.free 2
      simp [cntC] at q0 q1 q2
      rcases aVal_cases l x with ⟨p, k2⟩ | ⟨p, ⟨_, k2⟩ | ⟨_, _, k2⟩ | ⟨_, _, k2⟩⟩
      all_goals
        have i1 : aIs l 1 x = decide (lvar x ≠ 0 ∧ aVal l x = 1) := rfl
        have i2 : aIs l (-1) x = decide (lvar x ≠ 0 ∧ aVal l x = -1) := rfl
        have i3 : aIs l 0 x = decide (lvar x ≠ 0 ∧ aVal l x = 0) := rfl
        rw [k2] at i1 i2 i3
        simp [p] at i1 i2 i3
        first
        | have gix : decide (0 ≤ lindex x) = false := by (rw [lindex_ge]; exact decide_eq_false (fun hh => hh p))
        | have gix : decide (0 ≤ lindex x) = true := by (rw [lindex_ge]; exact decide_eq_true p)
        rw [i1] at s1; rw [i2] at s2; rw [i3] at s3
        simp only [if_true, if_false, Bool.false_eq_true, Nat.add_zero] at s1 s2 s3
        have S1 := Lib.hid s1; have S2 := Lib.hid s2; have S3 := Lib.hid s3
        have HK2 := Lib.hid k2
        clear i1 i2 i3 p k2 s1 s2 s3
        go_wp2_with (first | (go_at_call 102; refine (ref_Value03 _ _ _ _ _ _ HRL.out).mono ?_; rintro e w' ⟨rfl, rfl⟩; rw [HK2.out]) | (go_at_call 36; refine (ref_Index _ _).mono ?_; rintro e w' ⟨rfl, rfl⟩))
        all_goals first
        | (exfalso; omega)
        | (go_roundw
           case rel =>
             refine ⟨k + 1, by omega, by go_num, ?_, by first | exact H4.out | exact H4.out.other (a := ⟨w.heap.size + 1, _, none⟩) (by show w.heap.size + 1 ≠ _; omega) _, by first | exact hB | exact below_set hB (by omega) _ _⟩
             rw [S1.out, S2.out, S3.out]
             first
             | exact H5.out
             | (have z := H5.out.set 0 (.int .i64 ((h : Int) + 1)); unfold cntC at z ⊢; rw [set0] at z; exact z)
             | (have z := H5.out.set 1 (.int .i64 ((g : Int) + 1)); unfold cntC at z ⊢; rw [set1] at z; exact z)
             | (have z := H5.out.set 2 (.int .i64 ((o : Int) + 1)); unfold cntC at z ⊢; rw [set2] at z; exact z)
           case measure => simp [intOf]; omega)
    · have hkm : k = m := by omega
      subst hkm
      have HT : Hid (c.take k = c) := Lib.hid (List.take_of_length_le (by rw [HL2.out]; exact Nat.le_refl _))
      rw [HT.out] at h5
      have q0 := h5.cell 0; have q1 := h5.cell 1; have q2 := h5.cell 2
      have r0 := h4.cell 0; have r1 := h4.cell 1; have r2 := h4.cell 2
      have g0 := h4.free 0; have g1 := h4.free 1; have g2 := h4.free 2
      simp [cntC] at q0 q1 q2 r0 r1 r2
      have z := ((h4.set 0 (.int .i64 (aN l c 1 : Int))).set 1 (.int .i64 (aN l c (-1) : Int))).set 2 (.int .i64 (aN l c 0 : Int))
      have z0 := z.cell 0; have z1 := z.cell 1; have z2 := z.cell 2
      simp only [cntC, set0, set1, set2] at z0 z1 z2
      have Z0 := Lib.hid z0; have Z1 := Lib.hid z1; have Z2 := Lib.hid z2
      clear h5 h4 z z0 z1 z2
      go_wp2_with fail
      have z0 := Z0.out; have z1 := Z1.out; have z2 := Z2.out
      have hbe : Below w.heap.size w (((wr.setCell ⟨w.heap.size, 0, none⟩ (.int .i64 (aN l c 1 : Int))).setCell ⟨w.heap.size, 1, none⟩ (.int .i64 (aN l c (-1) : Int))).setCell ⟨w.heap.size, 2, none⟩ (.int .i64 (aN l c 0 : Int))) := below_set (below_set (below_set hB (Nat.le_refl _) _ _) (Nat.le_refl _) _ _) (Nat.le_refl _) _ _
      generalize (((wr.setCell ⟨w.heap.size, 0, none⟩ (.int .i64 (aN l c 1 : Int))).setCell ⟨w.heap.size, 1, none⟩ (.int .i64 (aN l c (-1) : Int))).setCell ⟨w.heap.size, 2, none⟩ (.int .i64 (aN l c 0 : Int))) = wz at *
      simp at z0 z1 z2
      exact bodyPost_ret (v := cntV l c) (by simp [results, Try.results103, go_sem, z0, z1, z2, cntV, cntC]) rfl ⟨rfl, hbe⟩
theorem aCl_snoc (l c : List Int) (x : Int) : aCl l (c ++ [x]) = if lvar x ≠ 0 ∧ aCl l c < aVal l x then aVal l x else aCl l c := by
  unfold aCl
  rw [aN_snoc, aN_snoc]
  have i1 : aIs l 1 x = decide (lvar x ≠ 0 ∧ aVal l x = 1) := rfl
  have i3 : aIs l 0 x = decide (lvar x ≠ 0 ∧ aVal l x = 0) := rfl
  generalize aN l c 1 = h at *
  generalize aN l c 0 = o at *
  rcases aVal_cases l x with ⟨p, k2⟩ | ⟨p, ⟨_, k2⟩ | ⟨_, _, k2⟩ | ⟨_, _, k2⟩⟩
  all_goals
    rw [k2] at i1 i3 ⊢
    simp [p] at i1 i3
    rw [i1, i3]
    simp [p] <;> (by_cases h1 : 0 < h <;> by_cases h2 : 0 < o <;> simp [h1, h2] <;> omega)
theorem aCl_in (l c : List Int) : -1 ≤ aCl l c ∧ aCl l c ≤ 1 := by unfold aCl; repeat' split <;> omega
set_option maxRecDepth 100000 in
set_option maxHeartbeats 1000000 in
theorem ref_Clause03 (a : Option Addr) (len cap : Nat) (l : List Int) (a2 : Option Addr) (m cap2 : Nat) (c : List Int) (w : World) (hr : IntRow w a len l) (hr2 : IntRow w a2 m c) :
    Calls Try.prog 67 #[.slice a len cap, .slice a2 m cap2] w fun e w' => e = .returned (.int .i64 (aCl l c)) ∧ w = w' := by
  have hm2 := hr2.2.1; unfold maxLen at hm2
  have HL2 := Lib.hid hr2.1
  have HR2 := Lib.hid hr2
  have H0 : Hid (aCl l (c.take 0) = -1) := Lib.hid rfl
  clear hr2
  go_enter Try.func67, Try.ntmps67
  go_wp2_with fail
  go_loop [5, 6] (fun b i => ∃ k : Nat, k ≤ m ∧ i = .int .i64 k ∧ b = .int .i64 (aCl l (c.take k))) (fun _ i => m - (intOf i).toNat)
  case atStart => exact ⟨0, Nat.zero_le _, rfl, by rw [H0.out]⟩
  case round =>
    obtain ⟨k, hk, rfl, rfl⟩ := hrel
    have t1 : (0 : Int) ≤ (k : Int) := by omega
    by_cases hlt : k < m
    · obtain ⟨b, off, rfl, hc⟩ := HR2.out.2.2 (by omega)
      have hck := hc k hlt
      have t2 : (k : Int) < (m : Int) := by omega
      have hst := aCl_snoc l (c.take k) (c.getD k 0)
      rw [← take_snoc c k (by rw [HL2.out]; exact hlt)] at hst
      have hin := aCl_in l (c.take k)
      clear hc
      generalize c.getD k 0 = x at *
      generalize aCl l (c.take k) = q at *
      generalize hq2 : aCl l (c.take (k + 1)) = q2 at *
      have HQ2 := Lib.hid hq2
      clear hq2
      by_cases hx : lvar x ≠ 0 ∧ q < aVal l x
      · rw [if_pos hx] at hst
        have g1 : decide (0 ≤ lindex x) = true := by rw [lindex_ge]; exact decide_eq_true hx.1
        have g2 : decide (q < aVal l x) = true := decide_eq_true hx.2
        have HST := Lib.hid hst
        clear hst hx
        go_wp2_with (first | (go_at_call 36; refine (ref_Index _ _).mono ?_; rintro e w' ⟨rfl, rfl⟩) | (go_at_call 102; refine (ref_Value03 _ _ _ _ _ _ hr).mono ?_; rintro e w' ⟨rfl, rfl⟩))
        go_round
        case rel => exact ⟨k + 1, by omega, by go_num, by rw [HQ2.out, HST.out]⟩
        case measure => simp [intOf]; omega
      · rw [if_neg hx] at hst
        have hd : (decide (0 ≤ lindex x) = false) ∨ (decide (0 ≤ lindex x) = true ∧ decide (q < aVal l x) = false) := by
          rw [lindex_ge]
          by_cases h0 : lvar x ≠ 0
          · exact Or.inr ⟨decide_eq_true h0, decide_eq_false (fun h => hx ⟨h0, h⟩)⟩
          · exact Or.inl (decide_eq_false h0)
        have HST := Lib.hid hst
        clear hst hx
        rcases hd with g1 | ⟨g1, g2⟩
        all_goals
          go_wp2_with (first | (go_at_call 36; refine (ref_Index _ _).mono ?_; rintro e w' ⟨rfl, rfl⟩) | (go_at_call 102; refine (ref_Value03 _ _ _ _ _ _ hr).mono ?_; rintro e w' ⟨rfl, rfl⟩))
          go_round
          case rel => exact ⟨k + 1, by omega, by go_num, by rw [HQ2.out, HST.out]⟩
          case measure => simp [intOf]; omega
    · have hkm : k = m := by omega
      subst hkm
      have HT : Hid (c.take k = c) := Lib.hid (List.take_of_length_le (by rw [HL2.out]; exact Nat.le_refl _))
      rw [HT.out]
      go_wp2_with fail
      go_ret
      exact ⟨rfl, rfl⟩
def opn (l c : List Int) (k : Nat) : Int := if ∃ j, j < k ∧ aIs l 0 (c.getD j 0) = true then aUnit l c else 0
set_option maxRecDepth 100000 in
set_option maxHeartbeats 1000000 in
theorem ref_Unit03 (a : Option Addr) (len cap : Nat) (l : List Int) (a2 : Option Addr) (m cap2 : Nat) (c : List Int) (w : World) (hr : IntRow w a len l) (hr2 : IntRow w a2 m c) (hlen2 : m ≤ 1000000) :
    Calls Try.prog 68 #[.slice a len cap, .slice a2 m cap2] w fun e w' => e = .returned (.tuple #[.int .i64 (aUnit l c), .bool (aUnitOk l c)]) ∧ Below w.heap.size w w' := by
  obtain ⟨h, hh⟩ : ∃ h, aN l c 1 = h := ⟨_, rfl⟩
  obtain ⟨g, hg⟩ : ∃ g, aN l c (-1) = g := ⟨_, rfl⟩
  obtain ⟨o, ho⟩ : ∃ o, aN l c 0 = o := ⟨_, rfl⟩
  have hcv : cntV l c = .agg #[.int .i64 h, .int .i64 g, .int .i64 o] := by unfold cntV cntC; rw [hh, hg, ho]
  have hct := ref_Count03 a len cap l a2 m cap2 c w hr hr2 hlen2
  rw [hcv] at hct
  have HCT := Lib.hid hct
  have HOK : Hid (aUnitOk l c = decide (h = 0 ∧ o = 1)) := Lib.hid (by unfold aUnitOk; rw [hh, ho])
  have HR := Lib.hid hr; have HR2 := Lib.hid hr2
  have HL2 := Lib.hid hr2.1
  have HO := Lib.hid ho
  clear hct hr hr2 hh hg ho hcv
  by_cases hy : h = 0 ∧ o = 1
  rotate_left
  · have HV : Hid (aUnitOk l c = false) := Lib.hid (by rw [HOK.out]; exact decide_eq_false hy)
    have HU : Hid (aUnit l c = 0) := Lib.hid (by unfold aUnit; rw [HV.out]; rfl)
    have hd : ((h : Int) != 0) = true ∨ (((h : Int) != 0) = false ∧ ((o : Int) != 1) = true) := by
      simp only [bne_iff_ne, ne_eq, bne_eq_false_iff_eq]; omega
    clear hy
    rcases hd with d1 | ⟨d1, d2⟩
    all_goals
      go_enter Try.func68, Try.ntmps68
      go_wp2_with (refine HCT.out.mono ?_; rintro e w' ⟨rfl, hb⟩)
      go_ret2
      exact ⟨ret_intb HU.out.symm HV.out.symm, by (repeat (first | (with_reducible exact Below.refl _ _) | (with_reducible assumption) | (with_reducible refine below_alloc ?_ _) | (with_reducible refine below_drew ?_) | (with_reducible refine below_drewN ?_ _) | (with_reducible refine below_step ?_ (by with_reducible assumption))))⟩
  · have HV : Hid (aUnitOk l c = true) := Lib.hid (by rw [HOK.out]; exact decide_eq_true hy)
    have HO1 : Hid (0 < aN l c 0) := Lib.hid (by rw [HO.out]; omega)
    have d1 : ((h : Int) != 0) = false := by simp; omega
    have d2 : ((o : Int) != 1) = false := by simp; omega
    clear hy
    go_enter Try.func68, Try.ntmps68
    go_wp2_with (refine HCT.out.mono ?_; rintro e w' ⟨rfl, hb⟩)
    have hb1 : Below w.heap.size w (w'.alloc (.cells #[.int .i64 h, .int .i64 g, .int .i64 o] 142)) := by (repeat (first | (with_reducible exact Below.refl _ _) | (with_reducible assumption) | (with_reducible refine below_alloc ?_ _) | (with_reducible refine below_drew ?_) | (with_reducible refine below_drewN ?_ _) | (with_reducible refine below_step ?_ (by with_reducible assumption))))
    generalize w'.alloc (.cells #[.int .i64 h, .int .i64 g, .int .i64 o] 142) = w2 at *
    have H0 : Hid (opn l c 0 = 0) := Lib.hid (by unfold opn; rw [if_neg]; rintro ⟨j, hj, _⟩; omega)
    clear hb
    go_loop [7, 8] (fun b i => ∃ k : Nat, k ≤ m ∧ i = .int .i64 k ∧ b = .int .i64 (opn l c k)) (fun _ i => m - (intOf i).toNat)
    case atStart => exact ⟨0, Nat.zero_le _, rfl, by rw [H0.out]⟩
    case round =>
      obtain ⟨k, hk, rfl, rfl⟩ := hrel
      have t1 : (0 : Int) ≤ (k : Int) := by omega
      by_cases hlt : k < m
      · have hra := HR2.out.later hb1
        obtain ⟨b, off, rfl, hc⟩ := hra.2.2 (by omega)
        have hck := hc k hlt
        have t2 : (k : Int) < (m : Int) := by omega
        have hrl := HR.out.later hb1
        have HRL := Lib.hid hrl
        have hmm := at_mem HL2.out hlt
        have HY : Hid (lvar (c.getD k 0) ≠ 0 → aVal l (c.getD k 0) = 0 → opn l c (k + 1) = c.getD k 0) := Lib.hid (fun h1 h2 => by
          unfold opn
          rw [if_pos ⟨k, by omega, (aIs_iff _ _ _).2 ⟨h1, h2⟩⟩]
          exact aUnit_at HV.out hmm h1 h2)
        have HN : Hid (aIs l 0 (c.getD k 0) = false → opn l c (k + 1) = opn l c k) := Lib.hid (fun h1 => by
          unfold opn
          have : (∃ j, j < k + 1 ∧ aIs l 0 (c.getD j 0) = true) ↔ (∃ j, j < k ∧ aIs l 0 (c.getD j 0) = true) := by
            constructor
            · rintro ⟨j, hj, h⟩
              rcases Nat.lt_or_ge j k with h2 | h2
              · exact ⟨j, h2, h⟩
              · rw [show j = k by omega, h1] at h; cases h
            · rintro ⟨j, hj, h⟩; exact ⟨j, by omega, h⟩
          simp only [this])
        have hAI : aIs l 0 (c.getD k 0) = decide (lvar (c.getD k 0) ≠ 0 ∧ aVal l (c.getD k 0) = 0) := rfl
        clear hc hra hrl hmm
        generalize c.getD k 0 = x at *
        generalize opn l c k = q at *
        generalize hq2 : opn l c (k + 1) = q2 at *
        have HQ2 := Lib.hid hq2
        clear hq2
        by_cases hx : lvar x ≠ 0 ∧ aVal l x = 0
        · have g1 : decide (0 ≤ lindex x) = true := by rw [lindex_ge]; exact decide_eq_true hx.1
          have g2 : (aVal l x == 0) = true := by simpa using hx.2
          have HST := Lib.hid (HY.out hx.1 hx.2)
          clear hAI hx
          go_wp2_with (first | (go_at_call 36; refine (ref_Index _ _).mono ?_; rintro e w' ⟨rfl, rfl⟩) | (go_at_call 102; refine (ref_Value03 _ _ _ _ _ _ HRL.out).mono ?_; rintro e w' ⟨rfl, rfl⟩))
          go_round
          case rel => exact ⟨k + 1, by omega, by go_num, by rw [HQ2.out, HST.out]⟩
          case measure => simp [intOf]; omega
        · have hd : (decide (0 ≤ lindex x) = false) ∨ (decide (0 ≤ lindex x) = true ∧ (aVal l x == 0) = false) := by
            rw [lindex_ge]
            by_cases h0 : lvar x ≠ 0
            · exact Or.inr ⟨decide_eq_true h0, by simpa using fun h => hx ⟨h0, h⟩⟩
            · exact Or.inl (decide_eq_false h0)
          have HST := Lib.hid (HN.out (by rw [hAI]; exact decide_eq_false hx))
          clear hAI hx
          rcases hd with g1 | ⟨g1, g2⟩
          all_goals
            go_wp2_with (first | (go_at_call 36; refine (ref_Index _ _).mono ?_; rintro e w' ⟨rfl, rfl⟩) | (go_at_call 102; refine (ref_Value03 _ _ _ _ _ _ HRL.out).mono ?_; rintro e w' ⟨rfl, rfl⟩))
            go_round
            case rel => exact ⟨k + 1, by omega, by go_num, by rw [HQ2.out, HST.out]⟩
            case measure => simp [intOf]; omega
      · have hkm : k = m := by omega
        subst hkm
        have HE : Hid (opn l c k = aUnit l c) := Lib.hid (by
          unfold opn
          rw [if_pos]
          obtain ⟨x, hx, hi⟩ := (aN_pos l c 0).1 HO1.out
          obtain ⟨j, hj, rfl⟩ := List.mem_iff_getElem.1 hx
          have hj2 : j < k := by rw [← HL2.out]; exact hj
          exact ⟨j, hj2, by simpa [List.getD, hj] using hi⟩)
        go_wp2_with fail
        go_ret2
        exact ⟨ret_intb HE.out HV.out.symm, hb1⟩
end Go.Proofs.Ytcanlckenjndbaa
