/- Layer 2: ClauseResolves. -/
import Derived.Test.YtcifneenbdibeaaClaA
import Derived.Test.YtcifneenbdibeaaHolds
namespace Go.Proofs.Ytcifneenbdibeaa
open Go.RowKit
set_option linter.unusedVariables false
set_option linter.unusedSimpArgs false

theorem ref_HoldsB (a : Option Addr) (len cap : Nat) (xs : List Int) (a2 : Option Addr) (len2 cap2 : Nat) (m : List Bool) (t : Bool) (w : World) (hr : IntRow w a len xs) (hm : BoolRow w a2 len2 m) (ht : holdsC m xs = t) :
    Calls Try.prog 24 #[.slice a len cap, .slice a2 len2 cap2] w fun e w' => e = .returned (.bool t) ∧ w = w' := (ref_Holds a len cap xs a2 len2 cap2 m w hr hm).mono fun e w' h => ⟨by rw [h.1, ht], by first | exact h.2 | exact h.2.symm⟩
/-- What is asked ahead of the loop is never so. -/
theorem resolves_ahead (l c : List Int) (m : List Bool) : (cSub l c && holdsC m l && !holdsC m c) = false ∧ (cTaut l && !holdsC m l) = false := by
  constructor
  · cases h1 : cSub l c
    · rfl
    · cases h2 : holdsC m l
      · rfl
      · rw [sub_holds h1 h2]; rfl
  · cases h1 : cTaut l
    · rfl
    · rw [taut_holds h1]; rfl
set_option maxRecDepth 100000 in
set_option maxHeartbeats 8000000 in
theorem clauseResolves_walk (w : World) (a : Option Addr) (len cap : Nat) (l : List Int) (hr : IntRow w a len l) (hf : Fits' l) (hcap : len ≤ cap ∧ cap ≤ maxLen ∧ (a = none → cap = 0)) (a2 : Option Addr) (len2 cap2 : Nat) (c : List Int) (hr2 : IntRow w a2 len2 c) (hf2 : Fits' c) (hcap2 : len2 ≤ cap2 ∧ cap2 ≤ maxLen ∧ (a2 = none → cap2 = 0))
    (a3 : Option Addr) (len3 cap3 : Nat) (m : List Bool) (hr3 : BoolRow w a3 len3 m) (hcap3 : len3 ≤ cap3 ∧ cap3 ≤ maxLen ∧ (a3 = none → cap3 = 0)) :
    Calls Try.prog 6 #[.slice a len cap, .slice a2 len2 cap2, .slice a3 len3 cap3] w fun e w' => e = .returned (.bool true) ∧ Below w.heap.size w w' := by
  clear hcap hcap2 hcap3
  have HR := Lib.hid hr; have HR2 := Lib.hid hr2; have HR3 := Lib.hid hr3
  have HL := Lib.hid hr.1
  have HF := Lib.hid hf; have HF2 := Lib.hid hf2
  have d5 : decide (100 < (len : Int)) = decide (100 < len) := by rw [Bool.eq_iff_iff]; simp; omega
  have d6 : decide (100 < (len2 : Int)) = decide (100 < len2) := by rw [Bool.eq_iff_iff]; simp; omega
  have d7 : decide (1000 < (len3 : Int)) = decide (1000 < len3) := by rw [Bool.eq_iff_iff]; simp; omega
  clear hr hr2 hr3 hf hf2
  by_cases h1 : 100 < len
  · rw [decide_eq_true h1] at d5
    clear h1 d6 d7
    go_enter Try.func6, Try.ntmps6
    go_wp2_with (go_at_call 7; refine (law02_awake _).mono ?_; rintro e w' ⟨rfl, hbAw⟩)
    go_returns
    exact ⟨rfl, by (repeat (first | (with_reducible exact Below.refl _ _) | (with_reducible assumption) | (with_reducible refine below_alloc ?_ _) | (with_reducible refine below_drew ?_) | (with_reducible refine below_drewN ?_ _) | (with_reducible refine below_step ?_ (by with_reducible assumption))))⟩
  rw [decide_eq_false h1] at d5
  by_cases h2 : 100 < len2
  · rw [decide_eq_true h2] at d6
    clear h1 h2 d7
    go_enter Try.func6, Try.ntmps6
    go_wp2_with (go_at_call 7; refine (law02_awake _).mono ?_; rintro e w' ⟨rfl, hbAw⟩)
    go_returns
    exact ⟨rfl, by (repeat (first | (with_reducible exact Below.refl _ _) | (with_reducible assumption) | (with_reducible refine below_alloc ?_ _) | (with_reducible refine below_drew ?_) | (with_reducible refine below_drewN ?_ _) | (with_reducible refine below_step ?_ (by with_reducible assumption))))⟩
  rw [decide_eq_false h2] at d6
  by_cases h3 : 1000 < len3
  · rw [decide_eq_true h3] at d7
    clear h1 h2 h3
    go_enter Try.func6, Try.ntmps6
    go_wp2_with (go_at_call 7; refine (law02_awake _).mono ?_; rintro e w' ⟨rfl, hbAw⟩)
    go_returns
    exact ⟨rfl, by (repeat (first | (with_reducible exact Below.refl _ _) | (with_reducible assumption) | (with_reducible refine below_alloc ?_ _) | (with_reducible refine below_drew ?_) | (with_reducible refine below_drewN ?_ _) | (with_reducible refine below_step ?_ (by with_reducible assumption))))⟩
  rw [decide_eq_false h3] at d7
  have HLA : Hid (len ≤ 100) := Lib.hid (by omega)
  have HLB : Hid (len2 ≤ 100) := Lib.hid (by omega)
  clear h1 h2 h3
  have hah := resolves_ahead l c m
  cases hs : cSub l c
  · have HS := Lib.hid hs
    cases ht : cTaut l
    · have HT := Lib.hid ht
      clear hs ht hah
      go_enter Try.func6, Try.ntmps6
      go_wp2_with fail
      refine (cla_Subset a len cap l a2 len2 cap2 c _ HR.out HR2.out (by have := HLB.out; omega) HF.out HF2.out).mono ?_; rintro e w1 ⟨rfl, hb1⟩; rw [HS.out]; have R1 := Lib.hid (HR.out.later hb1); have S1 := Lib.hid (HR2.out.later hb1); have M1 := Lib.hid (HR3.out.later hb1)
      go_wp2_with fail
      refine (cla_Taut a len cap l _ R1.out (by have := HLA.out; omega)).mono ?_; rintro e w2 ⟨rfl, hb2⟩; have hB0 := below_step hb1 hb2; rw [HT.out]; have M2 := Lib.hid (M1.out.later hb2); have R2 := Lib.hid (R1.out.later hb2)
      clear hb1 hb2 R1 S1 M1 R2 M2
      go_wp2_with fail
      have hlen := HLA.out
      go_loopw [7, 8, 9] (fun i _ _ wr => ∃ k : Nat, k ≤ len ∧ i = .int .i64 k ∧ Below w.heap.size w wr) (fun i _ _ _ => len - (intOf i).toNat)
      case atStart => exact ⟨0, Nat.zero_le _, rfl, hB0⟩
      case round =>
        clear hB0
        obtain ⟨k, hk, rfl, hbr⟩ := hrel
        have t1 : (0 : Int) ≤ (k : Int) := by omega
        by_cases hlt : k < len
        · have R1 := Lib.hid (HR.out.later hbr); have S1 := Lib.hid (HR2.out.later hbr); have M1 := Lib.hid (HR3.out.later hbr)
          obtain ⟨b, off, rfl, hc⟩ := R1.out.2.2 (by omega)
          have hck := hc k hlt
          have t2 : (k : Int) < (len : Int) := by omega
          clear hc
          generalize l.getD k 0 = z at *
          go_wp2_with fail
          refine (cla_Resolve _ len cap l a2 len2 cap2 c z _ R1.out S1.out (by have := HLA.out; omega) (by have := HLB.out; omega)).mono ?_
          rintro e w1 ⟨v1, rfl, hown1, hb1⟩
          obtain ⟨a9, l9, c9, rfl, _, _, r9⟩ := hown1.ints
          have hB1 := below_step hbr hb1
          have R2 := Lib.hid (R1.out.later hb1); have S2 := Lib.hid (S1.out.later hb1); have M2 := Lib.hid (M1.out.later hb1)
          have Q2 := Lib.hid r9
          have hRH : cResE l c z = 0 → holdsC m l = true → holdsC m c = true → holdsC m (cRes l c z) = true := fun h1 h2 h3 => res_holds h1 h2 h3
          have HRH := Lib.hid hRH
          clear hown1 r9 hb1 R1 S1 M1 hck hRH
          generalize cRes l c z = RR at *
          generalize hE : cResE l c z = E at *
          clear hE
          by_cases he : E = 0
          · have d8 : (E == 0) = true := by simpa using he
            cases hA : holdsC m l
            · have HA := Lib.hid hA
              clear hA he
              go_wp2_with fail
              refine (ref_HoldsB _ len cap l a3 len3 cap3 m false _ R2.out M2.out HA.out).mono ?_
              rintro e wq ⟨rfl, hq⟩
              obtain rfl := hq
              go_wp2_with fail
              go_roundw
              case rel => exact ⟨k + 1, by omega, by go_num, hB1⟩
              case measure => simp [intOf]; omega
            · cases hC : holdsC m c
              · have HA := Lib.hid hA; have HC := Lib.hid hC
                clear hA hC he
                go_wp2_with fail
                refine (ref_HoldsB _ len cap l a3 len3 cap3 m true _ R2.out M2.out HA.out).mono ?_
                rintro e wq ⟨rfl, hq⟩
                obtain rfl := hq
                go_wp2_with fail
                refine (ref_HoldsB _ len2 cap2 c a3 len3 cap3 m false _ S2.out M2.out HC.out).mono ?_
                rintro e wq ⟨rfl, hq⟩
                obtain rfl := hq
                go_wp2_with fail
                go_roundw
                case rel => exact ⟨k + 1, by omega, by go_num, hB1⟩
                case measure => simp [intOf]; omega
              · have HA := Lib.hid hA; have HC := Lib.hid hC
                have HH := Lib.hid (HRH.out he hA hC)
                clear hA hC he
                go_wp2_with fail
                refine (ref_HoldsB _ len cap l a3 len3 cap3 m true _ R2.out M2.out HA.out).mono ?_
                rintro e wq ⟨rfl, hq⟩
                obtain rfl := hq
                go_wp2_with fail
                refine (ref_HoldsB _ len2 cap2 c a3 len3 cap3 m true _ S2.out M2.out HC.out).mono ?_
                rintro e wq ⟨rfl, hq⟩
                obtain rfl := hq
                go_wp2_with fail
                refine (ref_HoldsB _ l9 c9 RR a3 len3 cap3 m true _ Q2.out M2.out HH.out).mono ?_
                rintro e wq ⟨rfl, hq⟩
                obtain rfl := hq
                go_wp2_with fail
                go_roundw
                case rel => exact ⟨k + 1, by omega, by go_num, hB1⟩
                case measure => simp [intOf]; omega
          · have d8 : (E == 0) = false := by simpa using he
            clear he
            go_wp2_with fail
            go_roundw
            case rel => exact ⟨k + 1, by omega, by go_num, hB1⟩
            case measure => simp [intOf]; omega
        · have hkn : k = len := by omega
          subst hkn
          go_wp2_with (go_at_call 7; refine (law02_awake _).mono ?_; rintro e w' ⟨rfl, hbAw⟩)
          go_returns
          exact ⟨rfl, by (repeat (first | (with_reducible exact Below.refl _ _) | (with_reducible assumption) | (with_reducible refine below_alloc ?_ _) | (with_reducible refine below_drew ?_) | (with_reducible refine below_drewN ?_ _) | (with_reducible refine below_step ?_ (by with_reducible assumption))))⟩
    · have HT := Lib.hid ht
      have hA : holdsC m l = true := taut_holds ht
      have HA := Lib.hid hA
      clear hs ht hah hA
      go_enter Try.func6, Try.ntmps6
      go_wp2_with fail
      refine (cla_Subset a len cap l a2 len2 cap2 c _ HR.out HR2.out (by have := HLB.out; omega) HF.out HF2.out).mono ?_; rintro e w1 ⟨rfl, hb1⟩; rw [HS.out]; have R1 := Lib.hid (HR.out.later hb1); have S1 := Lib.hid (HR2.out.later hb1); have M1 := Lib.hid (HR3.out.later hb1)
      go_wp2_with fail
      refine (cla_Taut a len cap l _ R1.out (by have := HLA.out; omega)).mono ?_; rintro e w2 ⟨rfl, hb2⟩; have hB0 := below_step hb1 hb2; rw [HT.out]; have M2 := Lib.hid (M1.out.later hb2); have R2 := Lib.hid (R1.out.later hb2)
      go_wp2_with fail
      refine (ref_HoldsB a len cap l a3 len3 cap3 m true _ R2.out M2.out HA.out).mono ?_
      rintro e wq ⟨rfl, hq⟩
      obtain rfl := hq
      clear hb1 hb2 R1 S1 M1 R2 M2
      go_wp2_with fail
      have hlen := HLA.out
      go_loopw [7, 8, 9] (fun i _ _ wr => ∃ k : Nat, k ≤ len ∧ i = .int .i64 k ∧ Below w.heap.size w wr) (fun i _ _ _ => len - (intOf i).toNat)
      case atStart => exact ⟨0, Nat.zero_le _, rfl, hB0⟩
      case round =>
        clear hB0
        obtain ⟨k, hk, rfl, hbr⟩ := hrel
        have t1 : (0 : Int) ≤ (k : Int) := by omega
        by_cases hlt : k < len
        · have R1 := Lib.hid (HR.out.later hbr); have S1 := Lib.hid (HR2.out.later hbr); have M1 := Lib.hid (HR3.out.later hbr)
          obtain ⟨b, off, rfl, hc⟩ := R1.out.2.2 (by omega)
          have hck := hc k hlt
          have t2 : (k : Int) < (len : Int) := by omega
          clear hc
          generalize l.getD k 0 = z at *
          go_wp2_with fail
          refine (cla_Resolve _ len cap l a2 len2 cap2 c z _ R1.out S1.out (by have := HLA.out; omega) (by have := HLB.out; omega)).mono ?_
          rintro e w1 ⟨v1, rfl, hown1, hb1⟩
          obtain ⟨a9, l9, c9, rfl, _, _, r9⟩ := hown1.ints
          have hB1 := below_step hbr hb1
          have R2 := Lib.hid (R1.out.later hb1); have S2 := Lib.hid (S1.out.later hb1); have M2 := Lib.hid (M1.out.later hb1)
          have Q2 := Lib.hid r9
          have hRH : cResE l c z = 0 → holdsC m l = true → holdsC m c = true → holdsC m (cRes l c z) = true := fun h1 h2 h3 => res_holds h1 h2 h3
          have HRH := Lib.hid hRH
          clear hown1 r9 hb1 R1 S1 M1 hck hRH
          generalize cRes l c z = RR at *
          generalize hE : cResE l c z = E at *
          clear hE
          by_cases he : E = 0
          · have d8 : (E == 0) = true := by simpa using he
            cases hA : holdsC m l
            · have HA := Lib.hid hA
              clear hA he
              go_wp2_with fail
              refine (ref_HoldsB _ len cap l a3 len3 cap3 m false _ R2.out M2.out HA.out).mono ?_
              rintro e wq ⟨rfl, hq⟩
              obtain rfl := hq
              go_wp2_with fail
              go_roundw
              case rel => exact ⟨k + 1, by omega, by go_num, hB1⟩
              case measure => simp [intOf]; omega
            · cases hC : holdsC m c
              · have HA := Lib.hid hA; have HC := Lib.hid hC
                clear hA hC he
                go_wp2_with fail
                refine (ref_HoldsB _ len cap l a3 len3 cap3 m true _ R2.out M2.out HA.out).mono ?_
                rintro e wq ⟨rfl, hq⟩
                obtain rfl := hq
                go_wp2_with fail
                refine (ref_HoldsB _ len2 cap2 c a3 len3 cap3 m false _ S2.out M2.out HC.out).mono ?_
                rintro e wq ⟨rfl, hq⟩
                obtain rfl := hq
                go_wp2_with fail
                go_roundw
                case rel => exact ⟨k + 1, by omega, by go_num, hB1⟩
                case measure => simp [intOf]; omega
              · have HA := Lib.hid hA; have HC := Lib.hid hC
                have HH := Lib.hid (HRH.out he hA hC)
                clear hA hC he
                go_wp2_with fail
                refine (ref_HoldsB _ len cap l a3 len3 cap3 m true _ R2.out M2.out HA.out).mono ?_
                rintro e wq ⟨rfl, hq⟩
                obtain rfl := hq
                go_wp2_with fail
                refine (ref_HoldsB _ len2 cap2 c a3 len3 cap3 m true _ S2.out M2.out HC.out).mono ?_
                rintro e wq ⟨rfl, hq⟩
                obtain rfl := hq
                go_wp2_with fail
                refine (ref_HoldsB _ l9 c9 RR a3 len3 cap3 m true _ Q2.out M2.out HH.out).mono ?_
                rintro e wq ⟨rfl, hq⟩
                obtain rfl := hq
                go_wp2_with fail
                go_roundw
                case rel => exact ⟨k + 1, by omega, by go_num, hB1⟩
                case measure => simp [intOf]; omega
          · have d8 : (E == 0) = false := by simpa using he
            clear he
            go_wp2_with fail
            go_roundw
            case rel => exact ⟨k + 1, by omega, by go_num, hB1⟩
            case measure => simp [intOf]; omega
        · have hkn : k = len := by omega
          subst hkn
          go_wp2_with (go_at_call 7; refine (law02_awake _).mono ?_; rintro e w' ⟨rfl, hbAw⟩)
          go_returns
          exact ⟨rfl, by (repeat (first | (with_reducible exact Below.refl _ _) | (with_reducible assumption) | (with_reducible refine below_alloc ?_ _) | (with_reducible refine below_drew ?_) | (with_reducible refine below_drewN ?_ _) | (with_reducible refine below_step ?_ (by with_reducible assumption))))⟩
  · have HS := Lib.hid hs
    cases hA : holdsC m l
    · have HA := Lib.hid hA
      have ht : cTaut l = false := by
        cases h : cTaut l
        · rfl
        · rw [taut_holds h] at hA; cases hA
      have HT := Lib.hid ht
      clear hs ht hah hA
      go_enter Try.func6, Try.ntmps6
      go_wp2_with fail
      refine (cla_Subset a len cap l a2 len2 cap2 c _ HR.out HR2.out (by have := HLB.out; omega) HF.out HF2.out).mono ?_; rintro e w1 ⟨rfl, hb1⟩; rw [HS.out]; have R1 := Lib.hid (HR.out.later hb1); have S1 := Lib.hid (HR2.out.later hb1); have M1 := Lib.hid (HR3.out.later hb1)
      go_wp2_with fail
      refine (ref_HoldsB a len cap l a3 len3 cap3 m false _ R1.out M1.out HA.out).mono ?_
      rintro e wq ⟨rfl, hq⟩
      obtain rfl := hq
      go_wp2_with fail
      refine (cla_Taut a len cap l _ R1.out (by have := HLA.out; omega)).mono ?_; rintro e w2 ⟨rfl, hb2⟩; have hB0 := below_step hb1 hb2; rw [HT.out]; have M2 := Lib.hid (M1.out.later hb2); have R2 := Lib.hid (R1.out.later hb2)
      clear hb1 hb2 R1 S1 M1 R2 M2
      go_wp2_with fail
      have hlen := HLA.out
      go_loopw [7, 8, 9] (fun i _ _ wr => ∃ k : Nat, k ≤ len ∧ i = .int .i64 k ∧ Below w.heap.size w wr) (fun i _ _ _ => len - (intOf i).toNat)
      case atStart => exact ⟨0, Nat.zero_le _, rfl, hB0⟩
      case round =>
        clear hB0
        obtain ⟨k, hk, rfl, hbr⟩ := hrel
        have t1 : (0 : Int) ≤ (k : Int) := by omega
        by_cases hlt : k < len
        · have R1 := Lib.hid (HR.out.later hbr); have S1 := Lib.hid (HR2.out.later hbr); have M1 := Lib.hid (HR3.out.later hbr)
          obtain ⟨b, off, rfl, hc⟩ := R1.out.2.2 (by omega)
          have hck := hc k hlt
          have t2 : (k : Int) < (len : Int) := by omega
          clear hc
          generalize l.getD k 0 = z at *
          go_wp2_with fail
          refine (cla_Resolve _ len cap l a2 len2 cap2 c z _ R1.out S1.out (by have := HLA.out; omega) (by have := HLB.out; omega)).mono ?_
          rintro e w1 ⟨v1, rfl, hown1, hb1⟩
          obtain ⟨a9, l9, c9, rfl, _, _, r9⟩ := hown1.ints
          have hB1 := below_step hbr hb1
          have R2 := Lib.hid (R1.out.later hb1); have S2 := Lib.hid (S1.out.later hb1); have M2 := Lib.hid (M1.out.later hb1)
          have Q2 := Lib.hid r9
          have hRH : cResE l c z = 0 → holdsC m l = true → holdsC m c = true → holdsC m (cRes l c z) = true := fun h1 h2 h3 => res_holds h1 h2 h3
          have HRH := Lib.hid hRH
          clear hown1 r9 hb1 R1 S1 M1 hck hRH
          generalize cRes l c z = RR at *
          generalize hE : cResE l c z = E at *
          clear hE
          by_cases he : E = 0
          · have d8 : (E == 0) = true := by simpa using he
            cases hA : holdsC m l
            · have HA := Lib.hid hA
              clear hA he
              go_wp2_with fail
              refine (ref_HoldsB _ len cap l a3 len3 cap3 m false _ R2.out M2.out HA.out).mono ?_
              rintro e wq ⟨rfl, hq⟩
              obtain rfl := hq
              go_wp2_with fail
              go_roundw
              case rel => exact ⟨k + 1, by omega, by go_num, hB1⟩
              case measure => simp [intOf]; omega
            · cases hC : holdsC m c
              · have HA := Lib.hid hA; have HC := Lib.hid hC
                clear hA hC he
                go_wp2_with fail
                refine (ref_HoldsB _ len cap l a3 len3 cap3 m true _ R2.out M2.out HA.out).mono ?_
                rintro e wq ⟨rfl, hq⟩
                obtain rfl := hq
                go_wp2_with fail
                refine (ref_HoldsB _ len2 cap2 c a3 len3 cap3 m false _ S2.out M2.out HC.out).mono ?_
                rintro e wq ⟨rfl, hq⟩
                obtain rfl := hq
                go_wp2_with fail
                go_roundw
                case rel => exact ⟨k + 1, by omega, by go_num, hB1⟩
                case measure => simp [intOf]; omega
              · have HA := Lib.hid hA; have HC := Lib.hid hC
                have HH := Lib.hid (HRH.out he hA hC)
                clear hA hC he
                go_wp2_with fail
                refine (ref_HoldsB _ len cap l a3 len3 cap3 m true _ R2.out M2.out HA.out).mono ?_
                rintro e wq ⟨rfl, hq⟩
                obtain rfl := hq
                go_wp2_with fail
                refine (ref_HoldsB _ len2 cap2 c a3 len3 cap3 m true _ S2.out M2.out HC.out).mono ?_
                rintro e wq ⟨rfl, hq⟩
                obtain rfl := hq
                go_wp2_with fail
                refine (ref_HoldsB _ l9 c9 RR a3 len3 cap3 m true _ Q2.out M2.out HH.out).mono ?_
                rintro e wq ⟨rfl, hq⟩
                obtain rfl := hq
                go_wp2_with fail
                go_roundw
                case rel => exact ⟨k + 1, by omega, by go_num, hB1⟩
                case measure => simp [intOf]; omega
          · have d8 : (E == 0) = false := by simpa using he
            clear he
            go_wp2_with fail
            go_roundw
            case rel => exact ⟨k + 1, by omega, by go_num, hB1⟩
            case measure => simp [intOf]; omega
        · have hkn : k = len := by omega
          subst hkn
          go_wp2_with (go_at_call 7; refine (law02_awake _).mono ?_; rintro e w' ⟨rfl, hbAw⟩)
          go_returns
          exact ⟨rfl, by (repeat (first | (with_reducible exact Below.refl _ _) | (with_reducible assumption) | (with_reducible refine below_alloc ?_ _) | (with_reducible refine below_drew ?_) | (with_reducible refine below_drewN ?_ _) | (with_reducible refine below_step ?_ (by with_reducible assumption))))⟩
    · have HA := Lib.hid hA
      have hC : holdsC m c = true := sub_holds hs hA
      have HC := Lib.hid hC
      cases ht : cTaut l
      · have HT := Lib.hid ht
        clear hs ht hah hA hC
        go_enter Try.func6, Try.ntmps6
        go_wp2_with fail
        refine (cla_Subset a len cap l a2 len2 cap2 c _ HR.out HR2.out (by have := HLB.out; omega) HF.out HF2.out).mono ?_; rintro e w1 ⟨rfl, hb1⟩; rw [HS.out]; have R1 := Lib.hid (HR.out.later hb1); have S1 := Lib.hid (HR2.out.later hb1); have M1 := Lib.hid (HR3.out.later hb1)
        go_wp2_with fail
        refine (ref_HoldsB a len cap l a3 len3 cap3 m true _ R1.out M1.out HA.out).mono ?_
        rintro e wq ⟨rfl, hq⟩
        obtain rfl := hq
        go_wp2_with fail
        refine (ref_HoldsB a2 len2 cap2 c a3 len3 cap3 m true _ S1.out M1.out HC.out).mono ?_
        rintro e wq ⟨rfl, hq⟩
        obtain rfl := hq
        go_wp2_with fail
        refine (cla_Taut a len cap l _ R1.out (by have := HLA.out; omega)).mono ?_; rintro e w2 ⟨rfl, hb2⟩; have hB0 := below_step hb1 hb2; rw [HT.out]; have M2 := Lib.hid (M1.out.later hb2); have R2 := Lib.hid (R1.out.later hb2)
        clear hb1 hb2 R1 S1 M1 R2 M2
        go_wp2_with fail
        have hlen := HLA.out
        go_loopw [7, 8, 9] (fun i _ _ wr => ∃ k : Nat, k ≤ len ∧ i = .int .i64 k ∧ Below w.heap.size w wr) (fun i _ _ _ => len - (intOf i).toNat)
        case atStart => exact ⟨0, Nat.zero_le _, rfl, hB0⟩
        case round =>
          clear hB0
          obtain ⟨k, hk, rfl, hbr⟩ := hrel
          have t1 : (0 : Int) ≤ (k : Int) := by omega
          by_cases hlt : k < len
          · have R1 := Lib.hid (HR.out.later hbr); have S1 := Lib.hid (HR2.out.later hbr); have M1 := Lib.hid (HR3.out.later hbr)
            obtain ⟨b, off, rfl, hc⟩ := R1.out.2.2 (by omega)
            have hck := hc k hlt
            have t2 : (k : Int) < (len : Int) := by omega
            clear hc
            generalize l.getD k 0 = z at *
            go_wp2_with fail
            refine (cla_Resolve _ len cap l a2 len2 cap2 c z _ R1.out S1.out (by have := HLA.out; omega) (by have := HLB.out; omega)).mono ?_
            rintro e w1 ⟨v1, rfl, hown1, hb1⟩
            obtain ⟨a9, l9, c9, rfl, _, _, r9⟩ := hown1.ints
            have hB1 := below_step hbr hb1
            have R2 := Lib.hid (R1.out.later hb1); have S2 := Lib.hid (S1.out.later hb1); have M2 := Lib.hid (M1.out.later hb1)
            have Q2 := Lib.hid r9
            have hRH : cResE l c z = 0 → holdsC m l = true → holdsC m c = true → holdsC m (cRes l c z) = true := fun h1 h2 h3 => res_holds h1 h2 h3
            have HRH := Lib.hid hRH
            clear hown1 r9 hb1 R1 S1 M1 hck hRH
            generalize cRes l c z = RR at *
            generalize hE : cResE l c z = E at *
            clear hE
            by_cases he : E = 0
            · have d8 : (E == 0) = true := by simpa using he
              cases hA : holdsC m l
              · have HA := Lib.hid hA
                clear hA he
                go_wp2_with fail
                refine (ref_HoldsB _ len cap l a3 len3 cap3 m false _ R2.out M2.out HA.out).mono ?_
                rintro e wq ⟨rfl, hq⟩
                obtain rfl := hq
                go_wp2_with fail
                go_roundw
                case rel => exact ⟨k + 1, by omega, by go_num, hB1⟩
                case measure => simp [intOf]; omega
              · cases hC : holdsC m c
                · have HA := Lib.hid hA; have HC := Lib.hid hC
                  clear hA hC he
                  go_wp2_with fail
                  refine (ref_HoldsB _ len cap l a3 len3 cap3 m true _ R2.out M2.out HA.out).mono ?_
                  rintro e wq ⟨rfl, hq⟩
                  obtain rfl := hq
                  go_wp2_with fail
                  refine (ref_HoldsB _ len2 cap2 c a3 len3 cap3 m false _ S2.out M2.out HC.out).mono ?_
                  rintro e wq ⟨rfl, hq⟩
                  obtain rfl := hq
                  go_wp2_with fail
                  go_roundw
                  case rel => exact ⟨k + 1, by omega, by go_num, hB1⟩
                  case measure => simp [intOf]; omega
                · have HA := Lib.hid hA; have HC := Lib.hid hC
                  have HH := Lib.hid (HRH.out he hA hC)
                  clear hA hC he
                  go_wp2_with fail
                  refine (ref_HoldsB _ len cap l a3 len3 cap3 m true _ R2.out M2.out HA.out).mono ?_
                  rintro e wq ⟨rfl, hq⟩
                  obtain rfl := hq
                  go_wp2_with fail
                  refine (ref_HoldsB _ len2 cap2 c a3 len3 cap3 m true _ S2.out M2.out HC.out).mono ?_
                  rintro e wq ⟨rfl, hq⟩
                  obtain rfl := hq
                  go_wp2_with fail
                  refine (ref_HoldsB _ l9 c9 RR a3 len3 cap3 m true _ Q2.out M2.out HH.out).mono ?_
                  rintro e wq ⟨rfl, hq⟩
                  obtain rfl := hq
                  go_wp2_with fail
                  go_roundw
                  case rel => exact ⟨k + 1, by omega, by go_num, hB1⟩
                  case measure => simp [intOf]; omega
            · have d8 : (E == 0) = false := by simpa using he
              clear he
              go_wp2_with fail
              go_roundw
              case rel => exact ⟨k + 1, by omega, by go_num, hB1⟩
              case measure => simp [intOf]; omega
          · have hkn : k = len := by omega
            subst hkn
            go_wp2_with (go_at_call 7; refine (law02_awake _).mono ?_; rintro e w' ⟨rfl, hbAw⟩)
            go_returns
            exact ⟨rfl, by (repeat (first | (with_reducible exact Below.refl _ _) | (with_reducible assumption) | (with_reducible refine below_alloc ?_ _) | (with_reducible refine below_drew ?_) | (with_reducible refine below_drewN ?_ _) | (with_reducible refine below_step ?_ (by with_reducible assumption))))⟩
      · have HT := Lib.hid ht
        clear hs ht hah hA hC
        go_enter Try.func6, Try.ntmps6
        go_wp2_with fail
        refine (cla_Subset a len cap l a2 len2 cap2 c _ HR.out HR2.out (by have := HLB.out; omega) HF.out HF2.out).mono ?_; rintro e w1 ⟨rfl, hb1⟩; rw [HS.out]; have R1 := Lib.hid (HR.out.later hb1); have S1 := Lib.hid (HR2.out.later hb1); have M1 := Lib.hid (HR3.out.later hb1)
        go_wp2_with fail
        refine (ref_HoldsB a len cap l a3 len3 cap3 m true _ R1.out M1.out HA.out).mono ?_
        rintro e wq ⟨rfl, hq⟩
        obtain rfl := hq
        go_wp2_with fail
        refine (ref_HoldsB a2 len2 cap2 c a3 len3 cap3 m true _ S1.out M1.out HC.out).mono ?_
        rintro e wq ⟨rfl, hq⟩
        obtain rfl := hq
        go_wp2_with fail
        refine (cla_Taut a len cap l _ R1.out (by have := HLA.out; omega)).mono ?_; rintro e w2 ⟨rfl, hb2⟩; have hB0 := below_step hb1 hb2; rw [HT.out]; have M2 := Lib.hid (M1.out.later hb2); have R2 := Lib.hid (R1.out.later hb2)
        go_wp2_with fail
        refine (ref_HoldsB a len cap l a3 len3 cap3 m true _ R2.out M2.out HA.out).mono ?_
        rintro e wq ⟨rfl, hq⟩
        obtain rfl := hq
        clear hb1 hb2 R1 S1 M1 R2 M2
        go_wp2_with fail
        have hlen := HLA.out
        go_loopw [7, 8, 9] (fun i _ _ wr => ∃ k : Nat, k ≤ len ∧ i = .int .i64 k ∧ Below w.heap.size w wr) (fun i _ _ _ => len - (intOf i).toNat)
        case atStart => exact ⟨0, Nat.zero_le _, rfl, hB0⟩
        case round =>
          clear hB0
          obtain ⟨k, hk, rfl, hbr⟩ := hrel
          have t1 : (0 : Int) ≤ (k : Int) := by omega
          by_cases hlt : k < len
          · have R1 := Lib.hid (HR.out.later hbr); have S1 := Lib.hid (HR2.out.later hbr); have M1 := Lib.hid (HR3.out.later hbr)
            obtain ⟨b, off, rfl, hc⟩ := R1.out.2.2 (by omega)
            have hck := hc k hlt
            have t2 : (k : Int) < (len : Int) := by omega
            clear hc
            generalize l.getD k 0 = z at *
            go_wp2_with fail
            refine (cla_Resolve _ len cap l a2 len2 cap2 c z _ R1.out S1.out (by have := HLA.out; omega) (by have := HLB.out; omega)).mono ?_
            rintro e w1 ⟨v1, rfl, hown1, hb1⟩
            obtain ⟨a9, l9, c9, rfl, _, _, r9⟩ := hown1.ints
            have hB1 := below_step hbr hb1
            have R2 := Lib.hid (R1.out.later hb1); have S2 := Lib.hid (S1.out.later hb1); have M2 := Lib.hid (M1.out.later hb1)
            have Q2 := Lib.hid r9
            have hRH : cResE l c z = 0 → holdsC m l = true → holdsC m c = true → holdsC m (cRes l c z) = true := fun h1 h2 h3 => res_holds h1 h2 h3
            have HRH := Lib.hid hRH
            clear hown1 r9 hb1 R1 S1 M1 hck hRH
            generalize cRes l c z = RR at *
            generalize hE : cResE l c z = E at *
            clear hE
            by_cases he : E = 0
            · have d8 : (E == 0) = true := by simpa using he
              cases hA : holdsC m l
              · have HA := Lib.hid hA
                clear hA he
                go_wp2_with fail
                refine (ref_HoldsB _ len cap l a3 len3 cap3 m false _ R2.out M2.out HA.out).mono ?_
                rintro e wq ⟨rfl, hq⟩
                obtain rfl := hq
                go_wp2_with fail
                go_roundw
                case rel => exact ⟨k + 1, by omega, by go_num, hB1⟩
                case measure => simp [intOf]; omega
              · cases hC : holdsC m c
                · have HA := Lib.hid hA; have HC := Lib.hid hC
                  clear hA hC he
                  go_wp2_with fail
                  refine (ref_HoldsB _ len cap l a3 len3 cap3 m true _ R2.out M2.out HA.out).mono ?_
                  rintro e wq ⟨rfl, hq⟩
                  obtain rfl := hq
                  go_wp2_with fail
                  refine (ref_HoldsB _ len2 cap2 c a3 len3 cap3 m false _ S2.out M2.out HC.out).mono ?_
                  rintro e wq ⟨rfl, hq⟩
                  obtain rfl := hq
                  go_wp2_with fail
                  go_roundw
                  case rel => exact ⟨k + 1, by omega, by go_num, hB1⟩
                  case measure => simp [intOf]; omega
                · have HA := Lib.hid hA; have HC := Lib.hid hC
                  have HH := Lib.hid (HRH.out he hA hC)
                  clear hA hC he
                  go_wp2_with fail
                  refine (ref_HoldsB _ len cap l a3 len3 cap3 m true _ R2.out M2.out HA.out).mono ?_
                  rintro e wq ⟨rfl, hq⟩
                  obtain rfl := hq
                  go_wp2_with fail
                  refine (ref_HoldsB _ len2 cap2 c a3 len3 cap3 m true _ S2.out M2.out HC.out).mono ?_
                  rintro e wq ⟨rfl, hq⟩
                  obtain rfl := hq
                  go_wp2_with fail
                  refine (ref_HoldsB _ l9 c9 RR a3 len3 cap3 m true _ Q2.out M2.out HH.out).mono ?_
                  rintro e wq ⟨rfl, hq⟩
                  obtain rfl := hq
                  go_wp2_with fail
                  go_roundw
                  case rel => exact ⟨k + 1, by omega, by go_num, hB1⟩
                  case measure => simp [intOf]; omega
            · have d8 : (E == 0) = false := by simpa using he
              clear he
              go_wp2_with fail
              go_roundw
              case rel => exact ⟨k + 1, by omega, by go_num, hB1⟩
              case measure => simp [intOf]; omega
          · have hkn : k = len := by omega
            subst hkn
            go_wp2_with (go_at_call 7; refine (law02_awake _).mono ?_; rintro e w' ⟨rfl, hbAw⟩)
            go_returns
            exact ⟨rfl, by (repeat (first | (with_reducible exact Below.refl _ _) | (with_reducible assumption) | (with_reducible refine below_alloc ?_ _) | (with_reducible refine below_drew ?_) | (with_reducible refine below_drewN ?_ _) | (with_reducible refine below_step ?_ (by with_reducible assumption))))⟩
end Go.Proofs.Ytcifneenbdibeaa
