import Derived.Test.YtcanlckenjndbaaMgAM
namespace Go.Proofs.Ytcanlckenjndbaa
open Go.RowKit
set_option linter.unusedVariables false
set_option linter.unusedSimpArgs false
theorem asg_CountE (a : Option Addr) (len cap : Nat) (l : List Int) (a2 : Option Addr) (m cap2 : Nat) (c : List Int) (w : World) (hr : IntRow w a len l) (hr2 : IntRow w a2 m c) (hlen : len ≤ 1000000) (hlen2 : m ≤ 1000000) (hf : Fits' l) (hf2 : Fits' c) (h g o : Nat) (hh : aN l c 1 = h ∧ aN l c (-1) = g ∧ aN l c 0 = o) :
    Calls Try.prog 100 #[.slice a len cap, .slice a2 m cap2] w fun e w' => e = .returned (.agg #[.int .i64 h, .int .i64 g, .int .i64 o]) ∧ Below w.heap.size w w' :=
  (asg_Count a len cap l a2 m cap2 c w hr hr2 hlen hlen2 hf hf2).mono fun e w' hq => ⟨by rw [hq.1]; unfold cntV cntC; rw [hh.1, hh.2.1, hh.2.2], hq.2⟩
set_option maxRecDepth 100000 in
theorem asg_Clause (a : Option Addr) (len cap : Nat) (l : List Int) (a2 : Option Addr) (m cap2 : Nat) (c : List Int) (w : World) (hr : IntRow w a len l) (hr2 : IntRow w a2 m c) (hlen : len ≤ 1000000) (hlen2 : m ≤ 1000000) (hf : Fits' l) (hf2 : Fits' c) :
    Calls Try.prog 65 #[.slice a len cap, .slice a2 m cap2] w fun e w' => e = .returned (.int .i64 (aCl l c)) ∧ Below w.heap.size w w' := by
  have hct := fun h g o hh => asg_CountE a len cap l a2 m cap2 c w hr hr2 hlen hlen2 hf hf2 h g o hh
  have HA : Hid (aCl l c = if 0 < aN l c 1 then 1 else if 0 < aN l c 0 then 0 else -1) := Lib.hid rfl
  obtain ⟨h, hh⟩ : ∃ h, aN l c 1 = h := ⟨_, rfl⟩
  obtain ⟨g, hg⟩ : ∃ g, aN l c (-1) = g := ⟨_, rfl⟩
  obtain ⟨o, ho⟩ : ∃ o, aN l c 0 = o := ⟨_, rfl⟩
  have HCT := Lib.hid (hct h g o ⟨hh, hg, ho⟩)
  rw [hh, ho] at HA
  clear hct hr hr2 hh hg ho
  by_cases c1 : 0 < h
  · have HV : Hid (aCl l c = 1) := Lib.hid (by rw [HA.out, if_pos c1])
    have d1 : decide (0 < h) = true := decide_eq_true c1
    have d2 : decide (0 < (h : Int)) = true := decide_eq_true (by omega)
    go_enter Try.func65, Try.ntmps65
    go_wp2_with (refine HCT.out.mono ?_; rintro e w' ⟨rfl, hb⟩)
    go_ret
    exact ⟨ret_int HV.out.symm, by (repeat (first | (with_reducible exact Below.refl _ _) | (with_reducible assumption) | (with_reducible refine below_alloc ?_ _) | (with_reducible refine below_drew ?_) | (with_reducible refine below_drewN ?_ _) | (with_reducible refine below_step ?_ (by with_reducible assumption))))⟩
  · have d1 : decide (0 < h) = false := decide_eq_false c1
    have d2 : decide (0 < (h : Int)) = false := decide_eq_false (by omega)
    by_cases c2 : 0 < o
    · have HV : Hid (aCl l c = 0) := Lib.hid (by rw [HA.out, if_neg c1, if_pos c2])
      have d3 : decide (0 < o) = true := decide_eq_true c2
      have d4 : decide (0 < (o : Int)) = true := decide_eq_true (by omega)
      go_enter Try.func65, Try.ntmps65
      go_wp2_with (refine HCT.out.mono ?_; rintro e w' ⟨rfl, hb⟩)
      go_ret
      exact ⟨ret_int HV.out.symm, by (repeat (first | (with_reducible exact Below.refl _ _) | (with_reducible assumption) | (with_reducible refine below_alloc ?_ _) | (with_reducible refine below_drew ?_) | (with_reducible refine below_drewN ?_ _) | (with_reducible refine below_step ?_ (by with_reducible assumption))))⟩
    · have HV : Hid (aCl l c = -1) := Lib.hid (by rw [HA.out, if_neg c1, if_neg c2])
      have d3 : decide (0 < o) = false := decide_eq_false c2
      have d4 : decide (0 < (o : Int)) = false := decide_eq_false (by omega)
      go_enter Try.func65, Try.ntmps65
      go_wp2_with (refine HCT.out.mono ?_; rintro e w' ⟨rfl, hb⟩)
      go_ret
      exact ⟨ret_int HV.out.symm, by (repeat (first | (with_reducible exact Below.refl _ _) | (with_reducible assumption) | (with_reducible refine below_alloc ?_ _) | (with_reducible refine below_drew ?_) | (with_reducible refine below_drewN ?_ _) | (with_reducible refine below_step ?_ (by with_reducible assumption))))⟩
end Go.Proofs.Ytcanlckenjndbaa
namespace Go.Proofs.Ytcanlckenjndbaa
open Go.RowKit
set_option linter.unusedVariables false
set_option linter.unusedSimpArgs false
def mdl (l : List Int) (V : Nat) : List Bool := (List.range V).map fun i : Nat => lhas l ((i : Int) + 1)
def frF (m : List Bool) (i : Nat) : Int := lmake ((i : Int) + 1) (m.getD i false)
end Go.Proofs.Ytcanlckenjndbaa
namespace Go.Proofs.Ytcanlckenjndbaa
open Go.RowKit
set_option linter.unusedVariables false
set_option linter.unusedSimpArgs false
def opn (l c : List Int) (k : Nat) : Int := if ∃ j, j < k ∧ aIs l 0 (c.getD j 0) = true then aUnit l c else 0
end Go.Proofs.Ytcanlckenjndbaa
