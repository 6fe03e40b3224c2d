/- Layer 2: ClauseMeets. -/
import Derived.Test.YtcifneenbdibeaaClaA
namespace Go.Proofs.Ytcifneenbdibeaa
open Go.RowKit
set_option linter.unusedVariables false
set_option linter.unusedSimpArgs false

set_option maxRecDepth 100000 in
set_option maxHeartbeats 4000000 in
theorem clauseMeets_walk (w : World) (a : Option Addr) (len cap : Nat) (l : List Int) (hr : IntRow w a len l) (hf : Fits' l) (hcap : len ≤ cap ∧ cap ≤ maxLen ∧ (a = none → cap = 0)) (a2 : Option Addr) (len2 cap2 : Nat) (c : List Int) (hr2 : IntRow w a2 len2 c) (hf2 : Fits' c) (hcap2 : len2 ≤ cap2 ∧ cap2 ≤ maxLen ∧ (a2 = none → cap2 = 0))
    (x : Int) (wx : (Lit.int .i64 x).wf = true) :
    Calls Try.prog 4 #[.slice a len cap, .slice a2 len2 cap2, .int .i64 x] w fun e w' => e = .returned (.bool true) ∧ Below w.heap.size w w' := by
  clear wx hcap hcap2 hf hf2
  have HR := Lib.hid hr; have HR2 := Lib.hid hr2
  have d5 : decide (300 < (len : Int)) = decide (300 < len) := by rw [Bool.eq_iff_iff]; simp; omega
  have d6 : decide (300 < (len2 : Int)) = decide (300 < len2) := by rw [Bool.eq_iff_iff]; simp; omega
  clear hr hr2
  by_cases h1 : 300 < len
  · rw [decide_eq_true h1] at d5
    clear h1 d6
    go_enter Try.func4, Try.ntmps4
    go_wp2_with (go_at_call 7; refine (law02_awake _).mono ?_; rintro e w' ⟨rfl, hbAw⟩)
    go_returns
    exact ⟨rfl, by (repeat (first | (with_reducible exact Below.refl _ _) | (with_reducible assumption) | (with_reducible refine below_alloc ?_ _) | (with_reducible refine below_drew ?_) | (with_reducible refine below_drewN ?_ _) | (with_reducible refine below_step ?_ (by with_reducible assumption))))⟩
  · rw [decide_eq_false h1] at d5
    by_cases h2 : 300 < len2
    · rw [decide_eq_true h2] at d6
      clear h1 h2
      go_enter Try.func4, Try.ntmps4
      go_wp2_with (go_at_call 7; refine (law02_awake _).mono ?_; rintro e w' ⟨rfl, hbAw⟩)
      go_returns
      exact ⟨rfl, by (repeat (first | (with_reducible exact Below.refl _ _) | (with_reducible assumption) | (with_reducible refine below_alloc ?_ _) | (with_reducible refine below_drew ?_) | (with_reducible refine below_drewN ?_ _) | (with_reducible refine below_step ?_ (by with_reducible assumption))))⟩
    · rw [decide_eq_false h2] at d6
      have HLA : Hid (len ≤ 1000) := Lib.hid (by omega)
      have HLB : Hid (len2 ≤ 1000) := Lib.hid (by omega)
      clear h1 h2
      go_enter Try.func4, Try.ntmps4
      go_wp2_with fail
      refine (cla_Resolve a len cap l a2 len2 cap2 c x _ HR.out HR2.out HLA.out HLB.out).mono ?_
      rintro e w1 ⟨v1, rfl, hown1, hb1⟩
      have Q1 := Lib.hid hown1.ints
      clear hown1
      go_wp2_with fail
      refine (ref_Resolve02 a len cap l a2 len2 cap2 c x _ (HR.out.later hb1) (HR2.out.later hb1) HLA.out HLB.out).mono ?_
      rintro e w2 ⟨v2, rfl, hown2, hb2⟩
      have Q2 := Lib.hid hown2.ints
      have Q1 := Lib.hid (Q1.out.later hb2)
      have hB2 := below_step hb1 hb2
      clear hown2 hb1 hb2
      generalize cResE l c x = E at *
      go_wp2_with fail
      refine (same_IntsV v1 v2 (cRes l c x) (cRes l c x) _ Q1.out Q2.out).mono ?_
      rintro e w3 ⟨rfl, hb3⟩
      rw [decide_eq_true rfl]
      have hB3 := below_step hB2 hb3
      clear hB2 hb3
      go_wp2_with (go_at_call 7; refine (law02_awake _).mono ?_; rintro e w' ⟨rfl, hbAw⟩)
      go_returns
      exact ⟨rfl, by (repeat (first | (with_reducible exact Below.refl _ _) | (with_reducible assumption) | (with_reducible refine below_alloc ?_ _) | (with_reducible refine below_drew ?_) | (with_reducible refine below_drewN ?_ _) | (with_reducible refine below_step ?_ (by with_reducible assumption))))⟩
end Go.Proofs.Ytcifneenbdibeaa
