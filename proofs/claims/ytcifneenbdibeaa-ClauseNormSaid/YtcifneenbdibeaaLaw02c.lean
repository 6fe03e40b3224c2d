/- Layer 2: ClauseNorm. -/
import Derived.Test.YtcifneenbdibeaaClaA
import Derived.Test.YtcifneenbdibeaaApp
namespace Go.Proofs.Ytcifneenbdibeaa
open Go.RowKit
set_option linter.unusedVariables false
set_option linter.unusedSimpArgs false
theorem fits_norm {l : List Int} (h : Fits' l) : Fits' (cNorm l) := fun x hx => h x ((cNorm_mem l x).1 hx).2
theorem same_iff2 {a b : List Int} {X Y : List Int} (hX : cNorm a = X) (hY : cNorm b = Y) : (cSub a b && cSub b a) = decide (X = Y) := by rw [same_iff, hX, hY]

set_option maxRecDepth 100000 in
set_option maxHeartbeats 8000000 in
theorem clauseNorm_walk (w : World) (a : Option Addr) (len cap : Nat) (l : List Int) (hr : IntRow w a len l) (hf : Fits' l) (hcap : len ≤ cap ∧ cap ≤ maxLen ∧ (a = none → cap = 0)) (a2 : Option Addr) (len2 cap2 : Nat) (c : List Int) (hr2 : IntRow w a2 len2 c) (hf2 : Fits' c) (hcap2 : len2 ≤ cap2 ∧ cap2 ≤ maxLen ∧ (a2 = none → cap2 = 0))
    (x : Int) (wx : (Lit.int .i64 x).wf = true) :
    Calls Try.prog 5 #[.slice a len cap, .slice a2 len2 cap2, .int .i64 x] w fun e w' => e = .returned (.bool true) ∧ Below w.heap.size w w' := by
  have HCN := Lib.hid hcap.2.2
  have HCP := Lib.hid hcap
  clear wx hcap hcap2
  have HR := Lib.hid hr; have HR2 := Lib.hid hr2
  have HL := Lib.hid hr.1
  have HF := Lib.hid hf; have HF2 := Lib.hid hf2
  have d5 : decide (300 < (len : Int)) = decide (300 < len) := by rw [Bool.eq_iff_iff]; simp; omega
  have d6 : decide (300 < (len2 : Int)) = decide (300 < len2) := by rw [Bool.eq_iff_iff]; simp; omega
  clear hr hr2 hf hf2
  by_cases h1 : 300 < len
  · rw [decide_eq_true h1] at d5
    clear h1 d6
    go_enter Try.func5, Try.ntmps5
    go_wp2_with (go_at_call 7; refine (law02_awake _).mono ?_; rintro e w' ⟨rfl, hbAw⟩)
    go_returns
    exact ⟨rfl, by (repeat (first | (with_reducible exact Below.refl _ _) | (with_reducible assumption) | (with_reducible refine below_alloc ?_ _) | (with_reducible refine below_drew ?_) | (with_reducible refine below_drewN ?_ _) | (with_reducible refine below_step ?_ (by with_reducible assumption))))⟩
  · rw [decide_eq_false h1] at d5
    by_cases h2 : 300 < len2
    · rw [decide_eq_true h2] at d6
      clear h1 h2
      go_enter Try.func5, Try.ntmps5
      go_wp2_with (go_at_call 7; refine (law02_awake _).mono ?_; rintro e w' ⟨rfl, hbAw⟩)
      go_returns
      exact ⟨rfl, by (repeat (first | (with_reducible exact Below.refl _ _) | (with_reducible assumption) | (with_reducible refine below_alloc ?_ _) | (with_reducible refine below_drew ?_) | (with_reducible refine below_drewN ?_ _) | (with_reducible refine below_step ?_ (by with_reducible assumption))))⟩
    · rw [decide_eq_false h2] at d6
      have HLA : Hid (len ≤ 300) := Lib.hid (by omega)
      have HLB : Hid (len2 ≤ 300) := Lib.hid (by omega)
      clear h1 h2
      go_enter Try.func5, Try.ntmps5
      go_wp2_with (at_builtin; refine wpList_app rfl _ _ 22 rfl w.heap.size 3 (.int .i64 0) 1 8 Try.underlying22 info_int rfl (by decide) _ 0 [] rfl (own_built w w.heap.size 3 [] (Nat.le_refl _) (Nat.zero_le _)) a len cap (l.map (Value.int .i64)) rfl HCN.out (by rw [List.length_map, HL.out]; omega) ((HR.out.later (below_alloc (Below.refl _ _) _)).cells) (one_int · l) (by have := HLA.out; unfold maxLen; omega) (by have := HLA.out; omega) (by rw [World.size_alloc]; omega) ?_)
      intro vw w1 hownw hgw
      have hB1 : Below w.heap.size w w1 := own_bel (below_alloc (Below.refl _ _) _) (own_built w w.heap.size 3 [] (Nat.le_refl _) (Nat.zero_le _)) hgw
      have hOW : OwnInts w1 w.heap.size vw l := by unfold OwnInts; rw [HL.out]; simpa using hownw
      have QW := Lib.hid hOW.ints
      clear hownw hgw hOW
      go_wp2_with fail
      refine (cla_Norm a len cap l _ (HR.out.later hB1) (by have := HLA.out; omega)).mono ?_
      rintro e w2 ⟨v2, rfl, hown2, hb2⟩
      obtain ⟨an, ln, cn, rfl, hn1, hn2, hrn⟩ := hown2.ints
      have hB2 := below_step hB1 hb2
      have QW := Lib.hid (QW.out.later hb2)
      have hln : ln ≤ 300 := by have h1 := cNorm_len l; have h2 := hrn.1; have h3 := HL.out; have h4 := HLA.out; omega
      have HLN := Lib.hid hln
      have RN := Lib.hid hrn
      have HNC : Hid (cCheck (cNorm l) 100000 = 0) := Lib.hid (norm_check (by have h3 := HL.out; have h4 := HLA.out; omega))
      have HNH := Lib.hid (norm_has l x)
      have HNN := Lib.hid (norm_norm l)
      have HFN := Lib.hid (fits_norm HF.out)
      have HSN := Lib.hid (norm_same_clause l)
      have HSI := Lib.hid (same_iff2 (a := l) (b := c) rfl rfl)
      clear hown2 hrn hb2 hB1 hln
      go_wp2_with fail
      refine (same_IntsV _ vw l l _ ⟨_, _, _, rfl, HCP.out.1, HCP.out.2.1, HR.out.later hB2⟩ QW.out).mono ?_
      rintro e w3 ⟨rfl, hb3⟩
      rw [decide_eq_true rfl]
      have hB3 := below_step hB2 hb3
      have RN := Lib.hid (RN.out.later hb3)
      clear QW hb3 hB2
      go_wp2_with fail
      refine (cla_Norm an ln cn (cNorm l) _ RN.out (by have := HLN.out; omega)).mono ?_
      rintro e w4 ⟨v4, rfl, hown4, hb4⟩
      rw [HNN.out] at hown4
      have Q4 := Lib.hid hown4.ints
      have RN := Lib.hid (RN.out.later hb4)
      have hB4 := below_step hB3 hb4
      clear hown4 hb4 hB3
      go_wp2_with fail
      refine (same_IntsV v4 _ (cNorm l) (cNorm l) _ Q4.out ⟨_, _, _, rfl, hn1, hn2, RN.out⟩).mono ?_
      rintro e w5 ⟨rfl, hb5⟩
      rw [decide_eq_true rfl]
      have hB5 := below_step hB4 hb5
      have RN := Lib.hid (RN.out.later hb5)
      have R5 := Lib.hid (HR.out.later hB5); have S5 := Lib.hid (HR2.out.later hB5)
      clear Q4 hb5 hB4
      go_wp2_with fail
      refine (cla_Has an ln cn (cNorm l) x _ RN.out).mono ?_
      rintro e wq ⟨rfl, hq⟩
      obtain rfl := hq
      rw [HNH.out]
      go_wp2_with fail
      refine (cla_Has a len cap l x _ R5.out).mono ?_
      rintro e wq ⟨rfl, hq⟩
      obtain rfl := hq
      go_wp2_with fail
      refine (cla_Check an ln cn (cNorm l) 100000 _ RN.out).mono ?_
      rintro e w6 ⟨rfl, hb6⟩
      rw [HNC.out]
      have hB6 := below_step hB5 hb6
      have RN := Lib.hid (RN.out.later hb6)
      have R6 := Lib.hid (R5.out.later hb6); have S6 := Lib.hid (S5.out.later hb6)
      clear hb6 hB5 R5 S5
      go_wp2_with fail
      refine (cla_Same a len cap l a2 len2 cap2 c _ R6.out S6.out (by have := HLA.out; omega) (by have := HLB.out; omega) HF.out HF2.out).mono ?_
      rintro e w7 ⟨rfl, hb7⟩
      rw [HSI.out]
      have hB7 := below_step hB6 hb7
      have RN := Lib.hid (RN.out.later hb7)
      have R7 := Lib.hid (R6.out.later hb7); have S7 := Lib.hid (S6.out.later hb7)
      clear hb7 hB6 R6 S6
      go_wp2_with fail
      refine (cla_Norm a2 len2 cap2 c _ S7.out (by have := HLB.out; omega)).mono ?_
      rintro e w8 ⟨v8, rfl, hown8, hb8⟩
      have Q8 := Lib.hid hown8.ints
      have RN := Lib.hid (RN.out.later hb8)
      have R8 := Lib.hid (R7.out.later hb8)
      have hB8 := below_step hB7 hb8
      clear hown8 hb8 hB7 R7 S7
      go_wp2_with fail
      refine (same_IntsV _ v8 (cNorm l) (cNorm c) _ ⟨_, _, _, rfl, hn1, hn2, RN.out⟩ Q8.out).mono ?_
      rintro e w9 ⟨rfl, hb9⟩
      have RN := Lib.hid (RN.out.later hb9)
      have R9 := Lib.hid (R8.out.later hb9)
      have hB9 := below_step hB8 hb9
      clear Q8 hb9 hB8 R8
      generalize decide (cNorm l = cNorm c) = D at *
      go_wp2_with fail
      refine (cla_Same a len cap l an ln cn (cNorm l) _ R9.out RN.out (by have := HLA.out; omega) (by have := HLN.out; omega) HF.out HFN.out).mono ?_
      rintro e w10 ⟨rfl, hb10⟩
      rw [HSN.out]
      have hB10 := below_step hB9 hb10
      clear hb10 hB9 R9
      go_wp2_with (go_at_call 7; refine (law02_awake _).mono ?_; rintro e w' ⟨rfl, hbAw⟩)
      go_returns
      exact ⟨rfl, by (repeat (first | (with_reducible exact Below.refl _ _) | (with_reducible assumption) | (with_reducible refine below_alloc ?_ _) | (with_reducible refine below_drew ?_) | (with_reducible refine below_drewN ?_ _) | (with_reducible refine below_step ?_ (by with_reducible assumption))))⟩
end Go.Proofs.Ytcifneenbdibeaa
