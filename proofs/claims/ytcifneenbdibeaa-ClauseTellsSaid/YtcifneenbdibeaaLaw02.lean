/- Layer 2: ClauseTells. -/
import Derived.Test.YtcifneenbdibeaaClaA
import Derived.Test.YtcifneenbdibeaaReg
namespace Go.Proofs.Ytcifneenbdibeaa
open Go.RowKit
set_option linter.unusedVariables false
set_option linter.unusedSimpArgs false
theorem below_same {w w' : World} (h : w = w') : Below w.heap.size w w' := by subst h; exact Below.refl _ _
theorem below_same' {w w' : World} (h : w' = w) : Below w.heap.size w w' := by subst h; exact Below.refl _ _

set_option maxRecDepth 100000 in
set_option maxHeartbeats 8000000 in
theorem clauseTells_walk (w : World) (a : Option Addr) (len cap : Nat) (l : List Int) (hr : IntRow w a len l) (hf : Fits' l) (hcap : len ≤ cap ∧ cap ≤ maxLen ∧ (a = none → cap = 0)) (a2 : Option Addr) (len2 cap2 : Nat) (c : List Int) (hr2 : IntRow w a2 len2 c) (hf2 : Fits' c) (hcap2 : len2 ≤ cap2 ∧ cap2 ≤ maxLen ∧ (a2 = none → cap2 = 0))
    (x y : Int) (wx : (Lit.int .i64 x).wf = true) (wy : (Lit.int .i64 y).wf = true) :
    Calls Try.prog 3 #[.slice a len cap, .slice a2 len2 cap2, .agg #[.int .i64 x, .int .i64 y]] w fun e w' => e = .returned (.bool true) ∧ Below w.heap.size w w' := by
  have hlc := hcap.1
  clear wx wy hcap hcap2
  have hb1 : Below w.heap.size w (w.alloc (.cells #[.int .i64 x, .int .i64 y] 23)) := by (repeat (first | (with_reducible exact Below.refl _ _) | (with_reducible assumption) | (with_reducible refine below_alloc ?_ _) | (with_reducible refine below_drew ?_) | (with_reducible refine below_drewN ?_ _) | (with_reducible refine below_step ?_ (by with_reducible assumption))))
  have HR := Lib.hid (hr.later hb1); have HR2 := Lib.hid (hr2.later hb1)
  have HF := Lib.hid hf; have HF2 := Lib.hid hf2
  have HLC := Lib.hid hlc
  have hs1 := Blk.made w #[.int .i64 x, .int .i64 y] 23
  generalize hw1 : w.alloc (.cells #[.int .i64 x, .int .i64 y] 23) = W1 at *
  have HW1 := Lib.hid hw1; clear hw1
  have c0 := hs1.cell 0; have c1 := hs1.cell 1
  simp at c0 c1
  have C0 := Lib.hid c0; have C1 := Lib.hid c1
  have d5 : decide (300 < (len : Int)) = decide (300 < len) := by rw [Bool.eq_iff_iff]; simp; omega
  have d6 : decide (300 < (len2 : Int)) = decide (300 < len2) := by rw [Bool.eq_iff_iff]; simp; omega
  clear hs1 hr hr2 hf hf2 hlc
  by_cases h1 : 300 < len
  · rw [decide_eq_true h1] at d5
    clear h1 d6
    go_enter Try.func3, Try.ntmps3
    go_wp2_with (go_at_call 7; refine (law02_awake _).mono ?_; rintro e w' ⟨rfl, hbAw⟩)
    go_returns
    exact ⟨rfl, by (repeat (first | (with_reducible exact Below.refl _ _) | (with_reducible assumption) | (with_reducible refine below_alloc ?_ _) | (with_reducible refine below_drew ?_) | (with_reducible refine below_drewN ?_ _) | (with_reducible refine below_step ?_ (by with_reducible assumption))))⟩
  · rw [decide_eq_false h1] at d5
    by_cases h2 : 300 < len2
    · rw [decide_eq_true h2] at d6
      clear h1 h2
      go_enter Try.func3, Try.ntmps3
      go_wp2_with (go_at_call 7; refine (law02_awake _).mono ?_; rintro e w' ⟨rfl, hbAw⟩)
      go_returns
      exact ⟨rfl, by (repeat (first | (with_reducible exact Below.refl _ _) | (with_reducible assumption) | (with_reducible refine below_alloc ?_ _) | (with_reducible refine below_drew ?_) | (with_reducible refine below_drewN ?_ _) | (with_reducible refine below_step ?_ (by with_reducible assumption))))⟩
    · rw [decide_eq_false h2] at d6
      have HLA : Hid (len ≤ 100000) := Lib.hid (by omega)
      have HLB : Hid (len2 ≤ 100000) := Lib.hid (by omega)
      clear h1 h2
      have e0 := c0; have e1 := c1
      clear c0 c1
      cases hs : cSub l c
      case false =>
        have HS := Lib.hid hs
        clear hs
        go_enter Try.func3, Try.ntmps3
        go_wp2_with fail
        rw [HW1.out]
        refine wp_region_later (by kernel_rfl) (fun wk0 hn => ?_)
        have hB : Later W1 wk0 := Later.trans (Later.refl _) hn
        clear hn
        refine wpAnyL_take 0 (oi := ?_) (v := ?_) ?_ (by kernel_rfl) (by kernel_rfl) (by kernel_rfl) ?_ (Or.inl ⟨?_, fun wz hy => ?_⟩) (fun wk1 hn => ?_)
        rotate_left 2
        focus
          simp only [List.getElem?_toArray, List.getElem?_cons_succ, List.getElem?_cons_zero]
          rfl
        focus exact fun _ _ _ h => h
        focus rfl
        focus
          have hz : Later W1 wz := Later.trans hB hy
          have e0 := cell_later hz C0.out; have e1 := cell_later hz C1.out
          refine gives_value (w' := wz) ?_ ⟨rfl, Later.refl _⟩
          go_simp
          try with_reducible rfl
        replace hB : Later W1 wk1 := Later.trans hB hn
        clear hn
        try clear wk0
        try simp only [Act.put, List.setIfInBounds_toArray, List.set_cons_zero, List.set_cons_succ]
        refine wpAnyL_take 1 (oi := ?_) (v := ?_) ?_ (by kernel_rfl) (by kernel_rfl) (by kernel_rfl) ?_ (Or.inl ⟨?_, fun wz hy => ?_⟩) (fun wk2 hn => ?_)
        rotate_left 2
        focus
          simp only [List.getElem?_toArray, List.getElem?_cons_succ, List.getElem?_cons_zero]
          rfl
        focus exact fun _ _ _ h => h
        focus rfl
        focus
          have hz : Later W1 wz := Later.trans hB hy
          have e0 := cell_later hz C0.out; have e1 := cell_later hz C1.out
          refine gives_value (w' := wz) ?_ ⟨rfl, Later.refl _⟩
          go_simp
          try with_reducible rfl
        replace hB : Later W1 wk2 := Later.trans hB hn
        clear hn
        try clear wk1
        try simp only [Act.put, List.setIfInBounds_toArray, List.set_cons_zero, List.set_cons_succ]
        refine wpAnyL_take 2 (oi := ?_) (v := ?_) ?_ (by kernel_rfl) (by kernel_rfl) (by kernel_rfl) ?_ (Or.inl ⟨?_, fun wz hy => ?_⟩) (fun wk3 hn => ?_)
        rotate_left 2
        focus
          simp only [List.getElem?_toArray, List.getElem?_cons_succ, List.getElem?_cons_zero]
          rfl
        focus exact fun _ _ _ h => h
        focus rfl
        focus
          have hz : Later W1 wz := Later.trans hB hy
          have e0 := cell_later hz C0.out; have e1 := cell_later hz C1.out
          refine gives_value (w' := wz) ?_ ⟨rfl, Later.refl _⟩
          go_simp
          try with_reducible rfl
        replace hB : Later W1 wk3 := Later.trans hB hn
        clear hn
        try clear wk2
        try simp only [Act.put, List.setIfInBounds_toArray, List.set_cons_zero, List.set_cons_succ]
        refine wpAnyL_take 3 (oi := ?_) (v := ?_) ?_ (by kernel_rfl) (by kernel_rfl) (by kernel_rfl) ?_ (Or.inl ⟨?_, fun wz hy => ?_⟩) (fun wk4 hn => ?_)
        rotate_left 2
        focus
          simp only [List.getElem?_toArray, List.getElem?_cons_succ, List.getElem?_cons_zero]
          rfl
        focus exact fun _ _ _ h => h
        focus rfl
        focus
          have hz : Later W1 wz := Later.trans hB hy
          refine gives_enter (w' := wz) ?_ (Calls.mono (cla_Check a len cap l y wz (HR.out.later hz)) ?_)
          focus
            go_simp
            try with_reducible rfl
          rintro e w2 ⟨rfl, hb⟩; refine ⟨_, rfl, ?_, hb⟩; rfl
        replace hB : Later W1 wk4 := Later.trans hB hn
        clear hn
        try clear wk3
        try simp only [Act.put, List.setIfInBounds_toArray, List.set_cons_zero, List.set_cons_succ]
        refine wpAnyL_take 4 (oi := ?_) (v := ?_) ?_ (by kernel_rfl) (by kernel_rfl) (by kernel_rfl) ?_ (Or.inl ⟨?_, fun wz hy => ?_⟩) (fun wk5 hn => ?_)
        rotate_left 2
        focus
          simp only [List.getElem?_toArray, List.getElem?_cons_succ, List.getElem?_cons_zero]
          rfl
        focus exact fun _ _ _ h => h
        focus rfl
        focus
          have hz : Later W1 wz := Later.trans hB hy
          have e0 := cell_later hz C0.out; have e1 := cell_later hz C1.out
          refine gives_value (w' := wz) ?_ ⟨rfl, Later.refl _⟩
          go_simp
          try with_reducible rfl
        replace hB : Later W1 wk5 := Later.trans hB hn
        clear hn
        try clear wk4
        try simp only [Act.put, List.setIfInBounds_toArray, List.set_cons_zero, List.set_cons_succ]
        refine wpAnyL_take 5 (oi := ?_) (v := ?_) ?_ (by kernel_rfl) (by kernel_rfl) (by kernel_rfl) ?_ (Or.inl ⟨?_, fun wz hy => ?_⟩) (fun wk6 hn => ?_)
        rotate_left 2
        focus
          simp only [List.getElem?_toArray, List.getElem?_cons_succ, List.getElem?_cons_zero]
          rfl
        focus exact fun _ _ _ h => h
        focus rfl
        focus
          have hz : Later W1 wz := Later.trans hB hy
          have e0 := cell_later hz C0.out; have e1 := cell_later hz C1.out
          refine gives_value (w' := wz) ?_ ⟨rfl, Later.refl _⟩
          go_simp
          try with_reducible rfl
        replace hB : Later W1 wk6 := Later.trans hB hn
        clear hn
        try clear wk5
        try simp only [Act.put, List.setIfInBounds_toArray, List.set_cons_zero, List.set_cons_succ]
        refine wpAnyL_take 6 (oi := ?_) (v := ?_) ?_ (by kernel_rfl) (by kernel_rfl) (by kernel_rfl) ?_ (Or.inl ⟨?_, fun wz hy => ?_⟩) (fun wk7 hn => ?_)
        rotate_left 2
        focus
          simp only [List.getElem?_toArray, List.getElem?_cons_succ, List.getElem?_cons_zero]
          rfl
        focus exact fun _ _ _ h => h
        focus rfl
        focus
          have hz : Later W1 wz := Later.trans hB hy
          have e0 := cell_later hz C0.out; have e1 := cell_later hz C1.out
          refine gives_value (w' := wz) ?_ ⟨rfl, Later.refl _⟩
          go_simp
          try with_reducible rfl
        replace hB : Later W1 wk7 := Later.trans hB hn
        clear hn
        try clear wk6
        try simp only [Act.put, List.setIfInBounds_toArray, List.set_cons_zero, List.set_cons_succ]
        refine wpAnyL_take 7 (oi := ?_) (v := ?_) ?_ (by kernel_rfl) (by kernel_rfl) (by kernel_rfl) ?_ (Or.inl ⟨?_, fun wz hy => ?_⟩) (fun wk8 hn => ?_)
        rotate_left 2
        focus
          simp only [List.getElem?_toArray, List.getElem?_cons_succ, List.getElem?_cons_zero]
          rfl
        focus exact fun _ _ _ h => h
        focus rfl
        focus
          have hz : Later W1 wz := Later.trans hB hy
          refine gives_enter (w' := wz) ?_ (Calls.mono (ref_Check02 a len cap l y wz (HR.out.later hz) HLC.out) ?_)
          focus
            go_simp
            try with_reducible rfl
          rintro e w2 ⟨rfl, hb⟩; refine ⟨_, rfl, ?_, hb⟩; rfl
        replace hB : Later W1 wk8 := Later.trans hB hn
        clear hn
        try clear wk7
        try simp only [Act.put, List.setIfInBounds_toArray, List.set_cons_zero, List.set_cons_succ]
        refine wpAnyL_take 8 (oi := ?_) (v := ?_) ?_ (by kernel_rfl) (by kernel_rfl) (by kernel_rfl) ?_ (Or.inl ⟨?_, fun wz hy => ?_⟩) (fun wk9 hn => ?_)
        rotate_left 2
        focus
          simp only [List.getElem?_toArray, List.getElem?_cons_succ, List.getElem?_cons_zero]
          rfl
        focus exact fun _ _ _ h => h
        focus rfl
        focus
          have hz : Later W1 wz := Later.trans hB hy
          have e0 := cell_later hz C0.out; have e1 := cell_later hz C1.out
          refine gives_value (w' := wz) ?_ ⟨rfl, Later.refl _⟩
          go_simp
          try with_reducible rfl
        replace hB : Later W1 wk9 := Later.trans hB hn
        clear hn
        try clear wk8
        try simp only [Act.put, List.setIfInBounds_toArray, List.set_cons_zero, List.set_cons_succ]
        refine wpAnyL_take 9 (oi := ?_) (v := ?_) ?_ (by kernel_rfl) (by kernel_rfl) (by kernel_rfl) ?_ (Or.inl ⟨?_, fun wz hy => ?_⟩) (fun wk10 hn => ?_)
        rotate_left 2
        focus
          simp only [List.getElem?_toArray, List.getElem?_cons_succ, List.getElem?_cons_zero]
          rfl
        focus exact fun _ _ _ h => h
        focus rfl
        focus
          have hz : Later W1 wz := Later.trans hB hy
          have e0 := cell_later hz C0.out; have e1 := cell_later hz C1.out
          refine gives_value (w' := wz) ?_ ⟨rfl, Later.refl _⟩
          go_simp
          try with_reducible rfl
        replace hB : Later W1 wk10 := Later.trans hB hn
        clear hn
        try clear wk9
        try simp only [Act.put, List.setIfInBounds_toArray, List.set_cons_zero, List.set_cons_succ]
        refine wpAnyL_take 10 (oi := ?_) (v := ?_) ?_ (by kernel_rfl) (by kernel_rfl) (by kernel_rfl) ?_ (Or.inl ⟨?_, fun wz hy => ?_⟩) (fun wk11 hn => ?_)
        rotate_left 2
        focus
          simp only [List.getElem?_toArray, List.getElem?_cons_succ, List.getElem?_cons_zero]
          rfl
        focus exact fun _ _ _ h => h
        focus rfl
        focus
          have hz : Later W1 wz := Later.trans hB hy
          have e0 := cell_later hz C0.out; have e1 := cell_later hz C1.out
          refine gives_value (w' := wz) ?_ ⟨rfl, Later.refl _⟩
          go_simp
          try with_reducible rfl
        replace hB : Later W1 wk11 := Later.trans hB hn
        clear hn
        try clear wk10
        try simp only [Act.put, List.setIfInBounds_toArray, List.set_cons_zero, List.set_cons_succ]
        refine wpAnyL_take 12 (oi := ?_) (v := ?_) ?_ (by kernel_rfl) (by kernel_rfl) (by kernel_rfl) ?_ (Or.inl ⟨?_, fun wz hy => ?_⟩) (fun wk12 hn => ?_)
        rotate_left 2
        focus
          simp only [List.getElem?_toArray, List.getElem?_cons_succ, List.getElem?_cons_zero]
          rfl
        focus exact fun _ _ _ h => h
        focus rfl
        focus
          have hz : Later W1 wz := Later.trans hB hy
          have e0 := cell_later hz C0.out; have e1 := cell_later hz C1.out
          refine gives_value (w' := wz) ?_ ⟨rfl, Later.refl _⟩
          go_simp
          try with_reducible rfl
        replace hB : Later W1 wk12 := Later.trans hB hn
        clear hn
        try clear wk11
        try simp only [Act.put, List.setIfInBounds_toArray, List.set_cons_zero, List.set_cons_succ]
        refine wpAnyL_one 11 (oi := ?_) ?_ (by kernel_rfl) ?_ ?_
        rotate_left 1
        focus
          simp only [List.getElem?_toArray, List.getElem?_cons_succ, List.getElem?_cons_zero]
          rfl
        focus rfl
        refine gives_enter (w' := wk12) ?_ (Calls.mono (cla_Norm a len cap l wk12 (HR.out.later hB) HLA.out) ?_)
        focus
          go_simp
          try with_reducible rfl
        rintro e w2 ⟨vA, rfl, hown, hb⟩; refine ⟨_, rfl, hb, fun wk13 hn => ?_⟩
        have QA : Ints wk13 vA (cNorm l) := hown.ints.later hn
        try have QB := QB.later (Later.trans hb hn)
        replace hB : Later W1 wk13 := Later.trans hB (Later.trans hb hn)
        clear hn hb hown
        try clear w2
        try clear wk12
        try simp only [Act.put, List.setIfInBounds_toArray, List.set_cons_zero, List.set_cons_succ]
        refine wpAnyL_one 13 (oi := ?_) ?_ (by kernel_rfl) ?_ ?_
        rotate_left 1
        focus
          simp only [List.getElem?_toArray, List.getElem?_cons_succ, List.getElem?_cons_zero]
          rfl
        focus rfl
        refine gives_enter (w' := wk13) ?_ (Calls.mono (ref_Norm02 a len cap l wk13 (HR.out.later hB) HLA.out) ?_)
        focus
          go_simp
          try with_reducible rfl
        rintro e w2 ⟨vB, rfl, hown, hb⟩; refine ⟨_, rfl, hb, fun wk14 hn => ?_⟩
        have QB : Ints wk14 vB (cNorm l) := hown.ints.later hn
        try have QA := QA.later (Later.trans hb hn)
        replace hB : Later W1 wk14 := Later.trans hB (Later.trans hb hn)
        clear hn hb hown
        try clear w2
        try clear wk13
        try simp only [Act.put, List.setIfInBounds_toArray, List.set_cons_zero, List.set_cons_succ]
        refine wpAnyL_take 14 (oi := ?_) (v := ?_) ?_ (by kernel_rfl) (by kernel_rfl) (by kernel_rfl) ?_ (Or.inl ⟨?_, fun wz hy => ?_⟩) (fun wk15 hn => ?_)
        rotate_left 2
        focus
          simp only [List.getElem?_toArray, List.getElem?_cons_succ, List.getElem?_cons_zero]
          rfl
        focus exact fun _ _ _ h => h
        focus rfl
        focus
          have hz : Later W1 wz := Later.trans hB hy
          refine gives_enter (w' := wz) ?_ (Calls.mono (same_IntsV vA vB (cNorm l) (cNorm l) wz (QA.later hy) (QB.later hy)) ?_)
          focus
            go_simp
            try with_reducible rfl
          rintro e w2 ⟨rfl, hb⟩; rw [decide_eq_true rfl]; refine ⟨_, rfl, ?_, hb⟩; rfl
        replace hB : Later W1 wk15 := Later.trans hB hn
        clear QA QB
        clear hn
        try clear wk14
        try simp only [Act.put, List.setIfInBounds_toArray, List.set_cons_zero, List.set_cons_succ]
        refine wpAnyL_take 15 (oi := ?_) (v := ?_) ?_ (by kernel_rfl) (by kernel_rfl) (by kernel_rfl) ?_ (Or.inl ⟨?_, fun wz hy => ?_⟩) (fun wk16 hn => ?_)
        rotate_left 2
        focus
          simp only [List.getElem?_toArray, List.getElem?_cons_succ, List.getElem?_cons_zero]
          rfl
        focus exact fun _ _ _ h => h
        focus rfl
        focus
          have hz : Later W1 wz := Later.trans hB hy
          have e0 := cell_later hz C0.out; have e1 := cell_later hz C1.out
          refine gives_value (w' := wz) ?_ ⟨rfl, Later.refl _⟩
          go_simp
          try with_reducible rfl
        replace hB : Later W1 wk16 := Later.trans hB hn
        clear hn
        try clear wk15
        try simp only [Act.put, List.setIfInBounds_toArray, List.set_cons_zero, List.set_cons_succ]
        refine wpAnyL_take 16 (oi := ?_) (v := ?_) ?_ (by kernel_rfl) (by kernel_rfl) (by kernel_rfl) ?_ (Or.inl ⟨?_, fun wz hy => ?_⟩) (fun wk17 hn => ?_)
        rotate_left 2
        focus
          simp only [List.getElem?_toArray, List.getElem?_cons_succ, List.getElem?_cons_zero]
          rfl
        focus exact fun _ _ _ h => h
        focus rfl
        focus
          have hz : Later W1 wz := Later.trans hB hy
          have e0 := cell_later hz C0.out; have e1 := cell_later hz C1.out
          refine gives_value (w' := wz) ?_ ⟨rfl, Later.refl _⟩
          go_simp
          try with_reducible rfl
        replace hB : Later W1 wk17 := Later.trans hB hn
        clear hn
        try clear wk16
        try simp only [Act.put, List.setIfInBounds_toArray, List.set_cons_zero, List.set_cons_succ]
        refine wpAnyL_take 17 (oi := ?_) (v := ?_) ?_ (by kernel_rfl) (by kernel_rfl) (by kernel_rfl) ?_ (Or.inl ⟨?_, fun wz hy => ?_⟩) (fun wk18 hn => ?_)
        rotate_left 2
        focus
          simp only [List.getElem?_toArray, List.getElem?_cons_succ, List.getElem?_cons_zero]
          rfl
        focus exact fun _ _ _ h => h
        focus rfl
        focus
          have hz : Later W1 wz := Later.trans hB hy
          have e0 := cell_later hz C0.out; have e1 := cell_later hz C1.out
          refine gives_value (w' := wz) ?_ ⟨rfl, Later.refl _⟩
          go_simp
          try with_reducible rfl
        replace hB : Later W1 wk18 := Later.trans hB hn
        clear hn
        try clear wk17
        try simp only [Act.put, List.setIfInBounds_toArray, List.set_cons_zero, List.set_cons_succ]
        refine wpAnyL_take 18 (oi := ?_) (v := ?_) ?_ (by kernel_rfl) (by kernel_rfl) (by kernel_rfl) ?_ (Or.inl ⟨?_, fun wz hy => ?_⟩) (fun wk19 hn => ?_)
        rotate_left 2
        focus
          simp only [List.getElem?_toArray, List.getElem?_cons_succ, List.getElem?_cons_zero]
          rfl
        focus exact fun _ _ _ h => h
        focus rfl
        focus
          have hz : Later W1 wz := Later.trans hB hy
          have e0 := cell_later hz C0.out; have e1 := cell_later hz C1.out
          refine gives_value (w' := wz) ?_ ⟨rfl, Later.refl _⟩
          go_simp
          try with_reducible rfl
        replace hB : Later W1 wk19 := Later.trans hB hn
        clear hn
        try clear wk18
        try simp only [Act.put, List.setIfInBounds_toArray, List.set_cons_zero, List.set_cons_succ]
        refine wpAnyL_take 19 (oi := ?_) (v := ?_) ?_ (by kernel_rfl) (by kernel_rfl) (by kernel_rfl) ?_ (Or.inl ⟨?_, fun wz hy => ?_⟩) (fun wk20 hn => ?_)
        rotate_left 2
        focus
          simp only [List.getElem?_toArray, List.getElem?_cons_succ, List.getElem?_cons_zero]
          rfl
        focus exact fun _ _ _ h => h
        focus rfl
        focus
          have hz : Later W1 wz := Later.trans hB hy
          have e0 := cell_later hz C0.out; have e1 := cell_later hz C1.out
          refine gives_value (w' := wz) ?_ ⟨rfl, Later.refl _⟩
          go_simp
          try with_reducible rfl
        replace hB : Later W1 wk20 := Later.trans hB hn
        clear hn
        try clear wk19
        try simp only [Act.put, List.setIfInBounds_toArray, List.set_cons_zero, List.set_cons_succ]
        refine wpAnyL_take 20 (oi := ?_) (v := ?_) ?_ (by kernel_rfl) (by kernel_rfl) (by kernel_rfl) ?_ (Or.inl ⟨?_, fun wz hy => ?_⟩) (fun wk21 hn => ?_)
        rotate_left 2
        focus
          simp only [List.getElem?_toArray, List.getElem?_cons_succ, List.getElem?_cons_zero]
          rfl
        focus exact fun _ _ _ h => h
        focus rfl
        focus
          have hz : Later W1 wz := Later.trans hB hy
          refine gives_enter (w' := wz) ?_ (Calls.mono (cla_Has a len cap l x wz (HR.out.later hz)) ?_)
          focus
            go_simp
            try with_reducible rfl
          rintro e w2 ⟨rfl, hq⟩; refine ⟨_, rfl, ?_, by first | (rw [← hq]; exact Later.refl _) | (rw [hq]; exact Later.refl _)⟩; rfl
        replace hB : Later W1 wk21 := Later.trans hB hn
        clear hn
        try clear wk20
        try simp only [Act.put, List.setIfInBounds_toArray, List.set_cons_zero, List.set_cons_succ]
        refine wpAnyL_take 21 (oi := ?_) (v := ?_) ?_ (by kernel_rfl) (by kernel_rfl) (by kernel_rfl) ?_ (Or.inl ⟨?_, fun wz hy => ?_⟩) (fun wk22 hn => ?_)
        rotate_left 2
        focus
          simp only [List.getElem?_toArray, List.getElem?_cons_succ, List.getElem?_cons_zero]
          rfl
        focus exact fun _ _ _ h => h
        focus rfl
        focus
          have hz : Later W1 wz := Later.trans hB hy
          have e0 := cell_later hz C0.out; have e1 := cell_later hz C1.out
          refine gives_value (w' := wz) ?_ ⟨rfl, Later.refl _⟩
          go_simp
          try with_reducible rfl
        replace hB : Later W1 wk22 := Later.trans hB hn
        clear hn
        try clear wk21
        try simp only [Act.put, List.setIfInBounds_toArray, List.set_cons_zero, List.set_cons_succ]
        refine wpAnyL_take 22 (oi := ?_) (v := ?_) ?_ (by kernel_rfl) (by kernel_rfl) (by kernel_rfl) ?_ (Or.inl ⟨?_, fun wz hy => ?_⟩) (fun wk23 hn => ?_)
        rotate_left 2
        focus
          simp only [List.getElem?_toArray, List.getElem?_cons_succ, List.getElem?_cons_zero]
          rfl
        focus exact fun _ _ _ h => h
        focus rfl
        focus
          have hz : Later W1 wz := Later.trans hB hy
          have e0 := cell_later hz C0.out; have e1 := cell_later hz C1.out
          refine gives_value (w' := wz) ?_ ⟨rfl, Later.refl _⟩
          go_simp
          try with_reducible rfl
        replace hB : Later W1 wk23 := Later.trans hB hn
        clear hn
        try clear wk22
        try simp only [Act.put, List.setIfInBounds_toArray, List.set_cons_zero, List.set_cons_succ]
        refine wpAnyL_take 23 (oi := ?_) (v := ?_) ?_ (by kernel_rfl) (by kernel_rfl) (by kernel_rfl) ?_ (Or.inl ⟨?_, fun wz hy => ?_⟩) (fun wk24 hn => ?_)
        rotate_left 2
        focus
          simp only [List.getElem?_toArray, List.getElem?_cons_succ, List.getElem?_cons_zero]
          rfl
        focus exact fun _ _ _ h => h
        focus rfl
        focus
          have hz : Later W1 wz := Later.trans hB hy
          have e0 := cell_later hz C0.out; have e1 := cell_later hz C1.out
          refine gives_value (w' := wz) ?_ ⟨rfl, Later.refl _⟩
          go_simp
          try with_reducible rfl
        replace hB : Later W1 wk24 := Later.trans hB hn
        clear hn
        try clear wk23
        try simp only [Act.put, List.setIfInBounds_toArray, List.set_cons_zero, List.set_cons_succ]
        refine wpAnyL_take 24 (oi := ?_) (v := ?_) ?_ (by kernel_rfl) (by kernel_rfl) (by kernel_rfl) ?_ (Or.inl ⟨?_, fun wz hy => ?_⟩) (fun wk25 hn => ?_)
        rotate_left 2
        focus
          simp only [List.getElem?_toArray, List.getElem?_cons_succ, List.getElem?_cons_zero]
          rfl
        focus exact fun _ _ _ h => h
        focus rfl
        focus
          have hz : Later W1 wz := Later.trans hB hy
          refine gives_enter (w' := wz) ?_ (Calls.mono (ref_Has02 a len cap l x wz (HR.out.later hz)) ?_)
          focus
            go_simp
            try with_reducible rfl
          rintro e w2 ⟨rfl, hq⟩; refine ⟨_, rfl, ?_, by first | (rw [← hq]; exact Later.refl _) | (rw [hq]; exact Later.refl _)⟩; rfl
        replace hB : Later W1 wk25 := Later.trans hB hn
        clear hn
        try clear wk24
        try simp only [Act.put, List.setIfInBounds_toArray, List.set_cons_zero, List.set_cons_succ]
        refine wpAnyL_take 25 (oi := ?_) (v := ?_) ?_ (by kernel_rfl) (by kernel_rfl) (by kernel_rfl) ?_ (Or.inl ⟨?_, fun wz hy => ?_⟩) (fun wk26 hn => ?_)
        rotate_left 2
        focus
          simp only [List.getElem?_toArray, List.getElem?_cons_succ, List.getElem?_cons_zero]
          rfl
        focus exact fun _ _ _ h => h
        focus rfl
        focus
          have hz : Later W1 wz := Later.trans hB hy
          have e0 := cell_later hz C0.out; have e1 := cell_later hz C1.out
          refine gives_value (w' := wz) ?_ ⟨rfl, Later.refl _⟩
          go_simp
          try with_reducible rfl
        replace hB : Later W1 wk26 := Later.trans hB hn
        clear hn
        try clear wk25
        try simp only [Act.put, List.setIfInBounds_toArray, List.set_cons_zero, List.set_cons_succ]
        refine wpAnyL_take 26 (oi := ?_) (v := ?_) ?_ (by kernel_rfl) (by kernel_rfl) (by kernel_rfl) ?_ (Or.inl ⟨?_, fun wz hy => ?_⟩) (fun wk27 hn => ?_)
        rotate_left 2
        focus
          simp only [List.getElem?_toArray, List.getElem?_cons_succ, List.getElem?_cons_zero]
          rfl
        focus exact fun _ _ _ h => h
        focus rfl
        focus
          have hz : Later W1 wz := Later.trans hB hy
          have e0 := cell_later hz C0.out; have e1 := cell_later hz C1.out
          refine gives_value (w' := wz) ?_ ⟨rfl, Later.refl _⟩
          go_simp
          try with_reducible rfl
        replace hB : Later W1 wk27 := Later.trans hB hn
        clear hn
        try clear wk26
        try simp only [Act.put, List.setIfInBounds_toArray, List.set_cons_zero, List.set_cons_succ]
        refine wpAnyL_take 27 (oi := ?_) (v := ?_) ?_ (by kernel_rfl) (by kernel_rfl) (by kernel_rfl) ?_ (Or.inl ⟨?_, fun wz hy => ?_⟩) (fun wk28 hn => ?_)
        rotate_left 2
        focus
          simp only [List.getElem?_toArray, List.getElem?_cons_succ, List.getElem?_cons_zero]
          rfl
        focus exact fun _ _ _ h => h
        focus rfl
        focus
          have hz : Later W1 wz := Later.trans hB hy
          have e0 := cell_later hz C0.out; have e1 := cell_later hz C1.out
          refine gives_value (w' := wz) ?_ ⟨rfl, Later.refl _⟩
          go_simp
          try with_reducible rfl
        replace hB : Later W1 wk28 := Later.trans hB hn
        clear hn
        try clear wk27
        try simp only [Act.put, List.setIfInBounds_toArray, List.set_cons_zero, List.set_cons_succ]
        refine wpAnyL_take 28 (oi := ?_) (v := ?_) ?_ (by kernel_rfl) (by kernel_rfl) (by kernel_rfl) ?_ (Or.inl ⟨?_, fun wz hy => ?_⟩) (fun wk29 hn => ?_)
        rotate_left 2
        focus
          simp only [List.getElem?_toArray, List.getElem?_cons_succ, List.getElem?_cons_zero]
          rfl
        focus exact fun _ _ _ h => h
        focus rfl
        focus
          have hz : Later W1 wz := Later.trans hB hy
          have e0 := cell_later hz C0.out; have e1 := cell_later hz C1.out
          refine gives_value (w' := wz) ?_ ⟨rfl, Later.refl _⟩
          go_simp
          try with_reducible rfl
        replace hB : Later W1 wk29 := Later.trans hB hn
        clear hn
        try clear wk28
        try simp only [Act.put, List.setIfInBounds_toArray, List.set_cons_zero, List.set_cons_succ]
        refine wpAnyL_take 29 (oi := ?_) (v := ?_) ?_ (by kernel_rfl) (by kernel_rfl) (by kernel_rfl) ?_ (Or.inl ⟨?_, fun wz hy => ?_⟩) (fun wk30 hn => ?_)
        rotate_left 2
        focus
          simp only [List.getElem?_toArray, List.getElem?_cons_succ, List.getElem?_cons_zero]
          rfl
        focus exact fun _ _ _ h => h
        focus rfl
        focus
          have hz : Later W1 wz := Later.trans hB hy
          refine gives_enter (w' := wz) ?_ (Calls.mono (cla_Taut a len cap l wz (HR.out.later hz) HLA.out) ?_)
          focus
            go_simp
            try with_reducible rfl
          rintro e w2 ⟨rfl, hb⟩; refine ⟨_, rfl, ?_, hb⟩; rfl
        replace hB : Later W1 wk30 := Later.trans hB hn
        clear hn
        try clear wk29
        try simp only [Act.put, List.setIfInBounds_toArray, List.set_cons_zero, List.set_cons_succ]
        refine wpAnyL_take 30 (oi := ?_) (v := ?_) ?_ (by kernel_rfl) (by kernel_rfl) (by kernel_rfl) ?_ (Or.inl ⟨?_, fun wz hy => ?_⟩) (fun wk31 hn => ?_)
        rotate_left 2
        focus
          simp only [List.getElem?_toArray, List.getElem?_cons_succ, List.getElem?_cons_zero]
          rfl
        focus exact fun _ _ _ h => h
        focus rfl
        focus
          have hz : Later W1 wz := Later.trans hB hy
          have e0 := cell_later hz C0.out; have e1 := cell_later hz C1.out
          refine gives_value (w' := wz) ?_ ⟨rfl, Later.refl _⟩
          go_simp
          try with_reducible rfl
        replace hB : Later W1 wk31 := Later.trans hB hn
        clear hn
        try clear wk30
        try simp only [Act.put, List.setIfInBounds_toArray, List.set_cons_zero, List.set_cons_succ]
        refine wpAnyL_take 31 (oi := ?_) (v := ?_) ?_ (by kernel_rfl) (by kernel_rfl) (by kernel_rfl) ?_ (Or.inl ⟨?_, fun wz hy => ?_⟩) (fun wk32 hn => ?_)
        rotate_left 2
        focus
          simp only [List.getElem?_toArray, List.getElem?_cons_succ, List.getElem?_cons_zero]
          rfl
        focus exact fun _ _ _ h => h
        focus rfl
        focus
          have hz : Later W1 wz := Later.trans hB hy
          refine gives_enter (w' := wz) ?_ (Calls.mono (ref_Taut02 a len cap l wz (HR.out.later hz)) ?_)
          focus
            go_simp
            try with_reducible rfl
          rintro e w2 ⟨rfl, hq⟩; refine ⟨_, rfl, ?_, by first | (rw [← hq]; exact Later.refl _) | (rw [hq]; exact Later.refl _)⟩; rfl
        replace hB : Later W1 wk32 := Later.trans hB hn
        clear hn
        try clear wk31
        try simp only [Act.put, List.setIfInBounds_toArray, List.set_cons_zero, List.set_cons_succ]
        refine wpAnyL_take 32 (oi := ?_) (v := ?_) ?_ (by kernel_rfl) (by kernel_rfl) (by kernel_rfl) ?_ (Or.inl ⟨?_, fun wz hy => ?_⟩) (fun wk33 hn => ?_)
        rotate_left 2
        focus
          simp only [List.getElem?_toArray, List.getElem?_cons_succ, List.getElem?_cons_zero]
          rfl
        focus exact fun _ _ _ h => h
        focus rfl
        focus
          have hz : Later W1 wz := Later.trans hB hy
          have e0 := cell_later hz C0.out; have e1 := cell_later hz C1.out
          refine gives_value (w' := wz) ?_ ⟨rfl, Later.refl _⟩
          go_simp
          try with_reducible rfl
        replace hB : Later W1 wk33 := Later.trans hB hn
        clear hn
        try clear wk32
        try simp only [Act.put, List.setIfInBounds_toArray, List.set_cons_zero, List.set_cons_succ]
        refine wpAnyL_take 33 (oi := ?_) (v := ?_) ?_ (by kernel_rfl) (by kernel_rfl) (by kernel_rfl) ?_ (Or.inl ⟨?_, fun wz hy => ?_⟩) (fun wk34 hn => ?_)
        rotate_left 2
        focus
          simp only [List.getElem?_toArray, List.getElem?_cons_succ, List.getElem?_cons_zero]
          rfl
        focus exact fun _ _ _ h => h
        focus rfl
        focus
          have hz : Later W1 wz := Later.trans hB hy
          have e0 := cell_later hz C0.out; have e1 := cell_later hz C1.out
          refine gives_value (w' := wz) ?_ ⟨rfl, Later.refl _⟩
          go_simp
          try with_reducible rfl
        replace hB : Later W1 wk34 := Later.trans hB hn
        clear hn
        try clear wk33
        try simp only [Act.put, List.setIfInBounds_toArray, List.set_cons_zero, List.set_cons_succ]
        refine wpAnyL_take 34 (oi := ?_) (v := ?_) ?_ (by kernel_rfl) (by kernel_rfl) (by kernel_rfl) ?_ (Or.inl ⟨?_, fun wz hy => ?_⟩) (fun wk35 hn => ?_)
        rotate_left 2
        focus
          simp only [List.getElem?_toArray, List.getElem?_cons_succ, List.getElem?_cons_zero]
          rfl
        focus exact fun _ _ _ h => h
        focus rfl
        focus
          have hz : Later W1 wz := Later.trans hB hy
          have e0 := cell_later hz C0.out; have e1 := cell_later hz C1.out
          refine gives_value (w' := wz) ?_ ⟨rfl, Later.refl _⟩
          go_simp
          try with_reducible rfl
        replace hB : Later W1 wk35 := Later.trans hB hn
        clear hn
        try clear wk34
        try simp only [Act.put, List.setIfInBounds_toArray, List.set_cons_zero, List.set_cons_succ]
        refine wpAnyL_take 35 (oi := ?_) (v := ?_) ?_ (by kernel_rfl) (by kernel_rfl) (by kernel_rfl) ?_ (Or.inl ⟨?_, fun wz hy => ?_⟩) (fun wk36 hn => ?_)
        rotate_left 2
        focus
          simp only [List.getElem?_toArray, List.getElem?_cons_succ, List.getElem?_cons_zero]
          rfl
        focus exact fun _ _ _ h => h
        focus rfl
        focus
          have hz : Later W1 wz := Later.trans hB hy
          have e0 := cell_later hz C0.out; have e1 := cell_later hz C1.out
          refine gives_value (w' := wz) ?_ ⟨rfl, Later.refl _⟩
          go_simp
          try with_reducible rfl
        replace hB : Later W1 wk36 := Later.trans hB hn
        clear hn
        try clear wk35
        try simp only [Act.put, List.setIfInBounds_toArray, List.set_cons_zero, List.set_cons_succ]
        refine wpAnyL_take 36 (oi := ?_) (v := ?_) ?_ (by kernel_rfl) (by kernel_rfl) (by kernel_rfl) ?_ (Or.inl ⟨?_, fun wz hy => ?_⟩) (fun wk37 hn => ?_)
        rotate_left 2
        focus
          simp only [List.getElem?_toArray, List.getElem?_cons_succ, List.getElem?_cons_zero]
          rfl
        focus exact fun _ _ _ h => h
        focus rfl
        focus
          have hz : Later W1 wz := Later.trans hB hy
          have e0 := cell_later hz C0.out; have e1 := cell_later hz C1.out
          refine gives_value (w' := wz) ?_ ⟨rfl, Later.refl _⟩
          go_simp
          try with_reducible rfl
        replace hB : Later W1 wk37 := Later.trans hB hn
        clear hn
        try clear wk36
        try simp only [Act.put, List.setIfInBounds_toArray, List.set_cons_zero, List.set_cons_succ]
        refine wpAnyL_take 37 (oi := ?_) (v := ?_) ?_ (by kernel_rfl) (by kernel_rfl) (by kernel_rfl) ?_ (Or.inl ⟨?_, fun wz hy => ?_⟩) (fun wk38 hn => ?_)
        rotate_left 2
        focus
          simp only [List.getElem?_toArray, List.getElem?_cons_succ, List.getElem?_cons_zero]
          rfl
        focus exact fun _ _ _ h => h
        focus rfl
        focus
          have hz : Later W1 wz := Later.trans hB hy
          refine gives_enter (w' := wz) ?_ (Calls.mono (cla_Subset a len cap l a2 len2 cap2 c wz (HR.out.later hz) (HR2.out.later hz) HLB.out HF.out HF2.out) ?_)
          focus
            go_simp
            try with_reducible rfl
          rintro e w2 ⟨rfl, hb⟩; rw [HS.out]; refine ⟨_, rfl, ?_, hb⟩; rfl
        replace hB : Later W1 wk38 := Later.trans hB hn
        clear hn
        try clear wk37
        try simp only [Act.put, List.setIfInBounds_toArray, List.set_cons_zero, List.set_cons_succ]
        refine wpAnyL_take 38 (oi := ?_) (v := ?_) ?_ (by kernel_rfl) (by kernel_rfl) (by kernel_rfl) ?_ (Or.inl ⟨?_, fun wz hy => ?_⟩) (fun wk39 hn => ?_)
        rotate_left 2
        focus
          simp only [List.getElem?_toArray, List.getElem?_cons_succ, List.getElem?_cons_zero]
          rfl
        focus exact fun _ _ _ h => h
        focus rfl
        focus
          have hz : Later W1 wz := Later.trans hB hy
          have e0 := cell_later hz C0.out; have e1 := cell_later hz C1.out
          refine gives_value (w' := wz) ?_ ⟨rfl, Later.refl _⟩
          go_simp
          try with_reducible rfl
        replace hB : Later W1 wk39 := Later.trans hB hn
        clear hn
        try clear wk38
        try simp only [Act.put, List.setIfInBounds_toArray, List.set_cons_zero, List.set_cons_succ]
        refine wpAnyL_take 39 (oi := ?_) (v := ?_) ?_ (by kernel_rfl) (by kernel_rfl) (by kernel_rfl) ?_ (Or.inl ⟨?_, fun wz hy => ?_⟩) (fun wk40 hn => ?_)
        rotate_left 2
        focus
          simp only [List.getElem?_toArray, List.getElem?_cons_succ, List.getElem?_cons_zero]
          rfl
        focus exact fun _ _ _ h => h
        focus rfl
        focus
          have hz : Later W1 wz := Later.trans hB hy
          have e0 := cell_later hz C0.out; have e1 := cell_later hz C1.out
          refine gives_value (w' := wz) ?_ ⟨rfl, Later.refl _⟩
          go_simp
          try with_reducible rfl
        replace hB : Later W1 wk40 := Later.trans hB hn
        clear hn
        try clear wk39
        try simp only [Act.put, List.setIfInBounds_toArray, List.set_cons_zero, List.set_cons_succ]
        refine wpAnyL_take 40 (oi := ?_) (v := ?_) ?_ (by kernel_rfl) (by kernel_rfl) (by kernel_rfl) ?_ (Or.inl ⟨?_, fun wz hy => ?_⟩) (fun wk41 hn => ?_)
        rotate_left 2
        focus
          simp only [List.getElem?_toArray, List.getElem?_cons_succ, List.getElem?_cons_zero]
          rfl
        focus exact fun _ _ _ h => h
        focus rfl
        focus
          have hz : Later W1 wz := Later.trans hB hy
          refine gives_enter (w' := wz) ?_ (Calls.mono (ref_Subset02 a len cap l a2 len2 cap2 c wz (HR.out.later hz) (HR2.out.later hz)) ?_)
          focus
            go_simp
            try with_reducible rfl
          rintro e w2 ⟨rfl, hq⟩; rw [HS.out]; refine ⟨_, rfl, ?_, by first | (rw [← hq]; exact Later.refl _) | (rw [hq]; exact Later.refl _)⟩; rfl
        replace hB : Later W1 wk41 := Later.trans hB hn
        clear hn
        try clear wk40
        try simp only [Act.put, List.setIfInBounds_toArray, List.set_cons_zero, List.set_cons_succ]
        refine wpAnyL_take 41 (oi := ?_) (v := ?_) ?_ (by kernel_rfl) (by kernel_rfl) (by kernel_rfl) ?_ (Or.inl ⟨?_, fun wz hy => ?_⟩) (fun wk42 hn => ?_)
        rotate_left 2
        focus
          simp only [List.getElem?_toArray, List.getElem?_cons_succ, List.getElem?_cons_zero]
          rfl
        focus exact fun _ _ _ h => h
        focus rfl
        focus
          have hz : Later W1 wz := Later.trans hB hy
          have e0 := cell_later hz C0.out; have e1 := cell_later hz C1.out
          refine gives_value (w' := wz) ?_ ⟨rfl, Later.refl _⟩
          go_simp
          try with_reducible rfl
        replace hB : Later W1 wk42 := Later.trans hB hn
        clear hn
        try clear wk41
        try simp only [Act.put, List.setIfInBounds_toArray, List.set_cons_zero, List.set_cons_succ]
        refine wpAnyL_take 42 (oi := ?_) (v := ?_) ?_ (by kernel_rfl) (by kernel_rfl) (by kernel_rfl) ?_ (Or.inl ⟨?_, fun wz hy => ?_⟩) (fun wk43 hn => ?_)
        rotate_left 2
        focus
          simp only [List.getElem?_toArray, List.getElem?_cons_succ, List.getElem?_cons_zero]
          rfl
        focus exact fun _ _ _ h => h
        focus rfl
        focus
          have hz : Later W1 wz := Later.trans hB hy
          have e0 := cell_later hz C0.out; have e1 := cell_later hz C1.out
          refine gives_value (w' := wz) ?_ ⟨rfl, Later.refl _⟩
          go_simp
          try with_reducible rfl
        replace hB : Later W1 wk43 := Later.trans hB hn
        clear hn
        try clear wk42
        try simp only [Act.put, List.setIfInBounds_toArray, List.set_cons_zero, List.set_cons_succ]
        refine wpAnyL_take 43 (oi := ?_) (v := ?_) ?_ (by kernel_rfl) (by kernel_rfl) (by kernel_rfl) ?_ (Or.inl ⟨?_, fun wz hy => ?_⟩) (fun wk44 hn => ?_)
        rotate_left 2
        focus
          simp only [List.getElem?_toArray, List.getElem?_cons_succ, List.getElem?_cons_zero]
          rfl
        focus exact fun _ _ _ h => h
        focus rfl
        focus
          have hz : Later W1 wz := Later.trans hB hy
          have e0 := cell_later hz C0.out; have e1 := cell_later hz C1.out
          refine gives_value (w' := wz) ?_ ⟨rfl, Later.refl _⟩
          go_simp
          try with_reducible rfl
        replace hB : Later W1 wk44 := Later.trans hB hn
        clear hn
        try clear wk43
        try simp only [Act.put, List.setIfInBounds_toArray, List.set_cons_zero, List.set_cons_succ]
        refine wpAnyL_take 44 (oi := ?_) (v := ?_) ?_ (by kernel_rfl) (by kernel_rfl) (by kernel_rfl) ?_ (Or.inl ⟨?_, fun wz hy => ?_⟩) (fun wk45 hn => ?_)
        rotate_left 2
        focus
          simp only [List.getElem?_toArray, List.getElem?_cons_succ, List.getElem?_cons_zero]
          rfl
        focus exact fun _ _ _ h => h
        focus rfl
        focus
          have hz : Later W1 wz := Later.trans hB hy
          have e0 := cell_later hz C0.out; have e1 := cell_later hz C1.out
          refine gives_value (w' := wz) ?_ ⟨rfl, Later.refl _⟩
          go_simp
          try with_reducible rfl
        replace hB : Later W1 wk45 := Later.trans hB hn
        clear hn
        try clear wk44
        try simp only [Act.put, List.setIfInBounds_toArray, List.set_cons_zero, List.set_cons_succ]
        refine wpAnyL_take 45 (oi := ?_) (v := ?_) ?_ (by kernel_rfl) (by kernel_rfl) (by kernel_rfl) ?_ (Or.inl ⟨?_, fun wz hy => ?_⟩) (fun wk46 hn => ?_)
        rotate_left 2
        focus
          simp only [List.getElem?_toArray, List.getElem?_cons_succ, List.getElem?_cons_zero]
          rfl
        focus exact fun _ _ _ h => h
        focus rfl
        focus
          have hz : Later W1 wz := Later.trans hB hy
          have e0 := cell_later hz C0.out; have e1 := cell_later hz C1.out
          refine gives_value (w' := wz) ?_ ⟨rfl, Later.refl _⟩
          go_simp
          try with_reducible rfl
        replace hB : Later W1 wk46 := Later.trans hB hn
        clear hn
        try clear wk45
        try simp only [Act.put, List.setIfInBounds_toArray, List.set_cons_zero, List.set_cons_succ]
        refine wpAnyL_take 46 (oi := ?_) (v := ?_) ?_ (by kernel_rfl) (by kernel_rfl) (by kernel_rfl) ?_ (Or.inl ⟨?_, fun wz hy => ?_⟩) (fun wk47 hn => ?_)
        rotate_left 2
        focus
          simp only [List.getElem?_toArray, List.getElem?_cons_succ, List.getElem?_cons_zero]
          rfl
        focus exact fun _ _ _ h => h
        focus rfl
        focus
          have hz : Later W1 wz := Later.trans hB hy
          refine gives_enter (w' := wz) ?_ (Calls.mono (cla_Same a len cap l a2 len2 cap2 c wz (HR.out.later hz) (HR2.out.later hz) HLA.out HLB.out HF.out HF2.out) ?_)
          focus
            go_simp
            try with_reducible rfl
          rintro e w2 ⟨rfl, hb⟩; rw [HS.out]; refine ⟨_, rfl, ?_, hb⟩; rfl
        replace hB : Later W1 wk47 := Later.trans hB hn
        clear hn
        try clear wk46
        try simp only [Act.put, List.setIfInBounds_toArray, List.set_cons_zero, List.set_cons_succ]
        refine wpAnyL_take 47 (oi := ?_) (v := ?_) ?_ (by kernel_rfl) (by kernel_rfl) (by kernel_rfl) ?_ (Or.inl ⟨?_, fun wz hy => ?_⟩) (fun wk48 hn => ?_)
        rotate_left 2
        focus
          simp only [List.getElem?_toArray, List.getElem?_cons_succ, List.getElem?_cons_zero]
          rfl
        focus exact fun _ _ _ h => h
        focus rfl
        focus
          have hz : Later W1 wz := Later.trans hB hy
          have e0 := cell_later hz C0.out; have e1 := cell_later hz C1.out
          refine gives_value (w' := wz) ?_ ⟨rfl, Later.refl _⟩
          go_simp
          try with_reducible rfl
        replace hB : Later W1 wk48 := Later.trans hB hn
        clear hn
        try clear wk47
        try simp only [Act.put, List.setIfInBounds_toArray, List.set_cons_zero, List.set_cons_succ]
        refine wpAnyL_take 48 (oi := ?_) (v := ?_) ?_ (by kernel_rfl) (by kernel_rfl) (by kernel_rfl) ?_ (Or.inl ⟨?_, fun wz hy => ?_⟩) (fun wk49 hn => ?_)
        rotate_left 2
        focus
          simp only [List.getElem?_toArray, List.getElem?_cons_succ, List.getElem?_cons_zero]
          rfl
        focus exact fun _ _ _ h => h
        focus rfl
        focus
          have hz : Later W1 wz := Later.trans hB hy
          have e0 := cell_later hz C0.out; have e1 := cell_later hz C1.out
          refine gives_value (w' := wz) ?_ ⟨rfl, Later.refl _⟩
          go_simp
          try with_reducible rfl
        replace hB : Later W1 wk49 := Later.trans hB hn
        clear hn
        try clear wk48
        try simp only [Act.put, List.setIfInBounds_toArray, List.set_cons_zero, List.set_cons_succ]
        refine wpAnyL_take 49 (oi := ?_) (v := ?_) ?_ (by kernel_rfl) (by kernel_rfl) (by kernel_rfl) ?_ (Or.inl ⟨?_, fun wz hy => ?_⟩) (fun wk50 hn => ?_)
        rotate_left 2
        focus
          simp only [List.getElem?_toArray, List.getElem?_cons_succ, List.getElem?_cons_zero]
          rfl
        focus exact fun _ _ _ h => h
        focus rfl
        focus
          have hz : Later W1 wz := Later.trans hB hy
          refine gives_enter (w' := wz) ?_ (Calls.mono (ref_Subset02 a len cap l a2 len2 cap2 c wz (HR.out.later hz) (HR2.out.later hz)) ?_)
          focus
            go_simp
            try with_reducible rfl
          rintro e w2 ⟨rfl, hq⟩; rw [HS.out]; refine ⟨_, rfl, ?_, by first | (rw [← hq]; exact Later.refl _) | (rw [hq]; exact Later.refl _)⟩; rfl
        replace hB : Later W1 wk50 := Later.trans hB hn
        clear hn
        try clear wk49
        try simp only [Act.put, List.setIfInBounds_toArray, List.set_cons_zero, List.set_cons_succ]
        refine wpAnyL_take 50 (oi := ?_) (v := ?_) ?_ (by kernel_rfl) (by kernel_rfl) (by kernel_rfl) ?_ (Or.inl ⟨?_, fun wz hy => ?_⟩) (fun wk51 hn => ?_)
        rotate_left 2
        focus
          simp only [List.getElem?_toArray, List.getElem?_cons_succ, List.getElem?_cons_zero]
          rfl
        focus exact fun _ _ _ h => h
        focus rfl
        focus
          have hz : Later W1 wz := Later.trans hB hy
          have e0 := cell_later hz C0.out; have e1 := cell_later hz C1.out
          refine gives_value (w' := wz) ?_ ⟨rfl, Later.refl _⟩
          go_simp
          try with_reducible rfl
        replace hB : Later W1 wk51 := Later.trans hB hn
        clear hn
        try clear wk50
        try simp only [Act.put, List.setIfInBounds_toArray, List.set_cons_zero, List.set_cons_succ]
        refine wpAnyL_take 51 (oi := ?_) (v := undef) ?_ (by kernel_rfl) (by kernel_rfl) (by kernel_rfl) ?_ (Or.inr ⟨?_, rfl⟩) (fun wk52 hn => ?_)
        rotate_left 1
        focus
          simp only [List.getElem?_toArray, List.getElem?_cons_succ, List.getElem?_cons_zero]
          rfl
        focus exact fun _ _ _ h => h
        focus rfl
        replace hB : Later W1 wk52 := Later.trans hB hn
        clear hn
        try clear wk51
        try simp only [Act.put, List.setIfInBounds_toArray, List.set_cons_zero, List.set_cons_succ]
        refine wpAnyL_take 52 (oi := ?_) (v := undef) ?_ (by kernel_rfl) (by kernel_rfl) (by kernel_rfl) ?_ (Or.inr ⟨?_, rfl⟩) (fun wk53 hn => ?_)
        rotate_left 1
        focus
          simp only [List.getElem?_toArray, List.getElem?_cons_succ, List.getElem?_cons_zero]
          rfl
        focus exact fun _ _ _ h => h
        focus rfl
        replace hB : Later W1 wk53 := Later.trans hB hn
        clear hn
        try clear wk52
        try simp only [Act.put, List.setIfInBounds_toArray, List.set_cons_zero, List.set_cons_succ]
        refine wpAnyL_take 53 (oi := ?_) (v := undef) ?_ (by kernel_rfl) (by kernel_rfl) (by kernel_rfl) ?_ (Or.inr ⟨?_, rfl⟩) (fun wk54 hn => ?_)
        rotate_left 1
        focus
          simp only [List.getElem?_toArray, List.getElem?_cons_succ, List.getElem?_cons_zero]
          rfl
        focus exact fun _ _ _ h => h
        focus rfl
        replace hB : Later W1 wk54 := Later.trans hB hn
        clear hn
        try clear wk53
        try simp only [Act.put, List.setIfInBounds_toArray, List.set_cons_zero, List.set_cons_succ]
        refine wpAnyL_take 54 (oi := ?_) (v := ?_) ?_ (by kernel_rfl) (by kernel_rfl) (by kernel_rfl) ?_ (Or.inl ⟨?_, fun wz hy => ?_⟩) (fun wk55 hn => ?_)
        rotate_left 2
        focus
          simp only [List.getElem?_toArray, List.getElem?_cons_succ, List.getElem?_cons_zero]
          rfl
        focus exact fun _ _ _ h => h
        focus rfl
        focus
          have hz : Later W1 wz := Later.trans hB hy
          have e0 := cell_later hz C0.out; have e1 := cell_later hz C1.out
          refine gives_value (w' := wz) ?_ ⟨rfl, Later.refl _⟩
          go_simp
          try with_reducible rfl
        replace hB : Later W1 wk55 := Later.trans hB hn
        clear hn
        try clear wk54
        try simp only [Act.put, List.setIfInBounds_toArray, List.set_cons_zero, List.set_cons_succ]
        refine wpAnyL_take 55 (oi := ?_) (v := ?_) ?_ (by kernel_rfl) (by kernel_rfl) (by kernel_rfl) ?_ (Or.inl ⟨?_, fun wz hy => ?_⟩) (fun wk56 hn => ?_)
        rotate_left 2
        focus
          simp only [List.getElem?_toArray, List.getElem?_cons_succ, List.getElem?_cons_zero]
          rfl
        focus exact fun _ _ _ h => h
        focus rfl
        focus
          have hz : Later W1 wz := Later.trans hB hy
          have e0 := cell_later hz C0.out; have e1 := cell_later hz C1.out
          refine gives_value (w' := wz) ?_ ⟨rfl, Later.refl _⟩
          go_simp
          try with_reducible rfl
        replace hB : Later W1 wk56 := Later.trans hB hn
        clear hn
        try clear wk55
        try simp only [Act.put, List.setIfInBounds_toArray, List.set_cons_zero, List.set_cons_succ]
        refine wpAnyL_take 56 (oi := ?_) (v := ?_) ?_ (by kernel_rfl) (by kernel_rfl) (by kernel_rfl) ?_ (Or.inl ⟨?_, fun wz hy => ?_⟩) (fun wk57 hn => ?_)
        rotate_left 2
        focus
          simp only [List.getElem?_toArray, List.getElem?_cons_succ, List.getElem?_cons_zero]
          rfl
        focus exact fun _ _ _ h => h
        focus rfl
        focus
          have hz : Later W1 wz := Later.trans hB hy
          have e0 := cell_later hz C0.out; have e1 := cell_later hz C1.out
          refine gives_value (w' := wz) ?_ ⟨rfl, Later.refl _⟩
          go_simp
          try with_reducible rfl
        replace hB : Later W1 wk57 := Later.trans hB hn
        clear hn
        try clear wk56
        try simp only [Act.put, List.setIfInBounds_toArray, List.set_cons_zero, List.set_cons_succ]
        refine wpAnyL_take 57 (oi := ?_) (v := ?_) ?_ (by kernel_rfl) (by kernel_rfl) (by kernel_rfl) ?_ (Or.inl ⟨?_, fun wz hy => ?_⟩) (fun wk58 hn => ?_)
        rotate_left 2
        focus
          simp only [List.getElem?_toArray, List.getElem?_cons_succ, List.getElem?_cons_zero]
          rfl
        focus exact fun _ _ _ h => h
        focus rfl
        focus
          have hz : Later W1 wz := Later.trans hB hy
          have e0 := cell_later hz C0.out; have e1 := cell_later hz C1.out
          refine gives_value (w' := wz) ?_ ⟨rfl, Later.refl _⟩
          go_simp
          try with_reducible rfl
        replace hB : Later W1 wk58 := Later.trans hB hn
        clear hn
        try clear wk57
        try simp only [Act.put, List.setIfInBounds_toArray, List.set_cons_zero, List.set_cons_succ]
        refine wpAnyL_take 58 (oi := ?_) (v := ?_) ?_ (by kernel_rfl) (by kernel_rfl) (by kernel_rfl) ?_ (Or.inl ⟨?_, fun wz hy => ?_⟩) (fun wk59 hn => ?_)
        rotate_left 2
        focus
          simp only [List.getElem?_toArray, List.getElem?_cons_succ, List.getElem?_cons_zero]
          rfl
        focus exact fun _ _ _ h => h
        focus rfl
        focus
          have hz : Later W1 wz := Later.trans hB hy
          have e0 := cell_later hz C0.out; have e1 := cell_later hz C1.out
          refine gives_value (w' := wz) ?_ ⟨rfl, Later.refl _⟩
          go_simp
          try with_reducible rfl
        replace hB : Later W1 wk59 := Later.trans hB hn
        clear hn
        try clear wk58
        try simp only [Act.put, List.setIfInBounds_toArray, List.set_cons_zero, List.set_cons_succ]
        refine wpAnyL_take 59 (oi := ?_) (v := ?_) ?_ (by kernel_rfl) (by kernel_rfl) (by kernel_rfl) ?_ (Or.inl ⟨?_, fun wz hy => ?_⟩) (fun wk60 hn => ?_)
        rotate_left 2
        focus
          simp only [List.getElem?_toArray, List.getElem?_cons_succ, List.getElem?_cons_zero]
          rfl
        focus exact fun _ _ _ h => h
        focus rfl
        focus
          have hz : Later W1 wz := Later.trans hB hy
          have e0 := cell_later hz C0.out; have e1 := cell_later hz C1.out
          refine gives_value (w' := wz) ?_ ⟨rfl, Later.refl _⟩
          go_simp
          try with_reducible rfl
        replace hB : Later W1 wk60 := Later.trans hB hn
        clear hn
        try clear wk59
        try simp only [Act.put, List.setIfInBounds_toArray, List.set_cons_zero, List.set_cons_succ]
        refine wpAnyL_take 60 (oi := ?_) (v := ?_) ?_ (by kernel_rfl) (by kernel_rfl) (by kernel_rfl) ?_ (Or.inl ⟨?_, fun wz hy => ?_⟩) (fun wk61 hn => ?_)
        rotate_left 2
        focus
          simp only [List.getElem?_toArray, List.getElem?_cons_succ, List.getElem?_cons_zero]
          rfl
        focus exact fun _ _ _ h => h
        focus rfl
        focus
          have hz : Later W1 wz := Later.trans hB hy
          have e0 := cell_later hz C0.out; have e1 := cell_later hz C1.out
          refine gives_value (w' := wz) ?_ ⟨rfl, Later.refl _⟩
          go_simp
          try with_reducible rfl
        replace hB : Later W1 wk61 := Later.trans hB hn
        clear hn
        try clear wk60
        try simp only [Act.put, List.setIfInBounds_toArray, List.set_cons_zero, List.set_cons_succ]
        refine wpAnyL_take 62 (oi := ?_) (v := ?_) ?_ (by kernel_rfl) (by kernel_rfl) (by kernel_rfl) ?_ (Or.inl ⟨?_, fun wz hy => ?_⟩) (fun wk62 hn => ?_)
        rotate_left 2
        focus
          simp only [List.getElem?_toArray, List.getElem?_cons_succ, List.getElem?_cons_zero]
          rfl
        focus exact fun _ _ _ h => h
        focus rfl
        focus
          have hz : Later W1 wz := Later.trans hB hy
          have e0 := cell_later hz C0.out; have e1 := cell_later hz C1.out
          refine gives_value (w' := wz) ?_ ⟨rfl, Later.refl _⟩
          go_simp
          try with_reducible rfl
        replace hB : Later W1 wk62 := Later.trans hB hn
        clear hn
        try clear wk61
        try simp only [Act.put, List.setIfInBounds_toArray, List.set_cons_zero, List.set_cons_succ]
        refine wpAnyL_take 63 (oi := ?_) (v := ?_) ?_ (by kernel_rfl) (by kernel_rfl) (by kernel_rfl) ?_ (Or.inl ⟨?_, fun wz hy => ?_⟩) (fun wk63 hn => ?_)
        rotate_left 2
        focus
          simp only [List.getElem?_toArray, List.getElem?_cons_succ, List.getElem?_cons_zero]
          rfl
        focus exact fun _ _ _ h => h
        focus rfl
        focus
          have hz : Later W1 wz := Later.trans hB hy
          have e0 := cell_later hz C0.out; have e1 := cell_later hz C1.out
          refine gives_value (w' := wz) ?_ ⟨rfl, Later.refl _⟩
          go_simp
          try with_reducible rfl
        replace hB : Later W1 wk63 := Later.trans hB hn
        clear hn
        try clear wk62
        try simp only [Act.put, List.setIfInBounds_toArray, List.set_cons_zero, List.set_cons_succ]
        refine wpAnyL_take 64 (oi := ?_) (v := ?_) ?_ (by kernel_rfl) (by kernel_rfl) (by kernel_rfl) ?_ (Or.inl ⟨?_, fun wz hy => ?_⟩) (fun wk64 hn => ?_)
        rotate_left 2
        focus
          simp only [List.getElem?_toArray, List.getElem?_cons_succ, List.getElem?_cons_zero]
          rfl
        focus exact fun _ _ _ h => h
        focus rfl
        focus
          have hz : Later W1 wz := Later.trans hB hy
          have e0 := cell_later hz C0.out; have e1 := cell_later hz C1.out
          refine gives_value (w' := wz) ?_ ⟨rfl, Later.refl _⟩
          go_simp
          try with_reducible rfl
        replace hB : Later W1 wk64 := Later.trans hB hn
        clear hn
        try clear wk63
        try simp only [Act.put, List.setIfInBounds_toArray, List.set_cons_zero, List.set_cons_succ]
        refine wpAnyL_one 61 (oi := ?_) ?_ (by kernel_rfl) ?_ ?_
        rotate_left 1
        focus
          simp only [List.getElem?_toArray, List.getElem?_cons_succ, List.getElem?_cons_zero]
          rfl
        focus rfl
        refine gives_enter (w' := wk64) ?_ (Calls.mono (cla_Without a len cap l x wk64 (HR.out.later hB) HLA.out) ?_)
        focus
          go_simp
          try with_reducible rfl
        rintro e w2 ⟨vA, rfl, hown, hb⟩; refine ⟨_, rfl, hb, fun wk65 hn => ?_⟩
        have QA : Ints wk65 vA (cWithout l x) := hown.ints.later hn
        try have QB := QB.later (Later.trans hb hn)
        replace hB : Later W1 wk65 := Later.trans hB (Later.trans hb hn)
        clear hn hb hown
        try clear w2
        try clear wk64
        try simp only [Act.put, List.setIfInBounds_toArray, List.set_cons_zero, List.set_cons_succ]
        refine wpAnyL_one 65 (oi := ?_) ?_ (by kernel_rfl) ?_ ?_
        rotate_left 1
        focus
          simp only [List.getElem?_toArray, List.getElem?_cons_succ, List.getElem?_cons_zero]
          rfl
        focus rfl
        refine gives_enter (w' := wk65) ?_ (Calls.mono (ref_Without02 a len cap l x wk65 (HR.out.later hB) HLA.out) ?_)
        focus
          go_simp
          try with_reducible rfl
        rintro e w2 ⟨vB, rfl, hown, hb⟩; refine ⟨_, rfl, hb, fun wk66 hn => ?_⟩
        have QB : Ints wk66 vB (cWithout l x) := hown.ints.later hn
        try have QA := QA.later (Later.trans hb hn)
        replace hB : Later W1 wk66 := Later.trans hB (Later.trans hb hn)
        clear hn hb hown
        try clear w2
        try clear wk65
        try simp only [Act.put, List.setIfInBounds_toArray, List.set_cons_zero, List.set_cons_succ]
        refine wpAnyL_take 66 (oi := ?_) (v := ?_) ?_ (by kernel_rfl) (by kernel_rfl) (by kernel_rfl) ?_ (Or.inl ⟨?_, fun wz hy => ?_⟩) (fun wk67 hn => ?_)
        rotate_left 2
        focus
          simp only [List.getElem?_toArray, List.getElem?_cons_succ, List.getElem?_cons_zero]
          rfl
        focus exact fun _ _ _ h => h
        focus rfl
        focus
          have hz : Later W1 wz := Later.trans hB hy
          refine gives_enter (w' := wz) ?_ (Calls.mono (same_IntsV vA vB (cWithout l x) (cWithout l x) wz (QA.later hy) (QB.later hy)) ?_)
          focus
            go_simp
            try with_reducible rfl
          rintro e w2 ⟨rfl, hb⟩; rw [decide_eq_true rfl]; refine ⟨_, rfl, ?_, hb⟩; rfl
        replace hB : Later W1 wk67 := Later.trans hB hn
        clear QA QB
        clear hn
        try clear wk66
        try simp only [Act.put, List.setIfInBounds_toArray, List.set_cons_zero, List.set_cons_succ]
        refine wpAnyL_take 67 (oi := ?_) (v := ?_) ?_ (by kernel_rfl) (by kernel_rfl) (by kernel_rfl) ?_ (Or.inl ⟨?_, fun wz hy => ?_⟩) (fun wk68 hn => ?_)
        rotate_left 2
        focus
          simp only [List.getElem?_toArray, List.getElem?_cons_succ, List.getElem?_cons_zero]
          rfl
        focus exact fun _ _ _ h => h
        focus rfl
        focus
          have hz : Later W1 wz := Later.trans hB hy
          have e0 := cell_later hz C0.out; have e1 := cell_later hz C1.out
          refine gives_value (w' := wz) ?_ ⟨rfl, Later.refl _⟩
          go_simp
          try with_reducible rfl
        replace hB : Later W1 wk68 := Later.trans hB hn
        clear hn
        try clear wk67
        try simp only [Act.put, List.setIfInBounds_toArray, List.set_cons_zero, List.set_cons_succ]
        refine wpAnyL_take 68 (oi := ?_) (v := ?_) ?_ (by kernel_rfl) (by kernel_rfl) (by kernel_rfl) ?_ (Or.inl ⟨?_, fun wz hy => ?_⟩) (fun wk69 hn => ?_)
        rotate_left 2
        focus
          simp only [List.getElem?_toArray, List.getElem?_cons_succ, List.getElem?_cons_zero]
          rfl
        focus exact fun _ _ _ h => h
        focus rfl
        focus
          have hz : Later W1 wz := Later.trans hB hy
          have e0 := cell_later hz C0.out; have e1 := cell_later hz C1.out
          refine gives_value (w' := wz) ?_ ⟨rfl, Later.refl _⟩
          go_simp
          try with_reducible rfl
        replace hB : Later W1 wk69 := Later.trans hB hn
        clear hn
        try clear wk68
        try simp only [Act.put, List.setIfInBounds_toArray, List.set_cons_zero, List.set_cons_succ]
        refine wpAnyL_take 69 (oi := ?_) (v := ?_) ?_ (by kernel_rfl) (by kernel_rfl) (by kernel_rfl) ?_ (Or.inl ⟨?_, fun wz hy => ?_⟩) (fun wk70 hn => ?_)
        rotate_left 2
        focus
          simp only [List.getElem?_toArray, List.getElem?_cons_succ, List.getElem?_cons_zero]
          rfl
        focus exact fun _ _ _ h => h
        focus rfl
        focus
          have hz : Later W1 wz := Later.trans hB hy
          refine gives_enter (w' := wz) ?_ (Calls.mono (law02_awake wz) ?_)
          focus
            go_simp
            try with_reducible rfl
          rintro e w2 ⟨rfl, hb⟩; refine ⟨_, rfl, ?_, hb⟩; rfl
        replace hB : Later W1 wk70 := Later.trans hB hn
        clear hn
        try clear wk69
        try simp only [Act.put, List.setIfInBounds_toArray, List.set_cons_zero, List.set_cons_succ]
        refine wpAnyL_take 70 (oi := ?_) (v := ?_) ?_ (by kernel_rfl) (by kernel_rfl) (by kernel_rfl) ?_ (Or.inl ⟨?_, fun wz hy => ?_⟩) (fun wk71 hn => ?_)
        rotate_left 2
        focus
          simp only [List.getElem?_toArray, List.getElem?_cons_succ, List.getElem?_cons_zero]
          rfl
        focus exact fun _ _ _ h => h
        focus rfl
        focus
          have hz : Later W1 wz := Later.trans hB hy
          have e0 := cell_later hz C0.out; have e1 := cell_later hz C1.out
          refine gives_value (w' := wz) ?_ ⟨rfl, Later.refl _⟩
          go_simp
          try with_reducible rfl
        replace hB : Later W1 wk71 := Later.trans hB hn
        clear hn
        try clear wk70
        try simp only [Act.put, List.setIfInBounds_toArray, List.set_cons_zero, List.set_cons_succ]
        refine wpAnyL_take 71 (oi := ?_) (v := ?_) ?_ (by kernel_rfl) (by kernel_rfl) (by kernel_rfl) ?_ (Or.inl ⟨?_, fun wz hy => ?_⟩) (fun wk72 hn => ?_)
        rotate_left 2
        focus
          simp only [List.getElem?_toArray, List.getElem?_cons_succ, List.getElem?_cons_zero]
          rfl
        focus exact fun _ _ _ h => h
        focus rfl
        focus
          have hz : Later W1 wz := Later.trans hB hy
          have e0 := cell_later hz C0.out; have e1 := cell_later hz C1.out
          refine gives_value (w' := wz) ?_ ⟨rfl, Later.refl _⟩
          go_simp
          try with_reducible rfl
        replace hB : Later W1 wk72 := Later.trans hB hn
        clear hn
        try clear wk71
        try simp only [Act.put, List.setIfInBounds_toArray, List.set_cons_zero, List.set_cons_succ]
        refine wpAnyL_done (by kernel_rfl) ?_ _
        go_wp2_with fail
        go_returns
        exact ⟨rfl, below_step hb1 hB⟩
      case true =>
        have HS := Lib.hid hs
        clear hs
        go_enter Try.func3, Try.ntmps3
        go_wp2_with fail
        rw [HW1.out]
        refine wp_region_later (by kernel_rfl) (fun wk0 hn => ?_)
        have hB : Later W1 wk0 := Later.trans (Later.refl _) hn
        clear hn
        refine wpAnyL_take 0 (oi := ?_) (v := ?_) ?_ (by kernel_rfl) (by kernel_rfl) (by kernel_rfl) ?_ (Or.inl ⟨?_, fun wz hy => ?_⟩) (fun wk1 hn => ?_)
        rotate_left 2
        focus
          simp only [List.getElem?_toArray, List.getElem?_cons_succ, List.getElem?_cons_zero]
          rfl
        focus exact fun _ _ _ h => h
        focus rfl
        focus
          have hz : Later W1 wz := Later.trans hB hy
          have e0 := cell_later hz C0.out; have e1 := cell_later hz C1.out
          refine gives_value (w' := wz) ?_ ⟨rfl, Later.refl _⟩
          go_simp
          try with_reducible rfl
        replace hB : Later W1 wk1 := Later.trans hB hn
        clear hn
        try clear wk0
        try simp only [Act.put, List.setIfInBounds_toArray, List.set_cons_zero, List.set_cons_succ]
        refine wpAnyL_take 1 (oi := ?_) (v := ?_) ?_ (by kernel_rfl) (by kernel_rfl) (by kernel_rfl) ?_ (Or.inl ⟨?_, fun wz hy => ?_⟩) (fun wk2 hn => ?_)
        rotate_left 2
        focus
          simp only [List.getElem?_toArray, List.getElem?_cons_succ, List.getElem?_cons_zero]
          rfl
        focus exact fun _ _ _ h => h
        focus rfl
        focus
          have hz : Later W1 wz := Later.trans hB hy
          have e0 := cell_later hz C0.out; have e1 := cell_later hz C1.out
          refine gives_value (w' := wz) ?_ ⟨rfl, Later.refl _⟩
          go_simp
          try with_reducible rfl
        replace hB : Later W1 wk2 := Later.trans hB hn
        clear hn
        try clear wk1
        try simp only [Act.put, List.setIfInBounds_toArray, List.set_cons_zero, List.set_cons_succ]
        refine wpAnyL_take 2 (oi := ?_) (v := ?_) ?_ (by kernel_rfl) (by kernel_rfl) (by kernel_rfl) ?_ (Or.inl ⟨?_, fun wz hy => ?_⟩) (fun wk3 hn => ?_)
        rotate_left 2
        focus
          simp only [List.getElem?_toArray, List.getElem?_cons_succ, List.getElem?_cons_zero]
          rfl
        focus exact fun _ _ _ h => h
        focus rfl
        focus
          have hz : Later W1 wz := Later.trans hB hy
          have e0 := cell_later hz C0.out; have e1 := cell_later hz C1.out
          refine gives_value (w' := wz) ?_ ⟨rfl, Later.refl _⟩
          go_simp
          try with_reducible rfl
        replace hB : Later W1 wk3 := Later.trans hB hn
        clear hn
        try clear wk2
        try simp only [Act.put, List.setIfInBounds_toArray, List.set_cons_zero, List.set_cons_succ]
        refine wpAnyL_take 3 (oi := ?_) (v := ?_) ?_ (by kernel_rfl) (by kernel_rfl) (by kernel_rfl) ?_ (Or.inl ⟨?_, fun wz hy => ?_⟩) (fun wk4 hn => ?_)
        rotate_left 2
        focus
          simp only [List.getElem?_toArray, List.getElem?_cons_succ, List.getElem?_cons_zero]
          rfl
        focus exact fun _ _ _ h => h
        focus rfl
        focus
          have hz : Later W1 wz := Later.trans hB hy
          refine gives_enter (w' := wz) ?_ (Calls.mono (cla_Check a len cap l y wz (HR.out.later hz)) ?_)
          focus
            go_simp
            try with_reducible rfl
          rintro e w2 ⟨rfl, hb⟩; refine ⟨_, rfl, ?_, hb⟩; rfl
        replace hB : Later W1 wk4 := Later.trans hB hn
        clear hn
        try clear wk3
        try simp only [Act.put, List.setIfInBounds_toArray, List.set_cons_zero, List.set_cons_succ]
        refine wpAnyL_take 4 (oi := ?_) (v := ?_) ?_ (by kernel_rfl) (by kernel_rfl) (by kernel_rfl) ?_ (Or.inl ⟨?_, fun wz hy => ?_⟩) (fun wk5 hn => ?_)
        rotate_left 2
        focus
          simp only [List.getElem?_toArray, List.getElem?_cons_succ, List.getElem?_cons_zero]
          rfl
        focus exact fun _ _ _ h => h
        focus rfl
        focus
          have hz : Later W1 wz := Later.trans hB hy
          have e0 := cell_later hz C0.out; have e1 := cell_later hz C1.out
          refine gives_value (w' := wz) ?_ ⟨rfl, Later.refl _⟩
          go_simp
          try with_reducible rfl
        replace hB : Later W1 wk5 := Later.trans hB hn
        clear hn
        try clear wk4
        try simp only [Act.put, List.setIfInBounds_toArray, List.set_cons_zero, List.set_cons_succ]
        refine wpAnyL_take 5 (oi := ?_) (v := ?_) ?_ (by kernel_rfl) (by kernel_rfl) (by kernel_rfl) ?_ (Or.inl ⟨?_, fun wz hy => ?_⟩) (fun wk6 hn => ?_)
        rotate_left 2
        focus
          simp only [List.getElem?_toArray, List.getElem?_cons_succ, List.getElem?_cons_zero]
          rfl
        focus exact fun _ _ _ h => h
        focus rfl
        focus
          have hz : Later W1 wz := Later.trans hB hy
          have e0 := cell_later hz C0.out; have e1 := cell_later hz C1.out
          refine gives_value (w' := wz) ?_ ⟨rfl, Later.refl _⟩
          go_simp
          try with_reducible rfl
        replace hB : Later W1 wk6 := Later.trans hB hn
        clear hn
        try clear wk5
        try simp only [Act.put, List.setIfInBounds_toArray, List.set_cons_zero, List.set_cons_succ]
        refine wpAnyL_take 6 (oi := ?_) (v := ?_) ?_ (by kernel_rfl) (by kernel_rfl) (by kernel_rfl) ?_ (Or.inl ⟨?_, fun wz hy => ?_⟩) (fun wk7 hn => ?_)
        rotate_left 2
        focus
          simp only [List.getElem?_toArray, List.getElem?_cons_succ, List.getElem?_cons_zero]
          rfl
        focus exact fun _ _ _ h => h
        focus rfl
        focus
          have hz : Later W1 wz := Later.trans hB hy
          have e0 := cell_later hz C0.out; have e1 := cell_later hz C1.out
          refine gives_value (w' := wz) ?_ ⟨rfl, Later.refl _⟩
          go_simp
          try with_reducible rfl
        replace hB : Later W1 wk7 := Later.trans hB hn
        clear hn
        try clear wk6
        try simp only [Act.put, List.setIfInBounds_toArray, List.set_cons_zero, List.set_cons_succ]
        refine wpAnyL_take 7 (oi := ?_) (v := ?_) ?_ (by kernel_rfl) (by kernel_rfl) (by kernel_rfl) ?_ (Or.inl ⟨?_, fun wz hy => ?_⟩) (fun wk8 hn => ?_)
        rotate_left 2
        focus
          simp only [List.getElem?_toArray, List.getElem?_cons_succ, List.getElem?_cons_zero]
          rfl
        focus exact fun _ _ _ h => h
        focus rfl
        focus
          have hz : Later W1 wz := Later.trans hB hy
          refine gives_enter (w' := wz) ?_ (Calls.mono (ref_Check02 a len cap l y wz (HR.out.later hz) HLC.out) ?_)
          focus
            go_simp
            try with_reducible rfl
          rintro e w2 ⟨rfl, hb⟩; refine ⟨_, rfl, ?_, hb⟩; rfl
        replace hB : Later W1 wk8 := Later.trans hB hn
        clear hn
        try clear wk7
        try simp only [Act.put, List.setIfInBounds_toArray, List.set_cons_zero, List.set_cons_succ]
        refine wpAnyL_take 8 (oi := ?_) (v := ?_) ?_ (by kernel_rfl) (by kernel_rfl) (by kernel_rfl) ?_ (Or.inl ⟨?_, fun wz hy => ?_⟩) (fun wk9 hn => ?_)
        rotate_left 2
        focus
          simp only [List.getElem?_toArray, List.getElem?_cons_succ, List.getElem?_cons_zero]
          rfl
        focus exact fun _ _ _ h => h
        focus rfl
        focus
          have hz : Later W1 wz := Later.trans hB hy
          have e0 := cell_later hz C0.out; have e1 := cell_later hz C1.out
          refine gives_value (w' := wz) ?_ ⟨rfl, Later.refl _⟩
          go_simp
          try with_reducible rfl
        replace hB : Later W1 wk9 := Later.trans hB hn
        clear hn
        try clear wk8
        try simp only [Act.put, List.setIfInBounds_toArray, List.set_cons_zero, List.set_cons_succ]
        refine wpAnyL_take 9 (oi := ?_) (v := ?_) ?_ (by kernel_rfl) (by kernel_rfl) (by kernel_rfl) ?_ (Or.inl ⟨?_, fun wz hy => ?_⟩) (fun wk10 hn => ?_)
        rotate_left 2
        focus
          simp only [List.getElem?_toArray, List.getElem?_cons_succ, List.getElem?_cons_zero]
          rfl
        focus exact fun _ _ _ h => h
        focus rfl
        focus
          have hz : Later W1 wz := Later.trans hB hy
          have e0 := cell_later hz C0.out; have e1 := cell_later hz C1.out
          refine gives_value (w' := wz) ?_ ⟨rfl, Later.refl _⟩
          go_simp
          try with_reducible rfl
        replace hB : Later W1 wk10 := Later.trans hB hn
        clear hn
        try clear wk9
        try simp only [Act.put, List.setIfInBounds_toArray, List.set_cons_zero, List.set_cons_succ]
        refine wpAnyL_take 10 (oi := ?_) (v := ?_) ?_ (by kernel_rfl) (by kernel_rfl) (by kernel_rfl) ?_ (Or.inl ⟨?_, fun wz hy => ?_⟩) (fun wk11 hn => ?_)
        rotate_left 2
        focus
          simp only [List.getElem?_toArray, List.getElem?_cons_succ, List.getElem?_cons_zero]
          rfl
        focus exact fun _ _ _ h => h
        focus rfl
        focus
          have hz : Later W1 wz := Later.trans hB hy
          have e0 := cell_later hz C0.out; have e1 := cell_later hz C1.out
          refine gives_value (w' := wz) ?_ ⟨rfl, Later.refl _⟩
          go_simp
          try with_reducible rfl
        replace hB : Later W1 wk11 := Later.trans hB hn
        clear hn
        try clear wk10
        try simp only [Act.put, List.setIfInBounds_toArray, List.set_cons_zero, List.set_cons_succ]
        refine wpAnyL_take 12 (oi := ?_) (v := ?_) ?_ (by kernel_rfl) (by kernel_rfl) (by kernel_rfl) ?_ (Or.inl ⟨?_, fun wz hy => ?_⟩) (fun wk12 hn => ?_)
        rotate_left 2
        focus
          simp only [List.getElem?_toArray, List.getElem?_cons_succ, List.getElem?_cons_zero]
          rfl
        focus exact fun _ _ _ h => h
        focus rfl
        focus
          have hz : Later W1 wz := Later.trans hB hy
          have e0 := cell_later hz C0.out; have e1 := cell_later hz C1.out
          refine gives_value (w' := wz) ?_ ⟨rfl, Later.refl _⟩
          go_simp
          try with_reducible rfl
        replace hB : Later W1 wk12 := Later.trans hB hn
        clear hn
        try clear wk11
        try simp only [Act.put, List.setIfInBounds_toArray, List.set_cons_zero, List.set_cons_succ]
        refine wpAnyL_one 11 (oi := ?_) ?_ (by kernel_rfl) ?_ ?_
        rotate_left 1
        focus
          simp only [List.getElem?_toArray, List.getElem?_cons_succ, List.getElem?_cons_zero]
          rfl
        focus rfl
        refine gives_enter (w' := wk12) ?_ (Calls.mono (cla_Norm a len cap l wk12 (HR.out.later hB) HLA.out) ?_)
        focus
          go_simp
          try with_reducible rfl
        rintro e w2 ⟨vA, rfl, hown, hb⟩; refine ⟨_, rfl, hb, fun wk13 hn => ?_⟩
        have QA : Ints wk13 vA (cNorm l) := hown.ints.later hn
        try have QB := QB.later (Later.trans hb hn)
        replace hB : Later W1 wk13 := Later.trans hB (Later.trans hb hn)
        clear hn hb hown
        try clear w2
        try clear wk12
        try simp only [Act.put, List.setIfInBounds_toArray, List.set_cons_zero, List.set_cons_succ]
        refine wpAnyL_one 13 (oi := ?_) ?_ (by kernel_rfl) ?_ ?_
        rotate_left 1
        focus
          simp only [List.getElem?_toArray, List.getElem?_cons_succ, List.getElem?_cons_zero]
          rfl
        focus rfl
        refine gives_enter (w' := wk13) ?_ (Calls.mono (ref_Norm02 a len cap l wk13 (HR.out.later hB) HLA.out) ?_)
        focus
          go_simp
          try with_reducible rfl
        rintro e w2 ⟨vB, rfl, hown, hb⟩; refine ⟨_, rfl, hb, fun wk14 hn => ?_⟩
        have QB : Ints wk14 vB (cNorm l) := hown.ints.later hn
        try have QA := QA.later (Later.trans hb hn)
        replace hB : Later W1 wk14 := Later.trans hB (Later.trans hb hn)
        clear hn hb hown
        try clear w2
        try clear wk13
        try simp only [Act.put, List.setIfInBounds_toArray, List.set_cons_zero, List.set_cons_succ]
        refine wpAnyL_take 14 (oi := ?_) (v := ?_) ?_ (by kernel_rfl) (by kernel_rfl) (by kernel_rfl) ?_ (Or.inl ⟨?_, fun wz hy => ?_⟩) (fun wk15 hn => ?_)
        rotate_left 2
        focus
          simp only [List.getElem?_toArray, List.getElem?_cons_succ, List.getElem?_cons_zero]
          rfl
        focus exact fun _ _ _ h => h
        focus rfl
        focus
          have hz : Later W1 wz := Later.trans hB hy
          refine gives_enter (w' := wz) ?_ (Calls.mono (same_IntsV vA vB (cNorm l) (cNorm l) wz (QA.later hy) (QB.later hy)) ?_)
          focus
            go_simp
            try with_reducible rfl
          rintro e w2 ⟨rfl, hb⟩; rw [decide_eq_true rfl]; refine ⟨_, rfl, ?_, hb⟩; rfl
        replace hB : Later W1 wk15 := Later.trans hB hn
        clear QA QB
        clear hn
        try clear wk14
        try simp only [Act.put, List.setIfInBounds_toArray, List.set_cons_zero, List.set_cons_succ]
        refine wpAnyL_take 15 (oi := ?_) (v := ?_) ?_ (by kernel_rfl) (by kernel_rfl) (by kernel_rfl) ?_ (Or.inl ⟨?_, fun wz hy => ?_⟩) (fun wk16 hn => ?_)
        rotate_left 2
        focus
          simp only [List.getElem?_toArray, List.getElem?_cons_succ, List.getElem?_cons_zero]
          rfl
        focus exact fun _ _ _ h => h
        focus rfl
        focus
          have hz : Later W1 wz := Later.trans hB hy
          have e0 := cell_later hz C0.out; have e1 := cell_later hz C1.out
          refine gives_value (w' := wz) ?_ ⟨rfl, Later.refl _⟩
          go_simp
          try with_reducible rfl
        replace hB : Later W1 wk16 := Later.trans hB hn
        clear hn
        try clear wk15
        try simp only [Act.put, List.setIfInBounds_toArray, List.set_cons_zero, List.set_cons_succ]
        refine wpAnyL_take 16 (oi := ?_) (v := ?_) ?_ (by kernel_rfl) (by kernel_rfl) (by kernel_rfl) ?_ (Or.inl ⟨?_, fun wz hy => ?_⟩) (fun wk17 hn => ?_)
        rotate_left 2
        focus
          simp only [List.getElem?_toArray, List.getElem?_cons_succ, List.getElem?_cons_zero]
          rfl
        focus exact fun _ _ _ h => h
        focus rfl
        focus
          have hz : Later W1 wz := Later.trans hB hy
          have e0 := cell_later hz C0.out; have e1 := cell_later hz C1.out
          refine gives_value (w' := wz) ?_ ⟨rfl, Later.refl _⟩
          go_simp
          try with_reducible rfl
        replace hB : Later W1 wk17 := Later.trans hB hn
        clear hn
        try clear wk16
        try simp only [Act.put, List.setIfInBounds_toArray, List.set_cons_zero, List.set_cons_succ]
        refine wpAnyL_take 17 (oi := ?_) (v := ?_) ?_ (by kernel_rfl) (by kernel_rfl) (by kernel_rfl) ?_ (Or.inl ⟨?_, fun wz hy => ?_⟩) (fun wk18 hn => ?_)
        rotate_left 2
        focus
          simp only [List.getElem?_toArray, List.getElem?_cons_succ, List.getElem?_cons_zero]
          rfl
        focus exact fun _ _ _ h => h
        focus rfl
        focus
          have hz : Later W1 wz := Later.trans hB hy
          have e0 := cell_later hz C0.out; have e1 := cell_later hz C1.out
          refine gives_value (w' := wz) ?_ ⟨rfl, Later.refl _⟩
          go_simp
          try with_reducible rfl
        replace hB : Later W1 wk18 := Later.trans hB hn
        clear hn
        try clear wk17
        try simp only [Act.put, List.setIfInBounds_toArray, List.set_cons_zero, List.set_cons_succ]
        refine wpAnyL_take 18 (oi := ?_) (v := ?_) ?_ (by kernel_rfl) (by kernel_rfl) (by kernel_rfl) ?_ (Or.inl ⟨?_, fun wz hy => ?_⟩) (fun wk19 hn => ?_)
        rotate_left 2
        focus
          simp only [List.getElem?_toArray, List.getElem?_cons_succ, List.getElem?_cons_zero]
          rfl
        focus exact fun _ _ _ h => h
        focus rfl
        focus
          have hz : Later W1 wz := Later.trans hB hy
          have e0 := cell_later hz C0.out; have e1 := cell_later hz C1.out
          refine gives_value (w' := wz) ?_ ⟨rfl, Later.refl _⟩
          go_simp
          try with_reducible rfl
        replace hB : Later W1 wk19 := Later.trans hB hn
        clear hn
        try clear wk18
        try simp only [Act.put, List.setIfInBounds_toArray, List.set_cons_zero, List.set_cons_succ]
        refine wpAnyL_take 19 (oi := ?_) (v := ?_) ?_ (by kernel_rfl) (by kernel_rfl) (by kernel_rfl) ?_ (Or.inl ⟨?_, fun wz hy => ?_⟩) (fun wk20 hn => ?_)
        rotate_left 2
        focus
          simp only [List.getElem?_toArray, List.getElem?_cons_succ, List.getElem?_cons_zero]
          rfl
        focus exact fun _ _ _ h => h
        focus rfl
        focus
          have hz : Later W1 wz := Later.trans hB hy
          have e0 := cell_later hz C0.out; have e1 := cell_later hz C1.out
          refine gives_value (w' := wz) ?_ ⟨rfl, Later.refl _⟩
          go_simp
          try with_reducible rfl
        replace hB : Later W1 wk20 := Later.trans hB hn
        clear hn
        try clear wk19
        try simp only [Act.put, List.setIfInBounds_toArray, List.set_cons_zero, List.set_cons_succ]
        refine wpAnyL_take 20 (oi := ?_) (v := ?_) ?_ (by kernel_rfl) (by kernel_rfl) (by kernel_rfl) ?_ (Or.inl ⟨?_, fun wz hy => ?_⟩) (fun wk21 hn => ?_)
        rotate_left 2
        focus
          simp only [List.getElem?_toArray, List.getElem?_cons_succ, List.getElem?_cons_zero]
          rfl
        focus exact fun _ _ _ h => h
        focus rfl
        focus
          have hz : Later W1 wz := Later.trans hB hy
          refine gives_enter (w' := wz) ?_ (Calls.mono (cla_Has a len cap l x wz (HR.out.later hz)) ?_)
          focus
            go_simp
            try with_reducible rfl
          rintro e w2 ⟨rfl, hq⟩; refine ⟨_, rfl, ?_, by first | (rw [← hq]; exact Later.refl _) | (rw [hq]; exact Later.refl _)⟩; rfl
        replace hB : Later W1 wk21 := Later.trans hB hn
        clear hn
        try clear wk20
        try simp only [Act.put, List.setIfInBounds_toArray, List.set_cons_zero, List.set_cons_succ]
        refine wpAnyL_take 21 (oi := ?_) (v := ?_) ?_ (by kernel_rfl) (by kernel_rfl) (by kernel_rfl) ?_ (Or.inl ⟨?_, fun wz hy => ?_⟩) (fun wk22 hn => ?_)
        rotate_left 2
        focus
          simp only [List.getElem?_toArray, List.getElem?_cons_succ, List.getElem?_cons_zero]
          rfl
        focus exact fun _ _ _ h => h
        focus rfl
        focus
          have hz : Later W1 wz := Later.trans hB hy
          have e0 := cell_later hz C0.out; have e1 := cell_later hz C1.out
          refine gives_value (w' := wz) ?_ ⟨rfl, Later.refl _⟩
          go_simp
          try with_reducible rfl
        replace hB : Later W1 wk22 := Later.trans hB hn
        clear hn
        try clear wk21
        try simp only [Act.put, List.setIfInBounds_toArray, List.set_cons_zero, List.set_cons_succ]
        refine wpAnyL_take 22 (oi := ?_) (v := ?_) ?_ (by kernel_rfl) (by kernel_rfl) (by kernel_rfl) ?_ (Or.inl ⟨?_, fun wz hy => ?_⟩) (fun wk23 hn => ?_)
        rotate_left 2
        focus
          simp only [List.getElem?_toArray, List.getElem?_cons_succ, List.getElem?_cons_zero]
          rfl
        focus exact fun _ _ _ h => h
        focus rfl
        focus
          have hz : Later W1 wz := Later.trans hB hy
          have e0 := cell_later hz C0.out; have e1 := cell_later hz C1.out
          refine gives_value (w' := wz) ?_ ⟨rfl, Later.refl _⟩
          go_simp
          try with_reducible rfl
        replace hB : Later W1 wk23 := Later.trans hB hn
        clear hn
        try clear wk22
        try simp only [Act.put, List.setIfInBounds_toArray, List.set_cons_zero, List.set_cons_succ]
        refine wpAnyL_take 23 (oi := ?_) (v := ?_) ?_ (by kernel_rfl) (by kernel_rfl) (by kernel_rfl) ?_ (Or.inl ⟨?_, fun wz hy => ?_⟩) (fun wk24 hn => ?_)
        rotate_left 2
        focus
          simp only [List.getElem?_toArray, List.getElem?_cons_succ, List.getElem?_cons_zero]
          rfl
        focus exact fun _ _ _ h => h
        focus rfl
        focus
          have hz : Later W1 wz := Later.trans hB hy
          have e0 := cell_later hz C0.out; have e1 := cell_later hz C1.out
          refine gives_value (w' := wz) ?_ ⟨rfl, Later.refl _⟩
          go_simp
          try with_reducible rfl
        replace hB : Later W1 wk24 := Later.trans hB hn
        clear hn
        try clear wk23
        try simp only [Act.put, List.setIfInBounds_toArray, List.set_cons_zero, List.set_cons_succ]
        refine wpAnyL_take 24 (oi := ?_) (v := ?_) ?_ (by kernel_rfl) (by kernel_rfl) (by kernel_rfl) ?_ (Or.inl ⟨?_, fun wz hy => ?_⟩) (fun wk25 hn => ?_)
        rotate_left 2
        focus
          simp only [List.getElem?_toArray, List.getElem?_cons_succ, List.getElem?_cons_zero]
          rfl
        focus exact fun _ _ _ h => h
        focus rfl
        focus
          have hz : Later W1 wz := Later.trans hB hy
          refine gives_enter (w' := wz) ?_ (Calls.mono (ref_Has02 a len cap l x wz (HR.out.later hz)) ?_)
          focus
            go_simp
            try with_reducible rfl
          rintro e w2 ⟨rfl, hq⟩; refine ⟨_, rfl, ?_, by first | (rw [← hq]; exact Later.refl _) | (rw [hq]; exact Later.refl _)⟩; rfl
        replace hB : Later W1 wk25 := Later.trans hB hn
        clear hn
        try clear wk24
        try simp only [Act.put, List.setIfInBounds_toArray, List.set_cons_zero, List.set_cons_succ]
        refine wpAnyL_take 25 (oi := ?_) (v := ?_) ?_ (by kernel_rfl) (by kernel_rfl) (by kernel_rfl) ?_ (Or.inl ⟨?_, fun wz hy => ?_⟩) (fun wk26 hn => ?_)
        rotate_left 2
        focus
          simp only [List.getElem?_toArray, List.getElem?_cons_succ, List.getElem?_cons_zero]
          rfl
        focus exact fun _ _ _ h => h
        focus rfl
        focus
          have hz : Later W1 wz := Later.trans hB hy
          have e0 := cell_later hz C0.out; have e1 := cell_later hz C1.out
          refine gives_value (w' := wz) ?_ ⟨rfl, Later.refl _⟩
          go_simp
          try with_reducible rfl
        replace hB : Later W1 wk26 := Later.trans hB hn
        clear hn
        try clear wk25
        try simp only [Act.put, List.setIfInBounds_toArray, List.set_cons_zero, List.set_cons_succ]
        refine wpAnyL_take 26 (oi := ?_) (v := ?_) ?_ (by kernel_rfl) (by kernel_rfl) (by kernel_rfl) ?_ (Or.inl ⟨?_, fun wz hy => ?_⟩) (fun wk27 hn => ?_)
        rotate_left 2
        focus
          simp only [List.getElem?_toArray, List.getElem?_cons_succ, List.getElem?_cons_zero]
          rfl
        focus exact fun _ _ _ h => h
        focus rfl
        focus
          have hz : Later W1 wz := Later.trans hB hy
          have e0 := cell_later hz C0.out; have e1 := cell_later hz C1.out
          refine gives_value (w' := wz) ?_ ⟨rfl, Later.refl _⟩
          go_simp
          try with_reducible rfl
        replace hB : Later W1 wk27 := Later.trans hB hn
        clear hn
        try clear wk26
        try simp only [Act.put, List.setIfInBounds_toArray, List.set_cons_zero, List.set_cons_succ]
        refine wpAnyL_take 27 (oi := ?_) (v := ?_) ?_ (by kernel_rfl) (by kernel_rfl) (by kernel_rfl) ?_ (Or.inl ⟨?_, fun wz hy => ?_⟩) (fun wk28 hn => ?_)
        rotate_left 2
        focus
          simp only [List.getElem?_toArray, List.getElem?_cons_succ, List.getElem?_cons_zero]
          rfl
        focus exact fun _ _ _ h => h
        focus rfl
        focus
          have hz : Later W1 wz := Later.trans hB hy
          have e0 := cell_later hz C0.out; have e1 := cell_later hz C1.out
          refine gives_value (w' := wz) ?_ ⟨rfl, Later.refl _⟩
          go_simp
          try with_reducible rfl
        replace hB : Later W1 wk28 := Later.trans hB hn
        clear hn
        try clear wk27
        try simp only [Act.put, List.setIfInBounds_toArray, List.set_cons_zero, List.set_cons_succ]
        refine wpAnyL_take 28 (oi := ?_) (v := ?_) ?_ (by kernel_rfl) (by kernel_rfl) (by kernel_rfl) ?_ (Or.inl ⟨?_, fun wz hy => ?_⟩) (fun wk29 hn => ?_)
        rotate_left 2
        focus
          simp only [List.getElem?_toArray, List.getElem?_cons_succ, List.getElem?_cons_zero]
          rfl
        focus exact fun _ _ _ h => h
        focus rfl
        focus
          have hz : Later W1 wz := Later.trans hB hy
          have e0 := cell_later hz C0.out; have e1 := cell_later hz C1.out
          refine gives_value (w' := wz) ?_ ⟨rfl, Later.refl _⟩
          go_simp
          try with_reducible rfl
        replace hB : Later W1 wk29 := Later.trans hB hn
        clear hn
        try clear wk28
        try simp only [Act.put, List.setIfInBounds_toArray, List.set_cons_zero, List.set_cons_succ]
        refine wpAnyL_take 29 (oi := ?_) (v := ?_) ?_ (by kernel_rfl) (by kernel_rfl) (by kernel_rfl) ?_ (Or.inl ⟨?_, fun wz hy => ?_⟩) (fun wk30 hn => ?_)
        rotate_left 2
        focus
          simp only [List.getElem?_toArray, List.getElem?_cons_succ, List.getElem?_cons_zero]
          rfl
        focus exact fun _ _ _ h => h
        focus rfl
        focus
          have hz : Later W1 wz := Later.trans hB hy
          refine gives_enter (w' := wz) ?_ (Calls.mono (cla_Taut a len cap l wz (HR.out.later hz) HLA.out) ?_)
          focus
            go_simp
            try with_reducible rfl
          rintro e w2 ⟨rfl, hb⟩; refine ⟨_, rfl, ?_, hb⟩; rfl
        replace hB : Later W1 wk30 := Later.trans hB hn
        clear hn
        try clear wk29
        try simp only [Act.put, List.setIfInBounds_toArray, List.set_cons_zero, List.set_cons_succ]
        refine wpAnyL_take 30 (oi := ?_) (v := ?_) ?_ (by kernel_rfl) (by kernel_rfl) (by kernel_rfl) ?_ (Or.inl ⟨?_, fun wz hy => ?_⟩) (fun wk31 hn => ?_)
        rotate_left 2
        focus
          simp only [List.getElem?_toArray, List.getElem?_cons_succ, List.getElem?_cons_zero]
          rfl
        focus exact fun _ _ _ h => h
        focus rfl
        focus
          have hz : Later W1 wz := Later.trans hB hy
          have e0 := cell_later hz C0.out; have e1 := cell_later hz C1.out
          refine gives_value (w' := wz) ?_ ⟨rfl, Later.refl _⟩
          go_simp
          try with_reducible rfl
        replace hB : Later W1 wk31 := Later.trans hB hn
        clear hn
        try clear wk30
        try simp only [Act.put, List.setIfInBounds_toArray, List.set_cons_zero, List.set_cons_succ]
        refine wpAnyL_take 31 (oi := ?_) (v := ?_) ?_ (by kernel_rfl) (by kernel_rfl) (by kernel_rfl) ?_ (Or.inl ⟨?_, fun wz hy => ?_⟩) (fun wk32 hn => ?_)
        rotate_left 2
        focus
          simp only [List.getElem?_toArray, List.getElem?_cons_succ, List.getElem?_cons_zero]
          rfl
        focus exact fun _ _ _ h => h
        focus rfl
        focus
          have hz : Later W1 wz := Later.trans hB hy
          refine gives_enter (w' := wz) ?_ (Calls.mono (ref_Taut02 a len cap l wz (HR.out.later hz)) ?_)
          focus
            go_simp
            try with_reducible rfl
          rintro e w2 ⟨rfl, hq⟩; refine ⟨_, rfl, ?_, by first | (rw [← hq]; exact Later.refl _) | (rw [hq]; exact Later.refl _)⟩; rfl
        replace hB : Later W1 wk32 := Later.trans hB hn
        clear hn
        try clear wk31
        try simp only [Act.put, List.setIfInBounds_toArray, List.set_cons_zero, List.set_cons_succ]
        refine wpAnyL_take 32 (oi := ?_) (v := ?_) ?_ (by kernel_rfl) (by kernel_rfl) (by kernel_rfl) ?_ (Or.inl ⟨?_, fun wz hy => ?_⟩) (fun wk33 hn => ?_)
        rotate_left 2
        focus
          simp only [List.getElem?_toArray, List.getElem?_cons_succ, List.getElem?_cons_zero]
          rfl
        focus exact fun _ _ _ h => h
        focus rfl
        focus
          have hz : Later W1 wz := Later.trans hB hy
          have e0 := cell_later hz C0.out; have e1 := cell_later hz C1.out
          refine gives_value (w' := wz) ?_ ⟨rfl, Later.refl _⟩
          go_simp
          try with_reducible rfl
        replace hB : Later W1 wk33 := Later.trans hB hn
        clear hn
        try clear wk32
        try simp only [Act.put, List.setIfInBounds_toArray, List.set_cons_zero, List.set_cons_succ]
        refine wpAnyL_take 33 (oi := ?_) (v := ?_) ?_ (by kernel_rfl) (by kernel_rfl) (by kernel_rfl) ?_ (Or.inl ⟨?_, fun wz hy => ?_⟩) (fun wk34 hn => ?_)
        rotate_left 2
        focus
          simp only [List.getElem?_toArray, List.getElem?_cons_succ, List.getElem?_cons_zero]
          rfl
        focus exact fun _ _ _ h => h
        focus rfl
        focus
          have hz : Later W1 wz := Later.trans hB hy
          have e0 := cell_later hz C0.out; have e1 := cell_later hz C1.out
          refine gives_value (w' := wz) ?_ ⟨rfl, Later.refl _⟩
          go_simp
          try with_reducible rfl
        replace hB : Later W1 wk34 := Later.trans hB hn
        clear hn
        try clear wk33
        try simp only [Act.put, List.setIfInBounds_toArray, List.set_cons_zero, List.set_cons_succ]
        refine wpAnyL_take 34 (oi := ?_) (v := ?_) ?_ (by kernel_rfl) (by kernel_rfl) (by kernel_rfl) ?_ (Or.inl ⟨?_, fun wz hy => ?_⟩) (fun wk35 hn => ?_)
        rotate_left 2
        focus
          simp only [List.getElem?_toArray, List.getElem?_cons_succ, List.getElem?_cons_zero]
          rfl
        focus exact fun _ _ _ h => h
        focus rfl
        focus
          have hz : Later W1 wz := Later.trans hB hy
          have e0 := cell_later hz C0.out; have e1 := cell_later hz C1.out
          refine gives_value (w' := wz) ?_ ⟨rfl, Later.refl _⟩
          go_simp
          try with_reducible rfl
        replace hB : Later W1 wk35 := Later.trans hB hn
        clear hn
        try clear wk34
        try simp only [Act.put, List.setIfInBounds_toArray, List.set_cons_zero, List.set_cons_succ]
        refine wpAnyL_take 35 (oi := ?_) (v := ?_) ?_ (by kernel_rfl) (by kernel_rfl) (by kernel_rfl) ?_ (Or.inl ⟨?_, fun wz hy => ?_⟩) (fun wk36 hn => ?_)
        rotate_left 2
        focus
          simp only [List.getElem?_toArray, List.getElem?_cons_succ, List.getElem?_cons_zero]
          rfl
        focus exact fun _ _ _ h => h
        focus rfl
        focus
          have hz : Later W1 wz := Later.trans hB hy
          have e0 := cell_later hz C0.out; have e1 := cell_later hz C1.out
          refine gives_value (w' := wz) ?_ ⟨rfl, Later.refl _⟩
          go_simp
          try with_reducible rfl
        replace hB : Later W1 wk36 := Later.trans hB hn
        clear hn
        try clear wk35
        try simp only [Act.put, List.setIfInBounds_toArray, List.set_cons_zero, List.set_cons_succ]
        refine wpAnyL_take 36 (oi := ?_) (v := ?_) ?_ (by kernel_rfl) (by kernel_rfl) (by kernel_rfl) ?_ (Or.inl ⟨?_, fun wz hy => ?_⟩) (fun wk37 hn => ?_)
        rotate_left 2
        focus
          simp only [List.getElem?_toArray, List.getElem?_cons_succ, List.getElem?_cons_zero]
          rfl
        focus exact fun _ _ _ h => h
        focus rfl
        focus
          have hz : Later W1 wz := Later.trans hB hy
          have e0 := cell_later hz C0.out; have e1 := cell_later hz C1.out
          refine gives_value (w' := wz) ?_ ⟨rfl, Later.refl _⟩
          go_simp
          try with_reducible rfl
        replace hB : Later W1 wk37 := Later.trans hB hn
        clear hn
        try clear wk36
        try simp only [Act.put, List.setIfInBounds_toArray, List.set_cons_zero, List.set_cons_succ]
        refine wpAnyL_take 37 (oi := ?_) (v := ?_) ?_ (by kernel_rfl) (by kernel_rfl) (by kernel_rfl) ?_ (Or.inl ⟨?_, fun wz hy => ?_⟩) (fun wk38 hn => ?_)
        rotate_left 2
        focus
          simp only [List.getElem?_toArray, List.getElem?_cons_succ, List.getElem?_cons_zero]
          rfl
        focus exact fun _ _ _ h => h
        focus rfl
        focus
          have hz : Later W1 wz := Later.trans hB hy
          refine gives_enter (w' := wz) ?_ (Calls.mono (cla_Subset a len cap l a2 len2 cap2 c wz (HR.out.later hz) (HR2.out.later hz) HLB.out HF.out HF2.out) ?_)
          focus
            go_simp
            try with_reducible rfl
          rintro e w2 ⟨rfl, hb⟩; rw [HS.out]; refine ⟨_, rfl, ?_, hb⟩; rfl
        replace hB : Later W1 wk38 := Later.trans hB hn
        clear hn
        try clear wk37
        try simp only [Act.put, List.setIfInBounds_toArray, List.set_cons_zero, List.set_cons_succ]
        refine wpAnyL_take 38 (oi := ?_) (v := ?_) ?_ (by kernel_rfl) (by kernel_rfl) (by kernel_rfl) ?_ (Or.inl ⟨?_, fun wz hy => ?_⟩) (fun wk39 hn => ?_)
        rotate_left 2
        focus
          simp only [List.getElem?_toArray, List.getElem?_cons_succ, List.getElem?_cons_zero]
          rfl
        focus exact fun _ _ _ h => h
        focus rfl
        focus
          have hz : Later W1 wz := Later.trans hB hy
          have e0 := cell_later hz C0.out; have e1 := cell_later hz C1.out
          refine gives_value (w' := wz) ?_ ⟨rfl, Later.refl _⟩
          go_simp
          try with_reducible rfl
        replace hB : Later W1 wk39 := Later.trans hB hn
        clear hn
        try clear wk38
        try simp only [Act.put, List.setIfInBounds_toArray, List.set_cons_zero, List.set_cons_succ]
        refine wpAnyL_take 39 (oi := ?_) (v := ?_) ?_ (by kernel_rfl) (by kernel_rfl) (by kernel_rfl) ?_ (Or.inl ⟨?_, fun wz hy => ?_⟩) (fun wk40 hn => ?_)
        rotate_left 2
        focus
          simp only [List.getElem?_toArray, List.getElem?_cons_succ, List.getElem?_cons_zero]
          rfl
        focus exact fun _ _ _ h => h
        focus rfl
        focus
          have hz : Later W1 wz := Later.trans hB hy
          have e0 := cell_later hz C0.out; have e1 := cell_later hz C1.out
          refine gives_value (w' := wz) ?_ ⟨rfl, Later.refl _⟩
          go_simp
          try with_reducible rfl
        replace hB : Later W1 wk40 := Later.trans hB hn
        clear hn
        try clear wk39
        try simp only [Act.put, List.setIfInBounds_toArray, List.set_cons_zero, List.set_cons_succ]
        refine wpAnyL_take 40 (oi := ?_) (v := ?_) ?_ (by kernel_rfl) (by kernel_rfl) (by kernel_rfl) ?_ (Or.inl ⟨?_, fun wz hy => ?_⟩) (fun wk41 hn => ?_)
        rotate_left 2
        focus
          simp only [List.getElem?_toArray, List.getElem?_cons_succ, List.getElem?_cons_zero]
          rfl
        focus exact fun _ _ _ h => h
        focus rfl
        focus
          have hz : Later W1 wz := Later.trans hB hy
          refine gives_enter (w' := wz) ?_ (Calls.mono (ref_Subset02 a len cap l a2 len2 cap2 c wz (HR.out.later hz) (HR2.out.later hz)) ?_)
          focus
            go_simp
            try with_reducible rfl
          rintro e w2 ⟨rfl, hq⟩; rw [HS.out]; refine ⟨_, rfl, ?_, by first | (rw [← hq]; exact Later.refl _) | (rw [hq]; exact Later.refl _)⟩; rfl
        replace hB : Later W1 wk41 := Later.trans hB hn
        clear hn
        try clear wk40
        try simp only [Act.put, List.setIfInBounds_toArray, List.set_cons_zero, List.set_cons_succ]
        refine wpAnyL_take 41 (oi := ?_) (v := ?_) ?_ (by kernel_rfl) (by kernel_rfl) (by kernel_rfl) ?_ (Or.inl ⟨?_, fun wz hy => ?_⟩) (fun wk42 hn => ?_)
        rotate_left 2
        focus
          simp only [List.getElem?_toArray, List.getElem?_cons_succ, List.getElem?_cons_zero]
          rfl
        focus exact fun _ _ _ h => h
        focus rfl
        focus
          have hz : Later W1 wz := Later.trans hB hy
          have e0 := cell_later hz C0.out; have e1 := cell_later hz C1.out
          refine gives_value (w' := wz) ?_ ⟨rfl, Later.refl _⟩
          go_simp
          try with_reducible rfl
        replace hB : Later W1 wk42 := Later.trans hB hn
        clear hn
        try clear wk41
        try simp only [Act.put, List.setIfInBounds_toArray, List.set_cons_zero, List.set_cons_succ]
        refine wpAnyL_take 42 (oi := ?_) (v := ?_) ?_ (by kernel_rfl) (by kernel_rfl) (by kernel_rfl) ?_ (Or.inl ⟨?_, fun wz hy => ?_⟩) (fun wk43 hn => ?_)
        rotate_left 2
        focus
          simp only [List.getElem?_toArray, List.getElem?_cons_succ, List.getElem?_cons_zero]
          rfl
        focus exact fun _ _ _ h => h
        focus rfl
        focus
          have hz : Later W1 wz := Later.trans hB hy
          have e0 := cell_later hz C0.out; have e1 := cell_later hz C1.out
          refine gives_value (w' := wz) ?_ ⟨rfl, Later.refl _⟩
          go_simp
          try with_reducible rfl
        replace hB : Later W1 wk43 := Later.trans hB hn
        clear hn
        try clear wk42
        try simp only [Act.put, List.setIfInBounds_toArray, List.set_cons_zero, List.set_cons_succ]
        refine wpAnyL_take 43 (oi := ?_) (v := ?_) ?_ (by kernel_rfl) (by kernel_rfl) (by kernel_rfl) ?_ (Or.inl ⟨?_, fun wz hy => ?_⟩) (fun wk44 hn => ?_)
        rotate_left 2
        focus
          simp only [List.getElem?_toArray, List.getElem?_cons_succ, List.getElem?_cons_zero]
          rfl
        focus exact fun _ _ _ h => h
        focus rfl
        focus
          have hz : Later W1 wz := Later.trans hB hy
          have e0 := cell_later hz C0.out; have e1 := cell_later hz C1.out
          refine gives_value (w' := wz) ?_ ⟨rfl, Later.refl _⟩
          go_simp
          try with_reducible rfl
        replace hB : Later W1 wk44 := Later.trans hB hn
        clear hn
        try clear wk43
        try simp only [Act.put, List.setIfInBounds_toArray, List.set_cons_zero, List.set_cons_succ]
        refine wpAnyL_take 44 (oi := ?_) (v := ?_) ?_ (by kernel_rfl) (by kernel_rfl) (by kernel_rfl) ?_ (Or.inl ⟨?_, fun wz hy => ?_⟩) (fun wk45 hn => ?_)
        rotate_left 2
        focus
          simp only [List.getElem?_toArray, List.getElem?_cons_succ, List.getElem?_cons_zero]
          rfl
        focus exact fun _ _ _ h => h
        focus rfl
        focus
          have hz : Later W1 wz := Later.trans hB hy
          have e0 := cell_later hz C0.out; have e1 := cell_later hz C1.out
          refine gives_value (w' := wz) ?_ ⟨rfl, Later.refl _⟩
          go_simp
          try with_reducible rfl
        replace hB : Later W1 wk45 := Later.trans hB hn
        clear hn
        try clear wk44
        try simp only [Act.put, List.setIfInBounds_toArray, List.set_cons_zero, List.set_cons_succ]
        refine wpAnyL_take 45 (oi := ?_) (v := ?_) ?_ (by kernel_rfl) (by kernel_rfl) (by kernel_rfl) ?_ (Or.inl ⟨?_, fun wz hy => ?_⟩) (fun wk46 hn => ?_)
        rotate_left 2
        focus
          simp only [List.getElem?_toArray, List.getElem?_cons_succ, List.getElem?_cons_zero]
          rfl
        focus exact fun _ _ _ h => h
        focus rfl
        focus
          have hz : Later W1 wz := Later.trans hB hy
          have e0 := cell_later hz C0.out; have e1 := cell_later hz C1.out
          refine gives_value (w' := wz) ?_ ⟨rfl, Later.refl _⟩
          go_simp
          try with_reducible rfl
        replace hB : Later W1 wk46 := Later.trans hB hn
        clear hn
        try clear wk45
        try simp only [Act.put, List.setIfInBounds_toArray, List.set_cons_zero, List.set_cons_succ]
        refine wpAnyL_take 46 (oi := ?_) (v := ?_) ?_ (by kernel_rfl) (by kernel_rfl) (by kernel_rfl) ?_ (Or.inl ⟨?_, fun wz hy => ?_⟩) (fun wk47 hn => ?_)
        rotate_left 2
        focus
          simp only [List.getElem?_toArray, List.getElem?_cons_succ, List.getElem?_cons_zero]
          rfl
        focus exact fun _ _ _ h => h
        focus rfl
        focus
          have hz : Later W1 wz := Later.trans hB hy
          refine gives_enter (w' := wz) ?_ (Calls.mono (cla_Same a len cap l a2 len2 cap2 c wz (HR.out.later hz) (HR2.out.later hz) HLA.out HLB.out HF.out HF2.out) ?_)
          focus
            go_simp
            try with_reducible rfl
          rintro e w2 ⟨rfl, hb⟩; rw [HS.out]; refine ⟨_, rfl, ?_, hb⟩; rfl
        replace hB : Later W1 wk47 := Later.trans hB hn
        clear hn
        try clear wk46
        try simp only [Act.put, List.setIfInBounds_toArray, List.set_cons_zero, List.set_cons_succ]
        refine wpAnyL_take 47 (oi := ?_) (v := ?_) ?_ (by kernel_rfl) (by kernel_rfl) (by kernel_rfl) ?_ (Or.inl ⟨?_, fun wz hy => ?_⟩) (fun wk48 hn => ?_)
        rotate_left 2
        focus
          simp only [List.getElem?_toArray, List.getElem?_cons_succ, List.getElem?_cons_zero]
          rfl
        focus exact fun _ _ _ h => h
        focus rfl
        focus
          have hz : Later W1 wz := Later.trans hB hy
          have e0 := cell_later hz C0.out; have e1 := cell_later hz C1.out
          refine gives_value (w' := wz) ?_ ⟨rfl, Later.refl _⟩
          go_simp
          try with_reducible rfl
        replace hB : Later W1 wk48 := Later.trans hB hn
        clear hn
        try clear wk47
        try simp only [Act.put, List.setIfInBounds_toArray, List.set_cons_zero, List.set_cons_succ]
        refine wpAnyL_take 48 (oi := ?_) (v := ?_) ?_ (by kernel_rfl) (by kernel_rfl) (by kernel_rfl) ?_ (Or.inl ⟨?_, fun wz hy => ?_⟩) (fun wk49 hn => ?_)
        rotate_left 2
        focus
          simp only [List.getElem?_toArray, List.getElem?_cons_succ, List.getElem?_cons_zero]
          rfl
        focus exact fun _ _ _ h => h
        focus rfl
        focus
          have hz : Later W1 wz := Later.trans hB hy
          have e0 := cell_later hz C0.out; have e1 := cell_later hz C1.out
          refine gives_value (w' := wz) ?_ ⟨rfl, Later.refl _⟩
          go_simp
          try with_reducible rfl
        replace hB : Later W1 wk49 := Later.trans hB hn
        clear hn
        try clear wk48
        try simp only [Act.put, List.setIfInBounds_toArray, List.set_cons_zero, List.set_cons_succ]
        refine wpAnyL_take 49 (oi := ?_) (v := ?_) ?_ (by kernel_rfl) (by kernel_rfl) (by kernel_rfl) ?_ (Or.inl ⟨?_, fun wz hy => ?_⟩) (fun wk50 hn => ?_)
        rotate_left 2
        focus
          simp only [List.getElem?_toArray, List.getElem?_cons_succ, List.getElem?_cons_zero]
          rfl
        focus exact fun _ _ _ h => h
        focus rfl
        focus
          have hz : Later W1 wz := Later.trans hB hy
          refine gives_enter (w' := wz) ?_ (Calls.mono (ref_Subset02 a len cap l a2 len2 cap2 c wz (HR.out.later hz) (HR2.out.later hz)) ?_)
          focus
            go_simp
            try with_reducible rfl
          rintro e w2 ⟨rfl, hq⟩; rw [HS.out]; refine ⟨_, rfl, ?_, by first | (rw [← hq]; exact Later.refl _) | (rw [hq]; exact Later.refl _)⟩; rfl
        replace hB : Later W1 wk50 := Later.trans hB hn
        clear hn
        try clear wk49
        try simp only [Act.put, List.setIfInBounds_toArray, List.set_cons_zero, List.set_cons_succ]
        refine wpAnyL_take 50 (oi := ?_) (v := ?_) ?_ (by kernel_rfl) (by kernel_rfl) (by kernel_rfl) ?_ (Or.inl ⟨?_, fun wz hy => ?_⟩) (fun wk51 hn => ?_)
        rotate_left 2
        focus
          simp only [List.getElem?_toArray, List.getElem?_cons_succ, List.getElem?_cons_zero]
          rfl
        focus exact fun _ _ _ h => h
        focus rfl
        focus
          have hz : Later W1 wz := Later.trans hB hy
          have e0 := cell_later hz C0.out; have e1 := cell_later hz C1.out
          refine gives_value (w' := wz) ?_ ⟨rfl, Later.refl _⟩
          go_simp
          try with_reducible rfl
        replace hB : Later W1 wk51 := Later.trans hB hn
        clear hn
        try clear wk50
        try simp only [Act.put, List.setIfInBounds_toArray, List.set_cons_zero, List.set_cons_succ]
        refine wpAnyL_take 51 (oi := ?_) (v := ?_) ?_ (by kernel_rfl) (by kernel_rfl) (by kernel_rfl) ?_ (Or.inl ⟨?_, fun wz hy => ?_⟩) (fun wk52 hn => ?_)
        rotate_left 2
        focus
          simp only [List.getElem?_toArray, List.getElem?_cons_succ, List.getElem?_cons_zero]
          rfl
        focus exact fun _ _ _ h => h
        focus rfl
        focus
          have hz : Later W1 wz := Later.trans hB hy
          have e0 := cell_later hz C0.out; have e1 := cell_later hz C1.out
          refine gives_value (w' := wz) ?_ ⟨rfl, Later.refl _⟩
          go_simp
          try with_reducible rfl
        replace hB : Later W1 wk52 := Later.trans hB hn
        clear hn
        try clear wk51
        try simp only [Act.put, List.setIfInBounds_toArray, List.set_cons_zero, List.set_cons_succ]
        refine wpAnyL_take 52 (oi := ?_) (v := ?_) ?_ (by kernel_rfl) (by kernel_rfl) (by kernel_rfl) ?_ (Or.inl ⟨?_, fun wz hy => ?_⟩) (fun wk53 hn => ?_)
        rotate_left 2
        focus
          simp only [List.getElem?_toArray, List.getElem?_cons_succ, List.getElem?_cons_zero]
          rfl
        focus exact fun _ _ _ h => h
        focus rfl
        focus
          have hz : Later W1 wz := Later.trans hB hy
          have e0 := cell_later hz C0.out; have e1 := cell_later hz C1.out
          refine gives_value (w' := wz) ?_ ⟨rfl, Later.refl _⟩
          go_simp
          try with_reducible rfl
        replace hB : Later W1 wk53 := Later.trans hB hn
        clear hn
        try clear wk52
        try simp only [Act.put, List.setIfInBounds_toArray, List.set_cons_zero, List.set_cons_succ]
        refine wpAnyL_take 53 (oi := ?_) (v := ?_) ?_ (by kernel_rfl) (by kernel_rfl) (by kernel_rfl) ?_ (Or.inl ⟨?_, fun wz hy => ?_⟩) (fun wk54 hn => ?_)
        rotate_left 2
        focus
          simp only [List.getElem?_toArray, List.getElem?_cons_succ, List.getElem?_cons_zero]
          rfl
        focus exact fun _ _ _ h => h
        focus rfl
        focus
          have hz : Later W1 wz := Later.trans hB hy
          refine gives_enter (w' := wz) ?_ (Calls.mono (ref_Subset02 a2 len2 cap2 c a len cap l wz (HR2.out.later hz) (HR.out.later hz)) ?_)
          focus
            go_simp
            try with_reducible rfl
          rintro e w2 ⟨rfl, hq⟩; refine ⟨_, rfl, ?_, by first | (rw [← hq]; exact Later.refl _) | (rw [hq]; exact Later.refl _)⟩; rfl
        replace hB : Later W1 wk54 := Later.trans hB hn
        clear hn
        try clear wk53
        try simp only [Act.put, List.setIfInBounds_toArray, List.set_cons_zero, List.set_cons_succ]
        refine wpAnyL_take 54 (oi := ?_) (v := ?_) ?_ (by kernel_rfl) (by kernel_rfl) (by kernel_rfl) ?_ (Or.inl ⟨?_, fun wz hy => ?_⟩) (fun wk55 hn => ?_)
        rotate_left 2
        focus
          simp only [List.getElem?_toArray, List.getElem?_cons_succ, List.getElem?_cons_zero]
          rfl
        focus exact fun _ _ _ h => h
        focus rfl
        focus
          have hz : Later W1 wz := Later.trans hB hy
          have e0 := cell_later hz C0.out; have e1 := cell_later hz C1.out
          refine gives_value (w' := wz) ?_ ⟨rfl, Later.refl _⟩
          go_simp
          try with_reducible rfl
        replace hB : Later W1 wk55 := Later.trans hB hn
        clear hn
        try clear wk54
        try simp only [Act.put, List.setIfInBounds_toArray, List.set_cons_zero, List.set_cons_succ]
        refine wpAnyL_take 55 (oi := ?_) (v := ?_) ?_ (by kernel_rfl) (by kernel_rfl) (by kernel_rfl) ?_ (Or.inl ⟨?_, fun wz hy => ?_⟩) (fun wk56 hn => ?_)
        rotate_left 2
        focus
          simp only [List.getElem?_toArray, List.getElem?_cons_succ, List.getElem?_cons_zero]
          rfl
        focus exact fun _ _ _ h => h
        focus rfl
        focus
          have hz : Later W1 wz := Later.trans hB hy
          have e0 := cell_later hz C0.out; have e1 := cell_later hz C1.out
          refine gives_value (w' := wz) ?_ ⟨rfl, Later.refl _⟩
          go_simp
          try with_reducible rfl
        replace hB : Later W1 wk56 := Later.trans hB hn
        clear hn
        try clear wk55
        try simp only [Act.put, List.setIfInBounds_toArray, List.set_cons_zero, List.set_cons_succ]
        refine wpAnyL_take 56 (oi := ?_) (v := ?_) ?_ (by kernel_rfl) (by kernel_rfl) (by kernel_rfl) ?_ (Or.inl ⟨?_, fun wz hy => ?_⟩) (fun wk57 hn => ?_)
        rotate_left 2
        focus
          simp only [List.getElem?_toArray, List.getElem?_cons_succ, List.getElem?_cons_zero]
          rfl
        focus exact fun _ _ _ h => h
        focus rfl
        focus
          have hz : Later W1 wz := Later.trans hB hy
          have e0 := cell_later hz C0.out; have e1 := cell_later hz C1.out
          refine gives_value (w' := wz) ?_ ⟨rfl, Later.refl _⟩
          go_simp
          try with_reducible rfl
        replace hB : Later W1 wk57 := Later.trans hB hn
        clear hn
        try clear wk56
        try simp only [Act.put, List.setIfInBounds_toArray, List.set_cons_zero, List.set_cons_succ]
        refine wpAnyL_take 57 (oi := ?_) (v := ?_) ?_ (by kernel_rfl) (by kernel_rfl) (by kernel_rfl) ?_ (Or.inl ⟨?_, fun wz hy => ?_⟩) (fun wk58 hn => ?_)
        rotate_left 2
        focus
          simp only [List.getElem?_toArray, List.getElem?_cons_succ, List.getElem?_cons_zero]
          rfl
        focus exact fun _ _ _ h => h
        focus rfl
        focus
          have hz : Later W1 wz := Later.trans hB hy
          have e0 := cell_later hz C0.out; have e1 := cell_later hz C1.out
          refine gives_value (w' := wz) ?_ ⟨rfl, Later.refl _⟩
          go_simp
          try with_reducible rfl
        replace hB : Later W1 wk58 := Later.trans hB hn
        clear hn
        try clear wk57
        try simp only [Act.put, List.setIfInBounds_toArray, List.set_cons_zero, List.set_cons_succ]
        refine wpAnyL_take 58 (oi := ?_) (v := ?_) ?_ (by kernel_rfl) (by kernel_rfl) (by kernel_rfl) ?_ (Or.inl ⟨?_, fun wz hy => ?_⟩) (fun wk59 hn => ?_)
        rotate_left 2
        focus
          simp only [List.getElem?_toArray, List.getElem?_cons_succ, List.getElem?_cons_zero]
          rfl
        focus exact fun _ _ _ h => h
        focus rfl
        focus
          have hz : Later W1 wz := Later.trans hB hy
          have e0 := cell_later hz C0.out; have e1 := cell_later hz C1.out
          refine gives_value (w' := wz) ?_ ⟨rfl, Later.refl _⟩
          go_simp
          try with_reducible rfl
        replace hB : Later W1 wk59 := Later.trans hB hn
        clear hn
        try clear wk58
        try simp only [Act.put, List.setIfInBounds_toArray, List.set_cons_zero, List.set_cons_succ]
        refine wpAnyL_take 59 (oi := ?_) (v := ?_) ?_ (by kernel_rfl) (by kernel_rfl) (by kernel_rfl) ?_ (Or.inl ⟨?_, fun wz hy => ?_⟩) (fun wk60 hn => ?_)
        rotate_left 2
        focus
          simp only [List.getElem?_toArray, List.getElem?_cons_succ, List.getElem?_cons_zero]
          rfl
        focus exact fun _ _ _ h => h
        focus rfl
        focus
          have hz : Later W1 wz := Later.trans hB hy
          have e0 := cell_later hz C0.out; have e1 := cell_later hz C1.out
          refine gives_value (w' := wz) ?_ ⟨rfl, Later.refl _⟩
          go_simp
          try with_reducible rfl
        replace hB : Later W1 wk60 := Later.trans hB hn
        clear hn
        try clear wk59
        try simp only [Act.put, List.setIfInBounds_toArray, List.set_cons_zero, List.set_cons_succ]
        refine wpAnyL_take 60 (oi := ?_) (v := ?_) ?_ (by kernel_rfl) (by kernel_rfl) (by kernel_rfl) ?_ (Or.inl ⟨?_, fun wz hy => ?_⟩) (fun wk61 hn => ?_)
        rotate_left 2
        focus
          simp only [List.getElem?_toArray, List.getElem?_cons_succ, List.getElem?_cons_zero]
          rfl
        focus exact fun _ _ _ h => h
        focus rfl
        focus
          have hz : Later W1 wz := Later.trans hB hy
          have e0 := cell_later hz C0.out; have e1 := cell_later hz C1.out
          refine gives_value (w' := wz) ?_ ⟨rfl, Later.refl _⟩
          go_simp
          try with_reducible rfl
        replace hB : Later W1 wk61 := Later.trans hB hn
        clear hn
        try clear wk60
        try simp only [Act.put, List.setIfInBounds_toArray, List.set_cons_zero, List.set_cons_succ]
        refine wpAnyL_take 62 (oi := ?_) (v := ?_) ?_ (by kernel_rfl) (by kernel_rfl) (by kernel_rfl) ?_ (Or.inl ⟨?_, fun wz hy => ?_⟩) (fun wk62 hn => ?_)
        rotate_left 2
        focus
          simp only [List.getElem?_toArray, List.getElem?_cons_succ, List.getElem?_cons_zero]
          rfl
        focus exact fun _ _ _ h => h
        focus rfl
        focus
          have hz : Later W1 wz := Later.trans hB hy
          have e0 := cell_later hz C0.out; have e1 := cell_later hz C1.out
          refine gives_value (w' := wz) ?_ ⟨rfl, Later.refl _⟩
          go_simp
          try with_reducible rfl
        replace hB : Later W1 wk62 := Later.trans hB hn
        clear hn
        try clear wk61
        try simp only [Act.put, List.setIfInBounds_toArray, List.set_cons_zero, List.set_cons_succ]
        refine wpAnyL_take 63 (oi := ?_) (v := ?_) ?_ (by kernel_rfl) (by kernel_rfl) (by kernel_rfl) ?_ (Or.inl ⟨?_, fun wz hy => ?_⟩) (fun wk63 hn => ?_)
        rotate_left 2
        focus
          simp only [List.getElem?_toArray, List.getElem?_cons_succ, List.getElem?_cons_zero]
          rfl
        focus exact fun _ _ _ h => h
        focus rfl
        focus
          have hz : Later W1 wz := Later.trans hB hy
          have e0 := cell_later hz C0.out; have e1 := cell_later hz C1.out
          refine gives_value (w' := wz) ?_ ⟨rfl, Later.refl _⟩
          go_simp
          try with_reducible rfl
        replace hB : Later W1 wk63 := Later.trans hB hn
        clear hn
        try clear wk62
        try simp only [Act.put, List.setIfInBounds_toArray, List.set_cons_zero, List.set_cons_succ]
        refine wpAnyL_take 64 (oi := ?_) (v := ?_) ?_ (by kernel_rfl) (by kernel_rfl) (by kernel_rfl) ?_ (Or.inl ⟨?_, fun wz hy => ?_⟩) (fun wk64 hn => ?_)
        rotate_left 2
        focus
          simp only [List.getElem?_toArray, List.getElem?_cons_succ, List.getElem?_cons_zero]
          rfl
        focus exact fun _ _ _ h => h
        focus rfl
        focus
          have hz : Later W1 wz := Later.trans hB hy
          have e0 := cell_later hz C0.out; have e1 := cell_later hz C1.out
          refine gives_value (w' := wz) ?_ ⟨rfl, Later.refl _⟩
          go_simp
          try with_reducible rfl
        replace hB : Later W1 wk64 := Later.trans hB hn
        clear hn
        try clear wk63
        try simp only [Act.put, List.setIfInBounds_toArray, List.set_cons_zero, List.set_cons_succ]
        refine wpAnyL_one 61 (oi := ?_) ?_ (by kernel_rfl) ?_ ?_
        rotate_left 1
        focus
          simp only [List.getElem?_toArray, List.getElem?_cons_succ, List.getElem?_cons_zero]
          rfl
        focus rfl
        refine gives_enter (w' := wk64) ?_ (Calls.mono (cla_Without a len cap l x wk64 (HR.out.later hB) HLA.out) ?_)
        focus
          go_simp
          try with_reducible rfl
        rintro e w2 ⟨vA, rfl, hown, hb⟩; refine ⟨_, rfl, hb, fun wk65 hn => ?_⟩
        have QA : Ints wk65 vA (cWithout l x) := hown.ints.later hn
        try have QB := QB.later (Later.trans hb hn)
        replace hB : Later W1 wk65 := Later.trans hB (Later.trans hb hn)
        clear hn hb hown
        try clear w2
        try clear wk64
        try simp only [Act.put, List.setIfInBounds_toArray, List.set_cons_zero, List.set_cons_succ]
        refine wpAnyL_one 65 (oi := ?_) ?_ (by kernel_rfl) ?_ ?_
        rotate_left 1
        focus
          simp only [List.getElem?_toArray, List.getElem?_cons_succ, List.getElem?_cons_zero]
          rfl
        focus rfl
        refine gives_enter (w' := wk65) ?_ (Calls.mono (ref_Without02 a len cap l x wk65 (HR.out.later hB) HLA.out) ?_)
        focus
          go_simp
          try with_reducible rfl
        rintro e w2 ⟨vB, rfl, hown, hb⟩; refine ⟨_, rfl, hb, fun wk66 hn => ?_⟩
        have QB : Ints wk66 vB (cWithout l x) := hown.ints.later hn
        try have QA := QA.later (Later.trans hb hn)
        replace hB : Later W1 wk66 := Later.trans hB (Later.trans hb hn)
        clear hn hb hown
        try clear w2
        try clear wk65
        try simp only [Act.put, List.setIfInBounds_toArray, List.set_cons_zero, List.set_cons_succ]
        refine wpAnyL_take 66 (oi := ?_) (v := ?_) ?_ (by kernel_rfl) (by kernel_rfl) (by kernel_rfl) ?_ (Or.inl ⟨?_, fun wz hy => ?_⟩) (fun wk67 hn => ?_)
        rotate_left 2
        focus
          simp only [List.getElem?_toArray, List.getElem?_cons_succ, List.getElem?_cons_zero]
          rfl
        focus exact fun _ _ _ h => h
        focus rfl
        focus
          have hz : Later W1 wz := Later.trans hB hy
          refine gives_enter (w' := wz) ?_ (Calls.mono (same_IntsV vA vB (cWithout l x) (cWithout l x) wz (QA.later hy) (QB.later hy)) ?_)
          focus
            go_simp
            try with_reducible rfl
          rintro e w2 ⟨rfl, hb⟩; rw [decide_eq_true rfl]; refine ⟨_, rfl, ?_, hb⟩; rfl
        replace hB : Later W1 wk67 := Later.trans hB hn
        clear QA QB
        clear hn
        try clear wk66
        try simp only [Act.put, List.setIfInBounds_toArray, List.set_cons_zero, List.set_cons_succ]
        refine wpAnyL_take 67 (oi := ?_) (v := ?_) ?_ (by kernel_rfl) (by kernel_rfl) (by kernel_rfl) ?_ (Or.inl ⟨?_, fun wz hy => ?_⟩) (fun wk68 hn => ?_)
        rotate_left 2
        focus
          simp only [List.getElem?_toArray, List.getElem?_cons_succ, List.getElem?_cons_zero]
          rfl
        focus exact fun _ _ _ h => h
        focus rfl
        focus
          have hz : Later W1 wz := Later.trans hB hy
          have e0 := cell_later hz C0.out; have e1 := cell_later hz C1.out
          refine gives_value (w' := wz) ?_ ⟨rfl, Later.refl _⟩
          go_simp
          try with_reducible rfl
        replace hB : Later W1 wk68 := Later.trans hB hn
        clear hn
        try clear wk67
        try simp only [Act.put, List.setIfInBounds_toArray, List.set_cons_zero, List.set_cons_succ]
        refine wpAnyL_take 68 (oi := ?_) (v := ?_) ?_ (by kernel_rfl) (by kernel_rfl) (by kernel_rfl) ?_ (Or.inl ⟨?_, fun wz hy => ?_⟩) (fun wk69 hn => ?_)
        rotate_left 2
        focus
          simp only [List.getElem?_toArray, List.getElem?_cons_succ, List.getElem?_cons_zero]
          rfl
        focus exact fun _ _ _ h => h
        focus rfl
        focus
          have hz : Later W1 wz := Later.trans hB hy
          have e0 := cell_later hz C0.out; have e1 := cell_later hz C1.out
          refine gives_value (w' := wz) ?_ ⟨rfl, Later.refl _⟩
          go_simp
          try with_reducible rfl
        replace hB : Later W1 wk69 := Later.trans hB hn
        clear hn
        try clear wk68
        try simp only [Act.put, List.setIfInBounds_toArray, List.set_cons_zero, List.set_cons_succ]
        refine wpAnyL_take 69 (oi := ?_) (v := ?_) ?_ (by kernel_rfl) (by kernel_rfl) (by kernel_rfl) ?_ (Or.inl ⟨?_, fun wz hy => ?_⟩) (fun wk70 hn => ?_)
        rotate_left 2
        focus
          simp only [List.getElem?_toArray, List.getElem?_cons_succ, List.getElem?_cons_zero]
          rfl
        focus exact fun _ _ _ h => h
        focus rfl
        focus
          have hz : Later W1 wz := Later.trans hB hy
          refine gives_enter (w' := wz) ?_ (Calls.mono (law02_awake wz) ?_)
          focus
            go_simp
            try with_reducible rfl
          rintro e w2 ⟨rfl, hb⟩; refine ⟨_, rfl, ?_, hb⟩; rfl
        replace hB : Later W1 wk70 := Later.trans hB hn
        clear hn
        try clear wk69
        try simp only [Act.put, List.setIfInBounds_toArray, List.set_cons_zero, List.set_cons_succ]
        refine wpAnyL_take 70 (oi := ?_) (v := ?_) ?_ (by kernel_rfl) (by kernel_rfl) (by kernel_rfl) ?_ (Or.inl ⟨?_, fun wz hy => ?_⟩) (fun wk71 hn => ?_)
        rotate_left 2
        focus
          simp only [List.getElem?_toArray, List.getElem?_cons_succ, List.getElem?_cons_zero]
          rfl
        focus exact fun _ _ _ h => h
        focus rfl
        focus
          have hz : Later W1 wz := Later.trans hB hy
          have e0 := cell_later hz C0.out; have e1 := cell_later hz C1.out
          refine gives_value (w' := wz) ?_ ⟨rfl, Later.refl _⟩
          go_simp
          try with_reducible rfl
        replace hB : Later W1 wk71 := Later.trans hB hn
        clear hn
        try clear wk70
        try simp only [Act.put, List.setIfInBounds_toArray, List.set_cons_zero, List.set_cons_succ]
        refine wpAnyL_take 71 (oi := ?_) (v := ?_) ?_ (by kernel_rfl) (by kernel_rfl) (by kernel_rfl) ?_ (Or.inl ⟨?_, fun wz hy => ?_⟩) (fun wk72 hn => ?_)
        rotate_left 2
        focus
          simp only [List.getElem?_toArray, List.getElem?_cons_succ, List.getElem?_cons_zero]
          rfl
        focus exact fun _ _ _ h => h
        focus rfl
        focus
          have hz : Later W1 wz := Later.trans hB hy
          have e0 := cell_later hz C0.out; have e1 := cell_later hz C1.out
          refine gives_value (w' := wz) ?_ ⟨rfl, Later.refl _⟩
          go_simp
          try with_reducible rfl
        replace hB : Later W1 wk72 := Later.trans hB hn
        clear hn
        try clear wk71
        try simp only [Act.put, List.setIfInBounds_toArray, List.set_cons_zero, List.set_cons_succ]
        refine wpAnyL_done (by kernel_rfl) ?_ _
        go_wp2_with fail
        go_returns
        exact ⟨rfl, below_step hb1 hB⟩
end Go.Proofs.Ytcifneenbdibeaa
