import Derived.Test.YthgmjboldboclaaDoorMgAZ
import Derived.Test.YthgmjboldboclaaDoorMgAV
namespace Go.Proofs.YthgmjboldboclaaDoor
open Go.RowKit
set_option linter.unusedVariables false
set_option linter.unusedSimpArgs false
def mdl (l : List Int) (V : Nat) : List Bool := (List.range V).map fun i : Nat => lhas l ((i : Int) + 1)
def frF (m : List Bool) (i : Nat) : Int := lmake ((i : Int) + 1) (m.getD i false)
end Go.Proofs.YthgmjboldboclaaDoor
namespace Go.Proofs.YthgmjboldboclaaDoor
open Go.RowKit
set_option linter.unusedVariables false
set_option linter.unusedSimpArgs false
def opn (l c : List Int) (k : Nat) : Int := if ∃ j, j < k ∧ aIs l 0 (c.getD j 0) = true then aUnit l c else 0
end Go.Proofs.YthgmjboldboclaaDoor
namespace Go.Proofs.YthgmjboldboclaaDoor
open Go.RowKit
set_option linter.unusedVariables false
set_option linter.unusedSimpArgs false
def fFew (xss : List (List Int)) : Bool := decide (xss.length ≤ 200) && xss.all fun c => decide (c.length ≤ 50)
set_option maxRecDepth 100000 in
theorem law_Few (vars : Int) (a : Option Addr) (len cap : Nat) (xss : List (List Int)) (w : World) (hr : Rows2 w a len xss) :
    Calls Tryd.prog 11 #[.agg #[.int .i64 vars, .slice a len cap]] w fun e w' => e = .returned (.bool (fFew xss)) ∧ Below w.heap.size w w' := by
  have hmx := hr.2.1; unfold maxLen at hmx
  have HL := Lib.hid hr.1
  have hb1 : Below w.heap.size w (w.alloc (.cells #[.int .i64 vars, .slice a len cap] 25)) := below_alloc (Below.refl _ _) _; have hc1 := Blk.made w #[.int .i64 vars, .slice a len cap] 25; generalize hw1 : w.alloc (.cells #[.int .i64 vars, .slice a len cap] 25) = w1 at *; have HW1 := Lib.hid hw1; have e0 := hc1.cell 0; have e1 := hc1.cell 1; simp only [List.getElem?_toArray, List.getElem?_cons_zero, List.getElem?_cons_succ] at e0 e1; clear hw1 hc1
  have HR := Lib.hid (hr.later hb1)
  clear hr
  by_cases hbig : 200 < len
  · have HV : Hid (fFew xss = false) := Lib.hid (by unfold fFew; rw [HL.out, decide_eq_false (by omega)]; rfl)
    have d1 : decide (200 < (len : Int)) = true := decide_eq_true (by omega)
    have d2 : decide (200 < len) = true := decide_eq_true hbig
    clear hbig
    go_enter Tryd.func11, Tryd.ntmps11
    go_wp2_with fail
    try rw [HW1.out]
    go_ret
    exact ⟨ret_bool HV.out.symm, hb1⟩
  · have HV : Hid (fFew xss = xss.all fun c => decide (c.length ≤ 50)) := Lib.hid (by unfold fFew; rw [HL.out, decide_eq_true (by omega)]; rfl)
    have d1 : decide (200 < (len : Int)) = false := decide_eq_false (by omega)
    have d2 : decide (200 < len) = false := decide_eq_false hbig
    have hlen : len ≤ 200 := by omega
    clear hbig
    go_enter Tryd.func11, Tryd.ntmps11
    go_wp2_with fail
    try rw [HW1.out]
    clear d1 d2
    go_loop [3] (fun i => ∃ k : Nat, k ≤ len ∧ i = .int .i64 k ∧ ∀ j, j < k → (xss.getD j []).length ≤ 50) (fun i => len - (intOf i).toNat)
    case atStart => exact ⟨0, Nat.zero_le _, rfl, fun j hj => by omega⟩
    case round =>
      obtain ⟨k, hk, rfl, hno⟩ := hrel
      have HNO := Lib.hid hno
      clear hno
      have t1 : (0 : Int) ≤ (k : Int) := by omega
      by_cases hlt : k < len
      · obtain ⟨b, off, u, rfl, hck, ac, lc, cc, rfl, _, _, hrc⟩ := HR.out.2.2 k hlt
        have t2 : (k : Int) < (len : Int) := by omega
        have HCLN := Lib.hid hrc.1
        have HMEM := Lib.hid (at_memR HL.out hlt)
        clear hrc
        by_cases h50 : 50 < lc
        · have d3 : decide (50 < (lc : Int)) = true := decide_eq_true (by omega)
          have d4 : decide (50 < lc) = true := decide_eq_true h50
          have HF : Hid (fFew xss = false) := Lib.hid (by
            rw [HV.out, List.all_eq_false]
            exact ⟨_, HMEM.out, by rw [HCLN.out]; simp; omega⟩)
          clear h50
          go_wp2_with fail
          go_ret
          exact ⟨ret_bool HF.out.symm, hb1⟩
        · have d3 : decide (50 < (lc : Int)) = false := decide_eq_false (by omega)
          have d4 : decide (50 < lc) = false := decide_eq_false h50
          have HE : Hid (∀ j, j < k + 1 → (xss.getD j []).length ≤ 50) := Lib.hid (fun j hj => by
            rcases Nat.lt_or_ge j k with h1 | h1
            · exact HNO.out j h1
            · rw [show j = k by omega, HCLN.out]; omega)
          clear h50
          go_wp2_with fail
          go_round
          case rel => exact ⟨k + 1, by omega, by go_num, HE.out⟩
          case measure => simp [intOf]; omega
      · have hkn : k = len := by omega
        subst hkn
        have HE : Hid (fFew xss = true) := Lib.hid (by
          rw [HV.out, List.all_eq_true]
          intro c hc
          obtain ⟨j, hj, rfl⟩ := List.mem_iff_getElem.1 hc
          have := HNO.out j (by rw [← HL.out]; exact hj)
          rw [show xss.getD j [] = xss[j] by simp [List.getD, hj]] at this
          exact decide_eq_true this)
        go_wp2_with fail
        go_ret
        exact ⟨ret_bool HE.out.symm, hb1⟩
end Go.Proofs.YthgmjboldboclaaDoor
