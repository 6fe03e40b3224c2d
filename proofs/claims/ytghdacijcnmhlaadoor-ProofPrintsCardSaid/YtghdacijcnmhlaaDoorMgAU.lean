import Derived.Test.YtghdacijcnmhlaaDoorMgAT
import Derived.Test.YtghdacijcnmhlaaDoorMgAQ
import Derived.Test.YtghdacijcnmhlaaDoorMgAO
import Derived.Test.YtghdacijcnmhlaaDoorMgAS
import Derived.Test.YtghdacijcnmhlaaDoorMgAR
namespace Go.Proofs.YtghdacijcnmhlaaDoor
open Go.RowKit
set_option linter.unusedVariables false
set_option linter.unusedSimpArgs false
def mdl (l : List Int) (V : Nat) : List Bool := (List.range V).map fun i : Nat => lhas l ((i : Int) + 1)
def frF (m : List Bool) (i : Nat) : Int := lmake ((i : Int) + 1) (m.getD i false)
end Go.Proofs.YtghdacijcnmhlaaDoor
namespace Go.Proofs.YtghdacijcnmhlaaDoor
open Go.RowKit
set_option linter.unusedVariables false
set_option linter.unusedSimpArgs false
def opn (l c : List Int) (k : Nat) : Int := if ∃ j, j < k ∧ aIs l 0 (c.getD j 0) = true then aUnit l c else 0
end Go.Proofs.YtghdacijcnmhlaaDoor
namespace Go.Proofs.YtghdacijcnmhlaaDoor
open Go.RowKit
set_option linter.unusedVariables false
set_option linter.unusedSimpArgs false
def fFew (xss : List (List Int)) : Bool := decide (xss.length ≤ 200) && xss.all fun c => decide (c.length ≤ 50)
end Go.Proofs.YtghdacijcnmhlaaDoor
namespace Go.Proofs.YtghdacijcnmhlaaDoor
open Go.RowKit
set_option linter.unusedVariables false
set_option linter.unusedSimpArgs false
theorem at_mem2 {xs : List Int} {k len : Nat} (h : xs.length = len) (hk : k < len) : xs.getD k 0 ∈ xs := by
  have hk' : k < xs.length := by rw [h]; exact hk
  simp [List.getD, hk']
theorem all_at2 {xs : List Int} {len : Nat} {p : Int → Prop} (h : xs.length = len) (hp : ∀ i, i < len → p (xs.getD i 0)) : ∀ x ∈ xs, p x := fun x hx => by
  obtain ⟨i, hi, rfl⟩ := List.mem_iff_getElem.1 hx
  have := hp i (by rw [← h]; exact hi)
  simpa [List.getD, hi] using this
theorem lcheck_in2 {x vars : Int} (h1 : 0 ≤ vars) (h2 : vars ≤ 100000) : lcheck x vars = 0 ∨ lcheck x vars = 10 := by
  unfold lcheck; split <;> (try split) <;> omega
theorem cCheck_bad {c : List Int} {vars : Int} (h1 : 0 ≤ vars) (h2 : vars ≤ 100000) (h3 : c.length ≤ 1000) {x : Int} (hx : x ∈ c) (hc : lcheck x vars ≠ 0) : cCheck c vars = 10 := by
  unfold cCheck
  rw [if_neg (by omega), if_neg (by omega), if_pos]
  rw [List.all_eq_false]
  exact ⟨x, hx, by simpa using hc⟩
theorem cCheck_good {c : List Int} {vars : Int} (h1 : 0 ≤ vars) (h2 : vars ≤ 100000) (h3 : c.length ≤ 1000) (h : ∀ x ∈ c, lcheck x vars = 0) : cCheck c vars = if c.Nodup then 0 else 21 := by
  unfold cCheck
  rw [if_neg (by omega), if_neg (by omega), if_neg]
  rw [Bool.not_eq_false, List.all_eq_true]
  intro x hx; simpa using h x hx
set_option maxRecDepth 100000 in
set_option maxHeartbeats 1000000 in
theorem cla_Check (a : Option Addr) (len cap : Nat) (xs : List Int) (vars : Int) (w : World) (hr : IntRow w a len xs) : Calls Tryd.prog 50 #[.slice a len cap, .int .i64 vars] w fun e w' => e = .returned (.int .i64 (cCheck xs vars)) ∧ Below w.heap.size w w' := by
  by_cases hv : vars < 0 ∨ 100000 < vars
  · have HA : Hid (cCheck xs vars = 2) := Lib.hid (by unfold cCheck; rw [if_pos hv])
    rcases hv with hv | hv
    · go_enter Tryd.func50, Tryd.ntmps50
      go_wp2_with fail
      go_ret
      exact ⟨ret_int HA.out.symm, Below.refl _ _⟩
    · have h2 : ¬ vars < 0 := by omega
      go_enter Tryd.func50, Tryd.ntmps50
      go_wp2_with fail
      go_ret
      exact ⟨ret_int HA.out.symm, Below.refl _ _⟩
  · have v1 : 0 ≤ vars := by omega
    have v2 : vars ≤ 100000 := by omega
    have d1 : decide (vars < 0) = false := decide_eq_false (by omega)
    have d2 : decide (100000 < vars) = false := decide_eq_false (by omega)
    obtain ⟨hl, hm, hc⟩ := hr
    have HR : Hid (IntRow w a len xs) := Lib.hid ⟨hl, hm, hc⟩
    unfold maxLen at hm
    have HL := Lib.hid hl
    have HV := Lib.hid hv
    clear hl hc hv
    by_cases hlong : 1000 < len
    · have HA : Hid (cCheck xs vars = 3) := Lib.hid (by unfold cCheck; rw [if_neg HV.out, HL.out, if_pos hlong])
      have d3 : decide (1000 < (len : Int)) = true := by simp; omega
      have d4 : decide (1000 < len) = true := by simpa using hlong
      clear hlong
      go_enter Tryd.func50, Tryd.ntmps50
      go_wp2_with fail
      go_ret
      exact ⟨ret_int HA.out.symm, Below.refl _ _⟩
    · have hlen : len ≤ 1000 := by omega
      have d3 : decide (1000 < (len : Int)) = false := by simp; omega
      have d4 : decide (1000 < len) = false := by simpa using hlong
      clear hlong
      have hmm := @run_makeMap Tryd.prog
      go_enter Tryd.func50, Tryd.ntmps50
      go_wp2_with fail
      clear d1 d2 d3 d4
      go_loop [6, 7, 22] (fun _ _ i => ∃ k : Nat, k ≤ len ∧ i = .int .i64 k ∧ ∀ j, j < k → lcheck (xs.getD j 0) vars = 0) (fun _ _ i => len - (intOf i).toNat)
      case atStart => exact ⟨0, Nat.zero_le _, rfl, fun j hj => by omega⟩
      case round =>
        obtain ⟨k, hk, rfl, hall⟩ := hrel
        have HALL := Lib.hid hall; clear hall
        have t1 : (0 : Int) ≤ (k : Int) := by omega
        by_cases hlt : k < len
        · obtain ⟨b, off, rfl, hcell⟩ := HR.out.2.2 (by omega)
          have hck := hcell k hlt
          have t2 : (k : Int) < (len : Int) := by omega
          have HM := Lib.hid (at_mem2 HL.out hlt)
          clear hcell
          by_cases he : lcheck (xs.getD k 0) vars = 0
          · have d3 : (lcheck (xs.getD k 0) vars != 0) = false := by simpa using he
            have HE : Hid (∀ j, j < k + 1 → lcheck (xs.getD j 0) vars = 0) := Lib.hid (fun j hj => by
              rcases Nat.lt_or_ge j k with h | h
              · exact HALL.out j h
              · rw [show j = k by omega]; exact he)
            clear he
            generalize hz : xs.getD k 0 = z at *
            clear hz
            go_wp2_with (go_at_call 62; refine (lit_Check _ _ _).mono ?_; rintro e w' ⟨rfl, rfl⟩)
            go_round
            case rel => exact ⟨k + 1, by omega, by go_num, HE.out⟩
            case measure => simp [intOf]; omega
          · have d3 : (lcheck (xs.getD k 0) vars != 0) = true := by simpa using he
            have HE : Hid (lcheck (xs.getD k 0) vars = cCheck xs vars) := Lib.hid (by
              rw [cCheck_bad v1 v2 (by rw [HL.out]; exact hlen) HM.out he]
              rcases lcheck_in2 (x := xs.getD k 0) v1 v2 with h | h
              · exact absurd h he
              · exact h)
            clear he
            generalize xs.getD k 0 = z at *
            go_wp2_with (go_at_call 62; refine (lit_Check _ _ _).mono ?_; rintro e w' ⟨rfl, rfl⟩)
            go_ret
            exact ⟨ret_int HE.out, Below.refl _ _⟩
        · have hkn : k = len := by omega
          subst hkn
          have HG : Hid (cCheck xs vars = if xs.Nodup then 0 else 21) := Lib.hid (cCheck_good v1 v2 (by rw [HL.out]; exact hlen) (all_at2 (p := fun x => lcheck x vars = 0) HL.out HALL.out))
          have HV : Hid (∀ j, j < k → lvar (xs.getD j 0) ≠ 0) := Lib.hid (fun j hj => ((lcheck_ok _ _).1 (HALL.out j hj)).2.2.1)
          have hbm : Below w.heap.size w (w.alloc (.map #[] 0)) := by (repeat (first | (with_reducible exact Below.refl _ _) | (with_reducible assumption) | (with_reducible refine below_alloc ?_ _) | (with_reducible refine below_drew ?_) | (with_reducible refine below_drewN ?_ _) | (with_reducible refine below_step ?_ (by with_reducible assumption))))
          have hM0 : IMap (w.alloc (.map #[] 0)) w.heap.size 0 (sF (xs.take 0)) := by rw [List.take_zero, sF_nil]; exact IMap.made w
          have HM0 := Lib.hid hM0
          clear hM0 HALL hlt hk
          go_wp2_with fail
          clear hmm
          go_loopw [10, 36] (fun _ i wr => ∃ j : Nat, j ≤ k ∧ i = .int .i64 j ∧ IMap wr w.heap.size j (sF (xs.take j)) ∧ Below w.heap.size w wr) (fun _ i _ => k - (intOf i).toNat)
          case atStart => exact ⟨0, Nat.zero_le _, rfl, HM0.out, hbm⟩
          case round =>
            obtain ⟨j, hj, rfl, hM, hb⟩ := hrel
            have HM := Lib.hid hM
            clear hM
            have t3 : (0 : Int) ≤ (j : Int) := by omega
            by_cases hlt2 : j < k
            · have hra := HR.out.later hb
              obtain ⟨b, off, rfl, hc⟩ := hra.2.2 (by omega)
              have hck := hc j hlt2
              have t4 : (j : Int) < (k : Int) := by omega
              have HT : Hid (xs.take (j + 1) = xs.take j ++ [xs.getD j 0]) := Lib.hid (by rw [take_snoc xs j (by rw [HL.out]; exact hlt2)])
              have hbd := lvar_range (HV.out j hlt2)
              generalize xs.getD j 0 = z at *
              generalize hS : xs.take j = S at *
              have HS := Lib.hid hS
              clear hra hc hS
              go_wp2_with (at_mapUpdate; refine wpList_mput rfl _ _ _ 104 rfl 105 Tryd.underlying104 w.heap.size j _ rfl HM.out (by unfold maxLen; omega) _ rfl (by omega) (by omega) (.agg #[]) rfl set_unit ?_)
              intro w7 hM7 hgr
              have hb7 := bel_grown hb hgr (Nat.le_refl _)
              rw [sF_push, ← HT.out] at hM7
              have HM7 := Lib.hid hM7
              clear hM7 hgr
              go_wp2_with fail
              go_roundw
              case rel => exact ⟨j + 1, by omega, by go_num, HM7.out, hb7⟩
              case measure => simp [intOf]; omega
            · have hjk : j = k := by omega
              subst hjk
              obtain ⟨S, hS⟩ : ∃ S, S = xs := ⟨_, rfl⟩
              have hM9 := HM.out
              rw [List.take_of_length_le (by rw [HL.out]; exact Nat.le_refl _), ← hS] at hM9
              have HM := Lib.hid hM9
              have HS := Lib.hid hS
              clear hM9 hS HM0
              go_wp2_with (refine wpList_mlen rfl _ 104 rfl 105 Tryd.underlying104 w.heap.size j _ rfl HM.out ?_)
              intro ks hk1 hk2
              have hfew := set_few hk1 hk2
              rw [HS.out, HL.out] at hfew
              by_cases hd : xs.Nodup
              · have hG := HG.out
                rw [if_pos hd] at hG
                have HG2 := Lib.hid hG
                have d4 : decide (ks.length < j) = false := decide_eq_false (fun h => (hfew.1 h) hd)
                have d5 : decide ((ks.length : Int) < (j : Int)) = false := by rw [decide_eq_false_iff_not]; rw [decide_eq_false_iff_not] at d4; omega
                clear hfew hk1 hk2 hd hG
                go_wp2_with fail
                go_ret
                exact ⟨ret_int HG2.out.symm, hb⟩
              · have hG := HG.out
                rw [if_neg hd] at hG
                have HG2 := Lib.hid hG
                have d4 : decide (ks.length < j) = true := decide_eq_true (hfew.2 hd)
                have d5 : decide ((ks.length : Int) < (j : Int)) = true := by rw [decide_eq_true_eq]; rw [decide_eq_true_eq] at d4; omega
                clear hfew hk1 hk2 hd hG
                go_wp2_with fail
                go_ret
                exact ⟨ret_int HG2.out.symm, hb⟩
end Go.Proofs.YtghdacijcnmhlaaDoor
