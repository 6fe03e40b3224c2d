import Derived.Test.YthgmjboldboclaaDoorMgAU
import Derived.Test.YthgmjboldboclaaDoorMgAY
import Derived.Test.YthgmjboldboclaaDoorMgAX
import Derived.Test.YthgmjboldboclaaDoorMgAW
import Derived.Test.YthgmjboldboclaaDoorMgBA
namespace Go.Proofs.YthgmjboldboclaaDoor
open Go.RowKit
set_option linter.unusedVariables false
set_option linter.unusedSimpArgs false
theorem neg_lit2 {x : Int} (h : lvar x ≠ 0) : wrap64 (-x) = -x := by have := lvar_range h; exact IntWalk.wrap64_in _ ⟨by omega, by omega⟩
theorem at_mem2 {xs : List Int} {k len : Nat} (h : xs.length = len) (hk : k < len) : xs.getD k 0 ∈ xs := by
  have hk' : k < xs.length := by rw [h]; exact hk
  simp [List.getD, hk']
theorem all_at2 {xs : List Int} {len : Nat} {p : Int → Prop} (h : xs.length = len) (hp : ∀ i, i < len → p (xs.getD i 0)) : ∀ x ∈ xs, p x := fun x hx => by
  obtain ⟨i, hi, rfl⟩ := List.mem_iff_getElem.1 hx
  have := hp i (by rw [← h]; exact hi)
  simpa [List.getD, hi] using this
theorem lcheck_in2 {x vars : Int} (h1 : 0 ≤ vars) (h2 : vars ≤ 100000) : lcheck x vars = 0 ∨ lcheck x vars = 10 := by
  unfold lcheck; split <;> (try split) <;> omega
theorem cCheck_bad {c : List Int} {vars : Int} (h1 : 0 ≤ vars) (h2 : vars ≤ 100000) (h3 : c.length ≤ 1000) {x : Int} (hx : x ∈ c) (hc : lcheck x vars ≠ 0) : cCheck c vars = 10 := by
  unfold cCheck
  rw [if_neg (by omega), if_neg (by omega), if_pos]
  rw [List.all_eq_false]
  exact ⟨x, hx, by simpa using hc⟩
theorem cCheck_good {c : List Int} {vars : Int} (h1 : 0 ≤ vars) (h2 : vars ≤ 100000) (h3 : c.length ≤ 1000) (h : ∀ x ∈ c, lcheck x vars = 0) : cCheck c vars = if c.Nodup then 0 else 21 := by
  unfold cCheck
  rw [if_neg (by omega), if_neg (by omega), if_neg]
  rw [Bool.not_eq_false, List.all_eq_true]
  intro x hx; simpa using h x hx
set_option maxRecDepth 100000 in
set_option maxHeartbeats 1000000 in
theorem cla_Check (a : Option Addr) (len cap : Nat) (xs : List Int) (vars : Int) (w : World) (hr : IntRow w a len xs) : Calls Tryd.prog 34 #[.slice a len cap, .int .i64 vars] w fun e w' => e = .returned (.int .i64 (cCheck xs vars)) ∧ Below w.heap.size w w' := by
  by_cases hv : vars < 0 ∨ 100000 < vars
  · have HA : Hid (cCheck xs vars = 2) := Lib.hid (by unfold cCheck; rw [if_pos hv])
    rcases hv with hv | hv
    · go_enter Tryd.func34, Tryd.ntmps34
      go_wp2_with fail
      go_ret
      exact ⟨ret_int HA.out.symm, Below.refl _ _⟩
    · have h2 : ¬ vars < 0 := by omega
      go_enter Tryd.func34, Tryd.ntmps34
      go_wp2_with fail
      go_ret
      exact ⟨ret_int HA.out.symm, Below.refl _ _⟩
  · have v1 : 0 ≤ vars := by omega
    have v2 : vars ≤ 100000 := by omega
    have d1 : decide (vars < 0) = false := decide_eq_false (by omega)
    have d2 : decide (100000 < vars) = false := decide_eq_false (by omega)
    obtain ⟨hl, hm, hc⟩ := hr
    have HR : Hid (IntRow w a len xs) := Lib.hid ⟨hl, hm, hc⟩
    unfold maxLen at hm
    have HL := Lib.hid hl
    have HV := Lib.hid hv
    clear hl hc hv
    by_cases hlong : 1000 < len
    · have HA : Hid (cCheck xs vars = 3) := Lib.hid (by unfold cCheck; rw [if_neg HV.out, HL.out, if_pos hlong])
      have d3 : decide (1000 < (len : Int)) = true := by simp; omega
      have d4 : decide (1000 < len) = true := by simpa using hlong
      clear hlong
      go_enter Tryd.func34, Tryd.ntmps34
      go_wp2_with fail
      go_ret
      exact ⟨ret_int HA.out.symm, Below.refl _ _⟩
    · have hlen : len ≤ 1000 := by omega
      have d3 : decide (1000 < (len : Int)) = false := by simp; omega
      have d4 : decide (1000 < len) = false := by simpa using hlong
      clear hlong
      have hmm := @run_makeMap Tryd.prog
      go_enter Tryd.func34, Tryd.ntmps34
      go_wp2_with fail
      clear d1 d2 d3 d4
      go_loop [6, 7, 22] (fun _ _ i => ∃ k : Nat, k ≤ len ∧ i = .int .i64 k ∧ ∀ j, j < k → lcheck (xs.getD j 0) vars = 0) (fun _ _ i => len - (intOf i).toNat)
      case atStart => exact ⟨0, Nat.zero_le _, rfl, fun j hj => by omega⟩
      case round =>
        obtain ⟨k, hk, rfl, hall⟩ := hrel
        have HALL := Lib.hid hall; clear hall
        have t1 : (0 : Int) ≤ (k : Int) := by omega
        by_cases hlt : k < len
        · obtain ⟨b, off, rfl, hcell⟩ := HR.out.2.2 (by omega)
          have hck := hcell k hlt
          have t2 : (k : Int) < (len : Int) := by omega
          have HM := Lib.hid (at_mem2 HL.out hlt)
          clear hcell
          by_cases he : lcheck (xs.getD k 0) vars = 0
          · have d3 : (lcheck (xs.getD k 0) vars != 0) = false := by simpa using he
            have HE : Hid (∀ j, j < k + 1 → lcheck (xs.getD j 0) vars = 0) := Lib.hid (fun j hj => by
              rcases Nat.lt_or_ge j k with h | h
              · exact HALL.out j h
              · rw [show j = k by omega]; exact he)
            clear he
            generalize hz : xs.getD k 0 = z at *
            clear hz
            go_wp2_with (go_at_call 54; refine (lit_Check _ _ _).mono ?_; rintro e w' ⟨rfl, rfl⟩)
            go_round
            case rel => exact ⟨k + 1, by omega, by go_num, HE.out⟩
            case measure => simp [intOf]; omega
          · have d3 : (lcheck (xs.getD k 0) vars != 0) = true := by simpa using he
            have HE : Hid (lcheck (xs.getD k 0) vars = cCheck xs vars) := Lib.hid (by
              rw [cCheck_bad v1 v2 (by rw [HL.out]; exact hlen) HM.out he]
              rcases lcheck_in2 (x := xs.getD k 0) v1 v2 with h | h
              · exact absurd h he
              · exact h)
            clear he
            generalize xs.getD k 0 = z at *
            go_wp2_with (go_at_call 54; refine (lit_Check _ _ _).mono ?_; rintro e w' ⟨rfl, rfl⟩)
            go_ret
            exact ⟨ret_int HE.out, Below.refl _ _⟩
        · have hkn : k = len := by omega
          subst hkn
          have HG : Hid (cCheck xs vars = if xs.Nodup then 0 else 21) := Lib.hid (cCheck_good v1 v2 (by rw [HL.out]; exact hlen) (all_at2 (p := fun x => lcheck x vars = 0) HL.out HALL.out))
          have HV : Hid (∀ j, j < k → lvar (xs.getD j 0) ≠ 0) := Lib.hid (fun j hj => ((lcheck_ok _ _).1 (HALL.out j hj)).2.2.1)
          have hbm : Below w.heap.size w (w.alloc (.map #[] 0)) := by (repeat (first | (with_reducible exact Below.refl _ _) | (with_reducible assumption) | (with_reducible refine below_alloc ?_ _) | (with_reducible refine below_drew ?_) | (with_reducible refine below_drewN ?_ _) | (with_reducible refine below_step ?_ (by with_reducible assumption))))
          have hM0 : IMap (w.alloc (.map #[] 0)) w.heap.size 0 (sF (xs.take 0)) := by rw [List.take_zero, sF_nil]; exact IMap.made w
          have HM0 := Lib.hid hM0
          clear hM0 HALL hlt hk
          go_wp2_with fail
          clear hmm
          go_loopw [10, 36] (fun _ i wr => ∃ j : Nat, j ≤ k ∧ i = .int .i64 j ∧ IMap wr w.heap.size j (sF (xs.take j)) ∧ Below w.heap.size w wr) (fun _ i _ => k - (intOf i).toNat)
          case atStart => exact ⟨0, Nat.zero_le _, rfl, HM0.out, hbm⟩
          case round =>
            obtain ⟨j, hj, rfl, hM, hb⟩ := hrel
            have HM := Lib.hid hM
            clear hM
            have t3 : (0 : Int) ≤ (j : Int) := by omega
            by_cases hlt2 : j < k
            · have hra := HR.out.later hb
              obtain ⟨b, off, rfl, hc⟩ := hra.2.2 (by omega)
              have hck := hc j hlt2
              have t4 : (j : Int) < (k : Int) := by omega
              have HT : Hid (xs.take (j + 1) = xs.take j ++ [xs.getD j 0]) := Lib.hid (by rw [take_snoc xs j (by rw [HL.out]; exact hlt2)])
              have hbd := lvar_range (HV.out j hlt2)
              generalize xs.getD j 0 = z at *
              generalize hS : xs.take j = S at *
              have HS := Lib.hid hS
              clear hra hc hS
              go_wp2_with (at_mapUpdate; refine wpList_mput rfl _ _ _ 88 rfl 89 Tryd.underlying88 w.heap.size j _ rfl HM.out (by unfold maxLen; omega) _ rfl (by omega) (by omega) (.agg #[]) rfl set_unit ?_)
              intro w7 hM7 hgr
              have hb7 := bel_grown hb hgr (Nat.le_refl _)
              rw [sF_push, ← HT.out] at hM7
              have HM7 := Lib.hid hM7
              clear hM7 hgr
              go_wp2_with fail
              go_roundw
              case rel => exact ⟨j + 1, by omega, by go_num, HM7.out, hb7⟩
              case measure => simp [intOf]; omega
            · have hjk : j = k := by omega
              subst hjk
              obtain ⟨S, hS⟩ : ∃ S, S = xs := ⟨_, rfl⟩
              have hM9 := HM.out
              rw [List.take_of_length_le (by rw [HL.out]; exact Nat.le_refl _), ← hS] at hM9
              have HM := Lib.hid hM9
              have HS := Lib.hid hS
              clear hM9 hS HM0
              go_wp2_with (refine wpList_mlen rfl _ 88 rfl 89 Tryd.underlying88 w.heap.size j _ rfl HM.out ?_)
              intro ks hk1 hk2
              have hfew := set_few hk1 hk2
              rw [HS.out, HL.out] at hfew
              by_cases hd : xs.Nodup
              · have hG := HG.out
                rw [if_pos hd] at hG
                have HG2 := Lib.hid hG
                have d4 : decide (ks.length < j) = false := decide_eq_false (fun h => (hfew.1 h) hd)
                have d5 : decide ((ks.length : Int) < (j : Int)) = false := by rw [decide_eq_false_iff_not]; rw [decide_eq_false_iff_not] at d4; omega
                clear hfew hk1 hk2 hd hG
                go_wp2_with fail
                go_ret
                exact ⟨ret_int HG2.out.symm, hb⟩
              · have hG := HG.out
                rw [if_neg hd] at hG
                have HG2 := Lib.hid hG
                have d4 : decide (ks.length < j) = true := decide_eq_true (hfew.2 hd)
                have d5 : decide ((ks.length : Int) < (j : Int)) = true := by rw [decide_eq_true_eq]; rw [decide_eq_true_eq] at d4; omega
                clear hfew hk1 hk2 hd hG
                go_wp2_with fail
                go_ret
                exact ⟨ret_int HG2.out.symm, hb⟩
end Go.Proofs.YthgmjboldboclaaDoor
namespace Go.Proofs.YthgmjboldboclaaDoor
open Go.RowKit
set_option linter.unusedVariables false
set_option linter.unusedSimpArgs false
def litsOf (xs : List Int) : List Int := xs.filter fun x => decide (lvar x ≠ 0)
theorem litsOf_snoc (xs : List Int) (x : Int) : litsOf (xs ++ [x]) = litsOf xs ++ if lvar x = 0 then [] else [x] := by
  unfold litsOf
  rw [List.filter_append, List.filter_cons, List.filter_nil]
  by_cases h : lvar x = 0 <;> simp [h]
theorem litsOf_has (xs : List Int) {x : Int} (h : lvar x ≠ 0) : (litsOf xs).contains (-x) = lhas xs (-x) := by
  unfold litsOf lhas
  have h2 : lvar (-x) ≠ 0 := by unfold lvar at h ⊢; repeat' split at h <;> repeat' split <;> omega
  rw [Bool.eq_iff_iff, List.contains_iff_mem, List.contains_iff_mem, List.mem_filter]
  simp [h2]
theorem cTaut_snoc (xs : List Int) (x : Int) : cTaut (xs ++ [x]) = (cTaut xs || (decide (lvar x ≠ 0) && lhas xs (-x))) := by
  rw [Bool.eq_iff_iff, Bool.or_eq_true, taut_iff, taut_iff, Bool.and_eq_true, decide_eq_true_eq, lhas_mem]
  constructor
  · rintro ⟨y, h1, h2, h3⟩
    have hr := lvar_range h1
    rw [List.mem_append, List.mem_singleton] at h2 h3
    rcases h2 with h2 | h2 <;> rcases h3 with h3 | h3
    · exact Or.inl ⟨y, h1, h2, h3⟩
    · refine Or.inr ⟨?_, ?_⟩
      · rw [← h3]; unfold lvar at h1 ⊢; repeat' split at h1 <;> repeat' split <;> omega
      · rw [← h3, Int.neg_neg]; exact h2
    · subst h2; exact Or.inr ⟨h1, h3⟩
    · omega
  · rintro (⟨y, h1, h2, h3⟩ | ⟨h1, h2⟩)
    · exact ⟨y, h1, List.mem_append_left _ h2, List.mem_append_left _ h3⟩
    · exact ⟨x, h1, by simp, List.mem_append_left _ h2⟩
theorem cTaut_take {xs : List Int} {k : Nat} (h : cTaut (xs.take k) = true) : cTaut xs = true := by
  rw [taut_iff] at h ⊢
  obtain ⟨y, h1, h2, h3⟩ := h
  exact ⟨y, h1, List.mem_of_mem_take h2, List.mem_of_mem_take h3⟩
set_option maxRecDepth 100000 in
set_option maxHeartbeats 1000000 in
theorem cla_Taut (a : Option Addr) (len cap : Nat) (xs : List Int) (w : World) (hr : IntRow w a len xs) (hlen : len ≤ 100000) : Calls Tryd.prog 35 #[.slice a len cap] w fun e w' => e = .returned (.bool (cTaut xs)) ∧ Below w.heap.size w w' := by
  have HR := Lib.hid hr
  have HL := Lib.hid hr.1
  have hbm : Below w.heap.size w (w.alloc (.map #[] 0)) := by (repeat (first | (with_reducible exact Below.refl _ _) | (with_reducible assumption) | (with_reducible refine below_alloc ?_ _) | (with_reducible refine below_drew ?_) | (with_reducible refine below_drewN ?_ _) | (with_reducible refine below_step ?_ (by with_reducible assumption))))
  have hM0 : IMap (w.alloc (.map #[] 0)) w.heap.size 0 (sF (litsOf (xs.take 0))) := by rw [List.take_zero, show litsOf [] = [] from rfl, sF_nil]; exact IMap.made w
  have HM0 := Lib.hid hM0
  have hmm := @run_makeMap Tryd.prog
  clear hr hM0
  go_enter Tryd.func35, Tryd.ntmps35
  go_wp2_with fail
  clear hmm
  go_loopw [5, 6, 7, 11] (fun _ _ _ i wr => ∃ k : Nat, k ≤ len ∧ i = .int .i64 k ∧ IMap wr w.heap.size k (sF (litsOf (xs.take k))) ∧ cTaut (xs.take k) = false ∧ Below w.heap.size w wr) (fun _ _ _ i _ => len - (intOf i).toNat)
  case atStart => exact ⟨0, Nat.zero_le _, rfl, HM0.out, rfl, hbm⟩
  case round =>
    clear HM0 hbm
    obtain ⟨k, hk, rfl, hM, hno, hb⟩ := hrel
    have HM := Lib.hid hM
    have HNO := Lib.hid hno
    clear hM hno
    have t1 : (0 : Int) ≤ (k : Int) := by omega
    by_cases hlt : k < len
    · have hra := HR.out.later hb
      obtain ⟨b, off, rfl, hc⟩ := hra.2.2 (by omega)
      have hck := hc k hlt
      have t2 : (k : Int) < (len : Int) := by omega
      have hT := take_snoc xs k (by rw [HL.out]; exact hlt)
      have HT : Hid (cTaut (xs.take (k + 1)) = (decide (lvar (xs.getD k 0) ≠ 0) && lhas (xs.take k) (-xs.getD k 0))) := Lib.hid (by rw [hT, cTaut_snoc, HNO.out, Bool.false_or])
      have HO := Lib.hid (litsOf_snoc (xs.take k) (xs.getD k 0))
      have HTK := Lib.hid hT
      clear hra hc hT
      generalize xs.getD k 0 = z at *
      by_cases hz : lvar z = 0
      · have d1 : (lvar z == 0) = true := by simpa using hz
        have HM1 : Hid (IMap wr w.heap.size (k + 1) (sF (litsOf (xs.take (k + 1))))) := Lib.hid (by rw [HTK.out, HO.out, if_pos hz, List.append_nil]; exact HM.out.mono (by omega))
        have HT1 : Hid (cTaut (xs.take (k + 1)) = false) := Lib.hid (by rw [HT.out, hz]; rfl)
        clear hz
        go_wp2_with (go_at_call 55; refine (lit_Var _ _).mono ?_; rintro e wq ⟨rfl, hq⟩; obtain rfl := hq.symm)
        go_roundw
        case rel => exact ⟨k + 1, by omega, by go_num, HM1.out, HT1.out, hb⟩
        case measure => simp [intOf]; omega
      · have d1 : (lvar z == 0) = false := by simpa using hz
        have e1 := neg_lit2 hz
        have hx := lvar_range hz
        have hg := (sF_get (litsOf (xs.take k)) (-z))
        rw [litsOf_has _ hz] at hg
        have HG := Lib.hid hg
        have HT1 : Hid (cTaut (xs.take (k + 1)) = lhas (xs.take k) (-z)) := Lib.hid (by rw [HT.out]; simp [hz])
        have HO1 : Hid (litsOf (xs.take (k + 1)) = litsOf (xs.take k) ++ [z]) := Lib.hid (by rw [HTK.out, HO.out, if_neg hz])
        clear hz hg HO HTK HT
        cases hh : lhas (xs.take k) (-z)
        · have HH := Lib.hid hh
          have HT2 : Hid (cTaut (xs.take (k + 1)) = false) := Lib.hid (by rw [HT1.out, hh])
          clear hh HT1
          go_wp2_with (first | (go_at_call 55; refine (lit_Var _ _).mono ?_; rintro e wq ⟨rfl, hq⟩; obtain rfl := hq.symm) | (at_lookup; refine wpList_mlook rfl _ _ 88 rfl 89 Tryd.underlying88 _ (set_zero _) set_unit w.heap.size k (sF (litsOf (xs.take k))) rfl (HM.out.later (by (repeat (first | (with_reducible exact Below.refl _ _) | (with_reducible assumption) | (with_reducible refine below_alloc ?_ _) | (with_reducible refine below_drew ?_) | (with_reducible refine below_drewN ?_ _) | (with_reducible refine below_step ?_ (by with_reducible assumption)))))) (-z) rfl (by omega) (by omega) (.agg #[]) _ HG.out.1 HG.out.2 ?_; rw [HH.out]) | (at_mapUpdate; refine wpList_mput rfl _ _ _ 88 rfl 89 Tryd.underlying88 w.heap.size k _ rfl (HM.out.later (by (repeat (first | (with_reducible exact Below.refl _ _) | (with_reducible assumption) | (with_reducible refine below_alloc ?_ _) | (with_reducible refine below_drew ?_) | (with_reducible refine below_drewN ?_ _) | (with_reducible refine below_step ?_ (by with_reducible assumption)))))) (by unfold maxLen; omega) z rfl (by omega) (by omega) (.agg #[]) rfl set_unit ?_))
          intro w7 hM7 hgr
          have hb7 : Below w.heap.size w w7 := bel_grown (by (repeat (first | (with_reducible exact Below.refl _ _) | (with_reducible assumption) | (with_reducible refine below_alloc ?_ _) | (with_reducible refine below_drew ?_) | (with_reducible refine below_drewN ?_ _) | (with_reducible refine below_step ?_ (by with_reducible assumption))))) hgr (Nat.le_refl _)
          rw [sF_push, ← HO1.out] at hM7
          have HM7 := Lib.hid hM7
          clear hM7 hgr
          go_wp2_with fail
          go_roundw
          case rel => exact ⟨k + 1, by omega, by go_num, HM7.out, HT2.out, hb7⟩
          case measure => simp [intOf]; omega
        · have HH := Lib.hid hh
          have HT2 : Hid (cTaut xs = true) := Lib.hid (cTaut_take (k := k + 1) (by rw [HT1.out, hh]))
          clear hh HT1
          go_wp2_with (first | (go_at_call 55; refine (lit_Var _ _).mono ?_; rintro e wq ⟨rfl, hq⟩; obtain rfl := hq.symm) | (at_lookup; refine wpList_mlook rfl _ _ 88 rfl 89 Tryd.underlying88 _ (set_zero _) set_unit w.heap.size k (sF (litsOf (xs.take k))) rfl (HM.out.later (by (repeat (first | (with_reducible exact Below.refl _ _) | (with_reducible assumption) | (with_reducible refine below_alloc ?_ _) | (with_reducible refine below_drew ?_) | (with_reducible refine below_drewN ?_ _) | (with_reducible refine below_step ?_ (by with_reducible assumption)))))) (-z) rfl (by omega) (by omega) (.agg #[]) _ HG.out.1 HG.out.2 ?_; rw [HH.out]))
          go_ret
          exact ⟨ret_bool HT2.out.symm, by (repeat (first | (with_reducible exact Below.refl _ _) | (with_reducible assumption) | (with_reducible refine below_alloc ?_ _) | (with_reducible refine below_drew ?_) | (with_reducible refine below_drewN ?_ _) | (with_reducible refine below_step ?_ (by with_reducible assumption))))⟩
    · have hkn : k = len := by omega
      subst hkn
      have HE : Hid (cTaut xs = false) := Lib.hid (by rw [← HNO.out, List.take_of_length_le (by rw [HL.out]; exact Nat.le_refl _)])
      go_wp2_with fail
      go_ret
      exact ⟨ret_bool HE.out.symm, hb⟩
end Go.Proofs.YthgmjboldboclaaDoor
namespace Go.Proofs.YthgmjboldboclaaDoor
open Go.RowKit
set_option linter.unusedVariables false
set_option linter.unusedSimpArgs false
theorem fFind_spec {α : Type} {p : α → Bool} {xs : List α} {d : α} (h : fFind p xs ≠ -1) : ∃ k, k < xs.length ∧ fFind p xs = (k : Int) ∧ p (xs.getD k d) = true := by
  have hany : xs.any p = true := by
    cases h2 : xs.any p
    · exact absurd (fFind_none h2) h
    · rfl
  obtain ⟨x, hx, hp⟩ := List.any_eq_true.1 hany
  have hlt := List.findIdx_lt_length_of_exists ⟨x, hx, hp⟩
  have he : fFind p xs = (xs.findIdx p : Int) := by unfold fFind; rw [if_pos hany]
  refine ⟨xs.findIdx p, hlt, he, ?_⟩
  rw [show xs.getD (xs.findIdx p) d = xs[xs.findIdx p] by simp [List.getD, hlt]]
  exact List.findIdx_getElem
def fChk (vars : Int) (c : List Int) : Int := if cCheck c vars ≠ 0 then cCheck c vars else if cTaut c = true then 11 else 0
def fBad (vars : Int) (xss : List (List Int)) : Int := fFind (fun c => decide (fChk vars c ≠ 0)) xss
def fAt (vars : Int) (xss : List (List Int)) : Int := if vars < 0 ∨ 100000 < vars then 0 else if 1000000 < xss.length then 0 else if fBad vars xss = -1 then xss.length else fBad vars xss
def fErr (vars : Int) (xss : List (List Int)) : Int := if vars < 0 ∨ 100000 < vars then 2 else if 1000000 < xss.length then 3 else if fBad vars xss = -1 then 0 else fChk vars (xss.getD (fBad vars xss).toNat [])
theorem fErr_ok {vars : Int} {xss : List (List Int)} (h : fErr vars xss = 0) : 0 ≤ vars ∧ vars ≤ 100000 ∧ xss.length ≤ 1000000 ∧ ∀ c ∈ xss, cCheck c vars = 0 ∧ cTaut c = false := by
  unfold fErr at h
  split at h
  · omega
  · split at h
    · omega
    · refine ⟨by omega, by omega, by omega, ?_⟩
      have hb : fBad vars xss = -1 := by
        split at h
        · assumption
        · rename_i hne
          exfalso
          obtain ⟨k, hk, he, hp⟩ := fFind_spec (d := []) hne
          change fBad vars xss = (k : Int) at he
          rw [he, Int.toNat_natCast] at h
          exact (of_decide_eq_true hp) h
      have hno := fFind_neg.1 hb
      intro c hc
      have := (List.any_eq_false.1 hno) c hc
      simp only [decide_eq_true_eq, Classical.not_not] at this
      unfold fChk at this
      split at this
      · omega
      · rename_i h1
        split at this
        · omega
        · rename_i h2
          exact ⟨by omega, by simpa using h2⟩
set_option maxRecDepth 100000 in
set_option maxHeartbeats 1000000 in
theorem cnf_Check (vars : Int) (a : Option Addr) (len cap : Nat) (xss : List (List Int)) (w : World) (hr : Rows2 w a len xss) (hs : ShortR xss 100000) :
    Calls Tryd.prog 16 #[.agg #[.int .i64 vars, .slice a len cap]] w fun e w' => e = .returned (.tuple #[.int .i64 (fAt vars xss), .int .i64 (fErr vars xss)]) ∧ Below w.heap.size w w' := by
  have hmx := hr.2.1; unfold maxLen at hmx
  have HL := Lib.hid hr.1
  have HS := Lib.hid hs
  have hb1 : Below w.heap.size w (w.alloc (.cells #[.int .i64 vars, .slice a len cap] 25)) := below_alloc (Below.refl _ _) _
  have hc1 := Blk.made w #[.int .i64 vars, .slice a len cap] 25
  generalize hw1 : w.alloc (.cells #[.int .i64 vars, .slice a len cap] 25) = w1 at *
  have HW1 := Lib.hid hw1
  have e0 := hc1.cell 0
  have e1 := hc1.cell 1
  simp only [List.getElem?_toArray, List.getElem?_cons_zero, List.getElem?_cons_succ] at e0 e1
  have HC1 := Lib.hid hc1
  clear hw1 hc1
  have HR := Lib.hid (hr.later hb1)
  clear hr hs
  by_cases hv : vars < 0 ∨ 100000 < vars
  · have HA : Hid (fAt vars xss = 0) := Lib.hid (by unfold fAt; rw [if_pos hv])
    have HE : Hid (fErr vars xss = 2) := Lib.hid (by unfold fErr; rw [if_pos hv])
    rcases hv with hv | hv
    · go_enter Tryd.func16, Tryd.ntmps16
      go_wp2_with fail
      try rw [HW1.out]
      go_ret2
      exact ⟨ret_ii HA.out.symm HE.out.symm, hb1⟩
    · have h2 : ¬ vars < 0 := by omega
      go_enter Tryd.func16, Tryd.ntmps16
      go_wp2_with fail
      try rw [HW1.out]
      go_ret2
      exact ⟨ret_ii HA.out.symm HE.out.symm, hb1⟩
  have d1 : decide (vars < 0) = false := decide_eq_false (by omega)
  have d2 : decide (100000 < vars) = false := decide_eq_false (by omega)
  by_cases hbig : 1000000 < len
  · have HA : Hid (fAt vars xss = 0) := Lib.hid (by unfold fAt; rw [if_neg hv, HL.out, if_pos hbig])
    have HE : Hid (fErr vars xss = 3) := Lib.hid (by unfold fErr; rw [if_neg hv, HL.out, if_pos hbig])
    have d3 : decide (1000000 < (len : Int)) = true := decide_eq_true (by omega)
    have d4 : decide (1000000 < len) = true := decide_eq_true hbig
    clear hv hbig
    go_enter Tryd.func16, Tryd.ntmps16
    go_wp2_with fail
    try rw [HW1.out]
    go_ret2
    exact ⟨ret_ii HA.out.symm HE.out.symm, hb1⟩
  have HA : Hid (fAt vars xss = if fBad vars xss = -1 then (len : Int) else fBad vars xss) := Lib.hid (by unfold fAt; rw [if_neg hv, HL.out, if_neg hbig])
  have HE : Hid (fErr vars xss = if fBad vars xss = -1 then 0 else fChk vars (xss.getD (fBad vars xss).toNat [])) := Lib.hid (by unfold fErr; rw [if_neg hv, HL.out, if_neg hbig])
  have d3 : decide (1000000 < (len : Int)) = false := decide_eq_false (by omega)
  have d4 : decide (1000000 < len) = false := decide_eq_false hbig
  clear hv hbig
  go_enter Tryd.func16, Tryd.ntmps16
  go_wp2_with fail
  try rw [HW1.out]
  clear d1 d2 d3 d4 e0 e1
  go_loopw [4, 5, 6, 22] (fun _ _ _ i wr => ∃ k : Nat, k ≤ len ∧ i = .int .i64 k ∧ (∀ j, j < k → decide (fChk vars (xss.getD j []) ≠ 0) = false) ∧ Below w1.heap.size w1 wr) (fun _ _ _ i _ => len - (intOf i).toNat)
  case atStart => exact ⟨0, Nat.zero_le _, rfl, fun j hj => by omega, Below.refl _ _⟩
  case round =>
    obtain ⟨k, hk, rfl, hno, hbr⟩ := hrel
    have HNO := Lib.hid hno
    clear hno
    have hbw := below_step hb1 hbr
    have t1 : (0 : Int) ≤ (k : Int) := by omega
    have e0 := (HC1.out.later hbr).cell 0
    have e1 := (HC1.out.later hbr).cell 1
    simp only [List.getElem?_toArray, List.getElem?_cons_zero, List.getElem?_cons_succ] at e0 e1
    by_cases hlt : k < len
    · have hra := HR.out.later hbr
      obtain ⟨b, off, u, rfl, hck, ac, lc, cc, rfl, _, _, hrc⟩ := hra.2.2 k hlt
      have t2 : (k : Int) < (len : Int) := by omega
      have HF : Hid (decide (fChk vars (xss.getD k []) ≠ 0) = true → fBad vars xss = (k : Int)) := Lib.hid (fun h => fFind_at (d := []) (by rw [HL.out]; exact hlt) HNO.out h)
      have HEE : Hid (decide (fChk vars (xss.getD k []) ≠ 0) = false → ∀ j, j < k + 1 → decide (fChk vars (xss.getD j []) ≠ 0) = false) := Lib.hid (fun h j hj => by
        rcases Nat.lt_or_ge j k with h1 | h1
        · exact HNO.out j h1
        · rw [show j = k by omega]; exact h)
      have HGK : Hid (xss.getD (k : Int).toNat [] = xss.getD k []) := Lib.hid (by rw [Int.toNat_natCast])
      have HRC := Lib.hid hrc
      have HLC := Lib.hid (show lc ≤ 100000 by rw [← hrc.1]; exact HS.out _ (at_memR HL.out hlt))
      clear hrc hra
      generalize xss.getD k [] = z at *
      go_wp2_with fail
      refine (cla_Check ac lc cc z vars _ HRC.out).mono ?_
      rintro e w5 ⟨rfl, hb5⟩
      have HRC5 := Lib.hid (HRC.out.later hb5)
      have hb5w := below_step hbr hb5
      have f0 := (HC1.out.later hb5w).cell 0
      have f1 := (HC1.out.later hb5w).cell 1
      simp only [List.getElem?_toArray, List.getElem?_cons_zero, List.getElem?_cons_succ] at f0 f1
      by_cases hc : cCheck z vars = 0
      · have d5 : (cCheck z vars != 0) = false := by simpa using hc
        cases ht : cTaut z
        · have HN := Lib.hid (HEE.out (by unfold fChk; rw [hc, ht]; rfl))
          have HT := Lib.hid ht
          clear hc ht
          generalize cCheck z vars = ee at *
          go_wp2_with fail
          refine (cla_Taut ac lc cc z _ HRC5.out HLC.out).mono ?_
          rintro e w6 ⟨rfl, hb6⟩
          rw [HT.out]
          go_wp2_with fail
          go_roundw
          case rel => exact ⟨k + 1, by omega, by go_num, HN.out, below_step hb5w hb6⟩
          case measure => simp [intOf]; omega
        · have hfb := HF.out (by unfold fChk; rw [hc, ht]; rfl)
          have HA2 : Hid (fAt vars xss = (k : Int)) := Lib.hid (by rw [HA.out, hfb, if_neg (by omega)])
          have HE2 : Hid (fErr vars xss = 11) := Lib.hid (by rw [HE.out, hfb, if_neg (by omega), HGK.out]; unfold fChk; rw [hc, ht]; rfl)
          have HT := Lib.hid ht
          clear hc ht hfb
          generalize cCheck z vars = ee at *
          go_wp2_with fail
          refine (cla_Taut ac lc cc z _ HRC5.out HLC.out).mono ?_
          rintro e w6 ⟨rfl, hb6⟩
          rw [HT.out]
          go_wp2_with fail
          go_ret2
          exact ⟨ret_ii HA2.out.symm HE2.out.symm, below_step hb1 (below_step hb5w hb6)⟩
      · have d5 : (cCheck z vars != 0) = true := by simpa using hc
        have hfz : fChk vars z = cCheck z vars := by unfold fChk; rw [if_pos hc]
        have hfb := HF.out (by rw [hfz]; simpa using hc)
        have HA2 : Hid (fAt vars xss = (k : Int)) := Lib.hid (by rw [HA.out, hfb, if_neg (by omega)])
        have HE2 : Hid (fErr vars xss = cCheck z vars) := Lib.hid (by rw [HE.out, hfb, if_neg (by omega), HGK.out, hfz])
        clear hc hfz hfb
        generalize cCheck z vars = ee at *
        go_wp2_with fail
        go_ret2
        exact ⟨ret_ii HA2.out.symm HE2.out.symm, below_step hb1 hb5w⟩
    · have hkn : k = len := by omega
      subst hkn
      have hfb : fBad vars xss = -1 := fFind_none (fFind_no (d := []) (by rw [HL.out]; exact HNO.out))
      have HA2 : Hid (fAt vars xss = (k : Int)) := Lib.hid (by rw [HA.out, if_pos hfb])
      have HE2 : Hid (fErr vars xss = 0) := Lib.hid (by rw [HE.out, if_pos hfb])
      clear hfb
      go_wp2_with fail
      go_ret2
      exact ⟨ret_ii HA2.out.symm HE2.out.symm, hbw⟩
end Go.Proofs.YthgmjboldboclaaDoor
