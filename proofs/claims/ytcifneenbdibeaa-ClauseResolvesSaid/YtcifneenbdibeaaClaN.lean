/- The contracts of clause.Taut, Subset, Same. -/
import Derived.Test.YtcifneenbdibeaaClaM
namespace Go.Proofs.Ytcifneenbdibeaa
open Go.RowKit
set_option linter.unusedVariables false
set_option linter.unusedSimpArgs false

def litsOf (xs : List Int) : List Int := xs.filter fun x => decide (lvar x ≠ 0)
theorem litsOf_snoc (xs : List Int) (x : Int) : litsOf (xs ++ [x]) = litsOf xs ++ if lvar x = 0 then [] else [x] := by
  unfold litsOf
  rw [List.filter_append, List.filter_cons, List.filter_nil]
  by_cases h : lvar x = 0 <;> simp [h]
theorem litsOf_has (xs : List Int) {x : Int} (h : lvar x ≠ 0) : (litsOf xs).contains (-x) = lhas xs (-x) := by
  unfold litsOf lhas
  have h2 : lvar (-x) ≠ 0 := by unfold lvar at h ⊢; repeat' split at h <;> repeat' split <;> omega
  rw [Bool.eq_iff_iff, List.contains_iff_mem, List.contains_iff_mem, List.mem_filter]
  simp [h2]
theorem cTaut_snoc (xs : List Int) (x : Int) : cTaut (xs ++ [x]) = (cTaut xs || (decide (lvar x ≠ 0) && lhas xs (-x))) := by
  rw [Bool.eq_iff_iff, Bool.or_eq_true, taut_iff, taut_iff, Bool.and_eq_true, decide_eq_true_eq, lhas_mem]
  constructor
  · rintro ⟨y, h1, h2, h3⟩
    have hr := lvar_range h1
    rw [List.mem_append, List.mem_singleton] at h2 h3
    rcases h2 with h2 | h2 <;> rcases h3 with h3 | h3
    · exact Or.inl ⟨y, h1, h2, h3⟩
    · refine Or.inr ⟨?_, ?_⟩
      · rw [← h3]; unfold lvar at h1 ⊢; repeat' split at h1 <;> repeat' split <;> omega
      · rw [← h3, Int.neg_neg]; exact h2
    · subst h2; exact Or.inr ⟨h1, h3⟩
    · omega
  · rintro (⟨y, h1, h2, h3⟩ | ⟨h1, h2⟩)
    · exact ⟨y, h1, List.mem_append_left _ h2, List.mem_append_left _ h3⟩
    · exact ⟨x, h1, by simp, List.mem_append_left _ h2⟩
theorem cTaut_take {xs : List Int} {k : Nat} (h : cTaut (xs.take k) = true) : cTaut xs = true := by
  rw [taut_iff] at h ⊢
  obtain ⟨y, h1, h2, h3⟩ := h
  exact ⟨y, h1, List.mem_of_mem_take h2, List.mem_of_mem_take h3⟩
set_option maxRecDepth 100000 in
set_option maxHeartbeats 1000000 in
theorem cla_Taut (a : Option Addr) (len cap : Nat) (xs : List Int) (w : World) (hr : IntRow w a len xs) (hlen : len ≤ 100000) : Calls Try.prog 15 #[.slice a len cap] w fun e w' => e = .returned (.bool (cTaut xs)) ∧ Below w.heap.size w w' := by
  have HR := Lib.hid hr
  have HL := Lib.hid hr.1
  have hbm : Below w.heap.size w (w.alloc (.map #[] 0)) := by (repeat (first | (with_reducible exact Below.refl _ _) | (with_reducible assumption) | (with_reducible refine below_alloc ?_ _) | (with_reducible refine below_drew ?_) | (with_reducible refine below_drewN ?_ _) | (with_reducible refine below_step ?_ (by with_reducible assumption))))
  have hM0 : IMap (w.alloc (.map #[] 0)) w.heap.size 0 (sF (litsOf (xs.take 0))) := by rw [List.take_zero, show litsOf [] = [] from rfl, sF_nil]; exact IMap.made w
  have HM0 := Lib.hid hM0
  have hmm := @run_makeMap Try.prog
  clear hr hM0
  go_enter Try.func15, Try.ntmps15
  go_wp2_with fail
  clear hmm
  go_loopw [5, 6, 7, 11] (fun _ _ _ i wr => ∃ k : Nat, k ≤ len ∧ i = .int .i64 k ∧ IMap wr w.heap.size k (sF (litsOf (xs.take k))) ∧ cTaut (xs.take k) = false ∧ Below w.heap.size w wr) (fun _ _ _ i _ => len - (intOf i).toNat)
  case atStart => exact ⟨0, Nat.zero_le _, rfl, HM0.out, rfl, hbm⟩
  case round =>
    clear HM0 hbm
    obtain ⟨k, hk, rfl, hM, hno, hb⟩ := hrel
    have HM := Lib.hid hM
    have HNO := Lib.hid hno
    clear hM hno
    have t1 : (0 : Int) ≤ (k : Int) := by omega
    by_cases hlt : k < len
    · have hra := HR.out.later hb
      obtain ⟨b, off, rfl, hc⟩ := hra.2.2 (by omega)
      have hck := hc k hlt
      have t2 : (k : Int) < (len : Int) := by omega
      have hT := take_snoc xs k (by rw [HL.out]; exact hlt)
      have HT : Hid (cTaut (xs.take (k + 1)) = (decide (lvar (xs.getD k 0) ≠ 0) && lhas (xs.take k) (-xs.getD k 0))) := Lib.hid (by rw [hT, cTaut_snoc, HNO.out, Bool.false_or])
      have HO := Lib.hid (litsOf_snoc (xs.take k) (xs.getD k 0))
      have HTK := Lib.hid hT
      clear hra hc hT
      generalize xs.getD k 0 = z at *
      by_cases hz : lvar z = 0
      · have d1 : (lvar z == 0) = true := by simpa using hz
        have HM1 : Hid (IMap wr w.heap.size (k + 1) (sF (litsOf (xs.take (k + 1))))) := Lib.hid (by rw [HTK.out, HO.out, if_pos hz, List.append_nil]; exact HM.out.mono (by omega))
        have HT1 : Hid (cTaut (xs.take (k + 1)) = false) := Lib.hid (by rw [HT.out, hz]; rfl)
        clear hz
        go_wp2_with (go_at_call 31; refine (lit_Var _ _).mono ?_; rintro e wq ⟨rfl, hq⟩; obtain rfl := hq.symm)
        go_roundw
        case rel => exact ⟨k + 1, by omega, by go_num, HM1.out, HT1.out, hb⟩
        case measure => simp [intOf]; omega
      · have d1 : (lvar z == 0) = false := by simpa using hz
        have e1 := neg_lit2 hz
        have hx := lvar_range hz
        have hg := (sF_get (litsOf (xs.take k)) (-z))
        rw [litsOf_has _ hz] at hg
        have HG := Lib.hid hg
        have HT1 : Hid (cTaut (xs.take (k + 1)) = lhas (xs.take k) (-z)) := Lib.hid (by rw [HT.out]; simp [hz])
        have HO1 : Hid (litsOf (xs.take (k + 1)) = litsOf (xs.take k) ++ [z]) := Lib.hid (by rw [HTK.out, HO.out, if_neg hz])
        clear hz hg HO HTK HT
        cases hh : lhas (xs.take k) (-z)
        · have HH := Lib.hid hh
          have HT2 : Hid (cTaut (xs.take (k + 1)) = false) := Lib.hid (by rw [HT1.out, hh])
          clear hh HT1
          go_wp2_with (first | (go_at_call 31; refine (lit_Var _ _).mono ?_; rintro e wq ⟨rfl, hq⟩; obtain rfl := hq.symm) | (at_lookup; refine wpList_mlook rfl _ _ 43 rfl 44 Try.underlying43 _ (set_zero _) set_unit w.heap.size k (sF (litsOf (xs.take k))) rfl (HM.out.later (by (repeat (first | (with_reducible exact Below.refl _ _) | (with_reducible assumption) | (with_reducible refine below_alloc ?_ _) | (with_reducible refine below_drew ?_) | (with_reducible refine below_drewN ?_ _) | (with_reducible refine below_step ?_ (by with_reducible assumption)))))) (-z) rfl (by omega) (by omega) (.agg #[]) _ HG.out.1 HG.out.2 ?_; rw [HH.out]) | (at_mapUpdate; refine wpList_mput rfl _ _ _ 43 rfl 44 Try.underlying43 w.heap.size k _ rfl (HM.out.later (by (repeat (first | (with_reducible exact Below.refl _ _) | (with_reducible assumption) | (with_reducible refine below_alloc ?_ _) | (with_reducible refine below_drew ?_) | (with_reducible refine below_drewN ?_ _) | (with_reducible refine below_step ?_ (by with_reducible assumption)))))) (by unfold maxLen; omega) z rfl (by omega) (by omega) (.agg #[]) rfl set_unit ?_))
          intro w7 hM7 hgr
          have hb7 : Below w.heap.size w w7 := bel_grown (by (repeat (first | (with_reducible exact Below.refl _ _) | (with_reducible assumption) | (with_reducible refine below_alloc ?_ _) | (with_reducible refine below_drew ?_) | (with_reducible refine below_drewN ?_ _) | (with_reducible refine below_step ?_ (by with_reducible assumption))))) hgr (Nat.le_refl _)
          rw [sF_push, ← HO1.out] at hM7
          have HM7 := Lib.hid hM7
          clear hM7 hgr
          go_wp2_with fail
          go_roundw
          case rel => exact ⟨k + 1, by omega, by go_num, HM7.out, HT2.out, hb7⟩
          case measure => simp [intOf]; omega
        · have HH := Lib.hid hh
          have HT2 : Hid (cTaut xs = true) := Lib.hid (cTaut_take (k := k + 1) (by rw [HT1.out, hh]))
          clear hh HT1
          go_wp2_with (first | (go_at_call 31; refine (lit_Var _ _).mono ?_; rintro e wq ⟨rfl, hq⟩; obtain rfl := hq.symm) | (at_lookup; refine wpList_mlook rfl _ _ 43 rfl 44 Try.underlying43 _ (set_zero _) set_unit w.heap.size k (sF (litsOf (xs.take k))) rfl (HM.out.later (by (repeat (first | (with_reducible exact Below.refl _ _) | (with_reducible assumption) | (with_reducible refine below_alloc ?_ _) | (with_reducible refine below_drew ?_) | (with_reducible refine below_drewN ?_ _) | (with_reducible refine below_step ?_ (by with_reducible assumption)))))) (-z) rfl (by omega) (by omega) (.agg #[]) _ HG.out.1 HG.out.2 ?_; rw [HH.out]))
          go_ret
          exact ⟨ret_bool HT2.out.symm, by (repeat (first | (with_reducible exact Below.refl _ _) | (with_reducible assumption) | (with_reducible refine below_alloc ?_ _) | (with_reducible refine below_drew ?_) | (with_reducible refine below_drewN ?_ _) | (with_reducible refine below_step ?_ (by with_reducible assumption))))⟩
    · have hkn : k = len := by omega
      subst hkn
      have HE : Hid (cTaut xs = false) := Lib.hid (by rw [← HNO.out, List.take_of_length_le (by rw [HL.out]; exact Nat.le_refl _)])
      go_wp2_with fail
      go_ret
      exact ⟨ret_bool HE.out.symm, hb⟩
set_option maxRecDepth 100000 in
set_option maxHeartbeats 1000000 in
theorem cla_Subset (a : Option Addr) (len cap : Nat) (xs : List Int) (a2 : Option Addr) (len2 cap2 : Nat) (ys : List Int) (w : World) (hr : IntRow w a len xs) (hr2 : IntRow w a2 len2 ys) (hlen : len2 ≤ 100000) (hf : Fits' xs) (hf2 : Fits' ys) : Calls Try.prog 17 #[.slice a len cap, .slice a2 len2 cap2] w fun e w' => e = .returned (.bool (cSub xs ys)) ∧ Below w.heap.size w w' := by
  have HR := Lib.hid hr
  have HL := Lib.hid hr.1
  have HR2 := Lib.hid hr2
  have HL2 := Lib.hid hr2.1
  have HF := Lib.hid hf; have HF2 := Lib.hid hf2
  have hm := hr.2.1; unfold maxLen at hm
  have hbm : Below w.heap.size w (w.alloc (.map #[] 0)) := by (repeat (first | (with_reducible exact Below.refl _ _) | (with_reducible assumption) | (with_reducible refine below_alloc ?_ _) | (with_reducible refine below_drew ?_) | (with_reducible refine below_drewN ?_ _) | (with_reducible refine below_step ?_ (by with_reducible assumption))))
  have hM0 : IMap (w.alloc (.map #[] 0)) w.heap.size 0 (sF (ys.take 0)) := by rw [List.take_zero, sF_nil]; exact IMap.made w
  have HM0 := Lib.hid hM0
  have hmm := @run_makeMap Try.prog
  clear hr hr2 hM0 hf hf2
  go_enter Try.func17, Try.ntmps17
  go_wp2_with fail
  clear hmm
  go_loopw [7, 15] (fun _ i wr => ∃ k : Nat, k ≤ len2 ∧ i = .int .i64 k ∧ IMap wr w.heap.size k (sF (ys.take k)) ∧ Below w.heap.size w wr) (fun _ i _ => len2 - (intOf i).toNat)
  case atStart => exact ⟨0, Nat.zero_le _, rfl, HM0.out, hbm⟩
  case round =>
    clear HM0 hbm
    obtain ⟨k, hk, rfl, hM, hb⟩ := hrel
    have HM := Lib.hid hM
    clear hM
    have t1 : (0 : Int) ≤ (k : Int) := by omega
    by_cases hlt : k < len2
    · have hra := HR2.out.later hb
      obtain ⟨b, off, rfl, hc⟩ := hra.2.2 (by omega)
      have hck := hc k hlt
      have t2 : (k : Int) < (len2 : Int) := by omega
      have HT := Lib.hid (take_snoc ys k (by rw [HL2.out]; exact hlt))
      obtain ⟨n1, n2⟩ := HF2.out _ (at_mem2 HL2.out hlt)
      clear hra hc
      generalize ys.getD k 0 = z at *
      generalize hS : ys.take k = S at *
      have HS := Lib.hid hS
      clear hS
      go_wp2_with (at_mapUpdate; refine wpList_mput rfl _ _ _ 43 rfl 44 Try.underlying43 w.heap.size k _ rfl HM.out (by unfold maxLen; omega) z rfl n1 n2 (.agg #[]) rfl set_unit ?_)
      intro w7 hM7 hgr
      have hb7 := bel_grown hb hgr (Nat.le_refl _)
      rw [sF_push, ← HT.out] at hM7
      have HM7 := Lib.hid hM7
      clear hM7 hgr
      go_wp2_with fail
      go_roundw
      case rel => exact ⟨k + 1, by omega, by go_num, HM7.out, hb7⟩
      case measure => simp [intOf]; omega
    · have hkn : k = len2 := by omega
      subst hkn
      have hM9 := HM.out
      rw [List.take_of_length_le (by rw [HL2.out]; exact Nat.le_refl _)] at hM9
      have HM := Lib.hid hM9
      clear hM9
      go_wp2_with fail
      go_loopw [9, 10, 11, 25] (fun _ _ _ i wx => ∃ j : Nat, j ≤ len ∧ i = .int .i64 j ∧ cSub (xs.take j) ys = true ∧ Below wr.heap.size wr wx) (fun _ _ _ i _ => len - (intOf i).toNat)
      case atStart => exact ⟨0, Nat.zero_le _, rfl, rfl, Below.refl _ _⟩
      case round =>
        obtain ⟨j, hj, rfl, hno, hbx⟩ := hrel
        have HNO := Lib.hid hno
        clear hno
        have hb3 := below_step hb hbx
        have t3 : (0 : Int) ≤ (j : Int) := by omega
        by_cases hlt2 : j < len
        · have hra := HR.out.later hb3
          obtain ⟨b, off, rfl, hc⟩ := hra.2.2 (by omega)
          have hck := hc j hlt2
          have t4 : (j : Int) < (len : Int) := by omega
          have HT : Hid (cSub (xs.take (j + 1)) ys = (decide (lvar (xs.getD j 0) = 0) || lhas ys (xs.getD j 0))) := Lib.hid (by
            have h := HNO.out
            unfold cSub at h ⊢
            rw [take_snoc xs j (by rw [HL.out]; exact hlt2), List.all_append, h]; simp)
          have HI := Lib.hid (at_mem2 HL.out hlt2)
          obtain ⟨n1, n2⟩ := HF.out _ (at_mem2 HL.out hlt2)
          clear hra hc
          generalize xs.getD j 0 = z at *
          have HG := Lib.hid (sF_get ys z)
          cases hh : lhas ys z
          · have HH : Hid (ys.contains z = false) := Lib.hid hh
            by_cases hz : lvar z = 0
            · have d1 : (lvar z != 0) = false := by simpa using hz
              have HT2 : Hid (cSub (xs.take (j + 1)) ys = true) := Lib.hid (by rw [HT.out, hz]; rfl)
              clear hh hz HT
              go_wp2_with (first | (go_at_call 31; refine (lit_Var _ _).mono ?_; rintro e wq ⟨rfl, hq⟩; obtain rfl := hq.symm) | (at_lookup; refine wpList_mlook rfl _ _ 43 rfl 44 Try.underlying43 _ (set_zero _) set_unit w.heap.size k (sF ys) rfl (HM.out.later (below_step (below_step (Below.refl _ _) hbx) (by (repeat (first | (with_reducible exact Below.refl _ _) | (with_reducible assumption) | (with_reducible refine below_alloc ?_ _) | (with_reducible refine below_drew ?_) | (with_reducible refine below_drewN ?_ _) | (with_reducible refine below_step ?_ (by with_reducible assumption))))))) z rfl n1 n2 (.agg #[]) _ HG.out.1 HG.out.2 ?_; rw [HH.out]))
              go_roundw
              case rel => exact ⟨j + 1, by omega, by go_num, HT2.out, by (repeat (first | (with_reducible exact Below.refl _ _) | (with_reducible assumption) | (with_reducible refine below_alloc ?_ _) | (with_reducible refine below_drew ?_) | (with_reducible refine below_drewN ?_ _) | (with_reducible refine below_step ?_ (by with_reducible assumption))))⟩
              case measure => simp [intOf]; omega
            · have d1 : (lvar z != 0) = true := by simpa using hz
              have HT2 : Hid (cSub xs ys = false) := Lib.hid (by
                rw [← Bool.not_eq_true, sub_iff]
                intro h
                rw [(lhas_mem ys z).2 (h z HI.out hz)] at hh; cases hh)
              clear hh hz HT
              go_wp2_with (first | (go_at_call 31; refine (lit_Var _ _).mono ?_; rintro e wq ⟨rfl, hq⟩; obtain rfl := hq.symm) | (at_lookup; refine wpList_mlook rfl _ _ 43 rfl 44 Try.underlying43 _ (set_zero _) set_unit w.heap.size k (sF ys) rfl (HM.out.later (below_step (below_step (Below.refl _ _) hbx) (by (repeat (first | (with_reducible exact Below.refl _ _) | (with_reducible assumption) | (with_reducible refine below_alloc ?_ _) | (with_reducible refine below_drew ?_) | (with_reducible refine below_drewN ?_ _) | (with_reducible refine below_step ?_ (by with_reducible assumption))))))) z rfl n1 n2 (.agg #[]) _ HG.out.1 HG.out.2 ?_; rw [HH.out]))
              go_ret
              exact ⟨ret_bool HT2.out.symm, by (repeat (first | (with_reducible exact Below.refl _ _) | (with_reducible assumption) | (with_reducible refine below_alloc ?_ _) | (with_reducible refine below_drew ?_) | (with_reducible refine below_drewN ?_ _) | (with_reducible refine below_step ?_ (by with_reducible assumption))))⟩
          · have HH : Hid (ys.contains z = true) := Lib.hid hh
            have HT2 : Hid (cSub (xs.take (j + 1)) ys = true) := Lib.hid (by rw [HT.out, hh]; simp)
            clear hh HT
            go_wp2_with (first | (go_at_call 31; refine (lit_Var _ _).mono ?_; rintro e wq ⟨rfl, hq⟩; obtain rfl := hq.symm) | (at_lookup; refine wpList_mlook rfl _ _ 43 rfl 44 Try.underlying43 _ (set_zero _) set_unit w.heap.size k (sF ys) rfl (HM.out.later (below_step (below_step (Below.refl _ _) hbx) (by (repeat (first | (with_reducible exact Below.refl _ _) | (with_reducible assumption) | (with_reducible refine below_alloc ?_ _) | (with_reducible refine below_drew ?_) | (with_reducible refine below_drewN ?_ _) | (with_reducible refine below_step ?_ (by with_reducible assumption))))))) z rfl n1 n2 (.agg #[]) _ HG.out.1 HG.out.2 ?_; rw [HH.out]))
            go_roundw
            case rel => exact ⟨j + 1, by omega, by go_num, HT2.out, by (repeat (first | (with_reducible exact Below.refl _ _) | (with_reducible assumption) | (with_reducible refine below_alloc ?_ _) | (with_reducible refine below_drew ?_) | (with_reducible refine below_drewN ?_ _) | (with_reducible refine below_step ?_ (by with_reducible assumption))))⟩
            case measure => simp [intOf]; omega
        · have hjn : j = len := by omega
          subst hjn
          have HE : Hid (cSub xs ys = true) := Lib.hid (by rw [← HNO.out, List.take_of_length_le (by rw [HL.out]; exact Nat.le_refl _)])
          go_wp2_with fail
          go_ret
          exact ⟨ret_bool HE.out.symm, hb3⟩
set_option maxRecDepth 100000 in
theorem cla_Same (a : Option Addr) (len cap : Nat) (xs : List Int) (a2 : Option Addr) (len2 cap2 : Nat) (ys : List Int) (w : World) (hr : IntRow w a len xs) (hr2 : IntRow w a2 len2 ys) (hlen : len ≤ 100000) (hlen2 : len2 ≤ 100000) (hf : Fits' xs) (hf2 : Fits' ys) : Calls Try.prog 19 #[.slice a len cap, .slice a2 len2 cap2] w fun e w' => e = .returned (.bool (cSub xs ys && cSub ys xs)) ∧ Below w.heap.size w w' := by
  have HR := Lib.hid hr
  have HR2 := Lib.hid hr2
  have HF := Lib.hid hf; have HF2 := Lib.hid hf2
  clear hr hr2 hf hf2
  cases h : cSub xs ys
  · have H := Lib.hid h
    clear h
    go_enter Try.func19, Try.ntmps19
    go_wp2_with fail
    refine (cla_Subset _ _ _ xs _ _ _ ys _ HR.out HR2.out hlen2 HF.out HF2.out).mono ?_
    rintro e w1 ⟨rfl, hb1⟩
    rw [H.out]
    go_wp2_with fail
    go_ret
    exact ⟨rfl, hb1⟩
  · have H := Lib.hid h
    clear h
    go_enter Try.func19, Try.ntmps19
    go_wp2_with fail
    refine (cla_Subset _ _ _ xs _ _ _ ys _ HR.out HR2.out hlen2 HF.out HF2.out).mono ?_
    rintro e w1 ⟨rfl, hb1⟩
    rw [H.out]
    go_wp2_with fail
    refine (cla_Subset _ _ _ ys _ _ _ xs _ (HR2.out.later hb1) (HR.out.later hb1) hlen HF2.out HF.out).mono ?_
    rintro e w2 ⟨rfl, hb2⟩
    go_wp2_with fail
    go_ret
    exact ⟨rfl, below_step hb1 hb2⟩
end Go.Proofs.Ytcifneenbdibeaa
