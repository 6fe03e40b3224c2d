import Derived.Test.YtcanlckenjndbaaMgAL
import Derived.Test.YtcanlckenjndbaaMgAK
import Derived.Test.YtcanlckenjndbaaMgAI
import Derived.Test.YtcanlckenjndbaaMgAJ
namespace Go.Proofs.Ytcanlckenjndbaa
open Go.RowKit
set_option linter.unusedVariables false
set_option linter.unusedSimpArgs false
theorem neg_lit2 {x : Int} (h : lvar x ≠ 0) : wrap64 (-x) = -x := by have := lvar_range h; exact IntWalk.wrap64_in _ ⟨by omega, by omega⟩
end Go.Proofs.Ytcanlckenjndbaa
namespace Go.Proofs.Ytcanlckenjndbaa
open Go.RowKit
set_option linter.unusedVariables false
set_option linter.unusedSimpArgs false
def litsOf (xs : List Int) : List Int := xs.filter fun x => decide (lvar x ≠ 0)
theorem litsOf_snoc (xs : List Int) (x : Int) : litsOf (xs ++ [x]) = litsOf xs ++ if lvar x = 0 then [] else [x] := by
  unfold litsOf
  rw [List.filter_append, List.filter_cons, List.filter_nil]
  by_cases h : lvar x = 0 <;> simp [h]
theorem litsOf_has (xs : List Int) {x : Int} (h : lvar x ≠ 0) : (litsOf xs).contains (-x) = lhas xs (-x) := by
  unfold litsOf lhas
  have h2 : lvar (-x) ≠ 0 := by unfold lvar at h ⊢; repeat' split at h <;> repeat' split <;> omega
  rw [Bool.eq_iff_iff, List.contains_iff_mem, List.contains_iff_mem, List.mem_filter]
  simp [h2]
theorem cTaut_snoc (xs : List Int) (x : Int) : cTaut (xs ++ [x]) = (cTaut xs || (decide (lvar x ≠ 0) && lhas xs (-x))) := by
  rw [Bool.eq_iff_iff, Bool.or_eq_true, taut_iff, taut_iff, Bool.and_eq_true, decide_eq_true_eq, lhas_mem]
  constructor
  · rintro ⟨y, h1, h2, h3⟩
    have hr := lvar_range h1
    rw [List.mem_append, List.mem_singleton] at h2 h3
    rcases h2 with h2 | h2 <;> rcases h3 with h3 | h3
    · exact Or.inl ⟨y, h1, h2, h3⟩
    · refine Or.inr ⟨?_, ?_⟩
      · rw [← h3]; unfold lvar at h1 ⊢; repeat' split at h1 <;> repeat' split <;> omega
      · rw [← h3, Int.neg_neg]; exact h2
    · subst h2; exact Or.inr ⟨h1, h3⟩
    · omega
  · rintro (⟨y, h1, h2, h3⟩ | ⟨h1, h2⟩)
    · exact ⟨y, h1, List.mem_append_left _ h2, List.mem_append_left _ h3⟩
    · exact ⟨x, h1, by simp, List.mem_append_left _ h2⟩
theorem cTaut_take {xs : List Int} {k : Nat} (h : cTaut (xs.take k) = true) : cTaut xs = true := by
  rw [taut_iff] at h ⊢
  obtain ⟨y, h1, h2, h3⟩ := h
  exact ⟨y, h1, List.mem_of_mem_take h2, List.mem_of_mem_take h3⟩
set_option maxRecDepth 100000 in
set_option maxHeartbeats 1000000 in
theorem cla_Taut (a : Option Addr) (len cap : Nat) (xs : List Int) (w : World) (hr : IntRow w a len xs) (hlen : len ≤ 100000) : Calls Try.prog 58 #[.slice a len cap] w fun e w' => e = .returned (.bool (cTaut xs)) ∧ Below w.heap.size w w' := by
  have HR := Lib.hid hr
  have HL := Lib.hid hr.1
  have hbm : Below w.heap.size w (w.alloc (.map #[] 0)) := by (repeat (first | (with_reducible exact Below.refl _ _) | (with_reducible assumption) | (with_reducible refine below_alloc ?_ _) | (with_reducible refine below_drew ?_) | (with_reducible refine below_drewN ?_ _) | (with_reducible refine below_step ?_ (by with_reducible assumption))))
  have hM0 : IMap (w.alloc (.map #[] 0)) w.heap.size 0 (sF (litsOf (xs.take 0))) := by rw [List.take_zero, show litsOf [] = [] from rfl, sF_nil]; exact IMap.made w
  have HM0 := Lib.hid hM0
  have hmm := @run_makeMap Try.prog
  clear hr hM0
  go_enter Try.func58, Try.ntmps58
  go_wp2_with fail
  clear hmm
  go_loopw [5, 6, 7, 11] (fun _ _ _ i wr => ∃ k : Nat, k ≤ len ∧ i = .int .i64 k ∧ IMap wr w.heap.size k (sF (litsOf (xs.take k))) ∧ cTaut (xs.take k) = false ∧ Below w.heap.size w wr) (fun _ _ _ i _ => len - (intOf i).toNat)
  case atStart => exact ⟨0, Nat.zero_le _, rfl, HM0.out, rfl, hbm⟩
  case round =>
    clear HM0 hbm
    obtain ⟨k, hk, rfl, hM, hno, hb⟩ := hrel
    have HM := Lib.hid hM
    have HNO := Lib.hid hno
    clear hM hno
    have t1 : (0 : Int) ≤ (k : Int) := by omega
    by_cases hlt : k < len
    · have hra := HR.out.later hb
      obtain ⟨b, off, rfl, hc⟩ := hra.2.2 (by omega)
      have hck := hc k hlt
      have t2 : (k : Int) < (len : Int) := by omega
      have hT := take_snoc xs k (by rw [HL.out]; exact hlt)
      have HT : Hid (cTaut (xs.take (k + 1)) = (decide (lvar (xs.getD k 0) ≠ 0) && lhas (xs.take k) (-xs.getD k 0))) := Lib.hid (by rw [hT, cTaut_snoc, HNO.out, Bool.false_or])
      have HO := Lib.hid (litsOf_snoc (xs.take k) (xs.getD k 0))
      have HTK := Lib.hid hT
      clear hra hc hT
      generalize xs.getD k 0 = z at *
      by_cases hz : lvar z = 0
      · have d1 : (lvar z == 0) = true := by simpa using hz
        have HM1 : Hid (IMap wr w.heap.size (k + 1) (sF (litsOf (xs.take (k + 1))))) := Lib.hid (by rw [HTK.out, HO.out, if_pos hz, List.append_nil]; exact HM.out.mono (by omega))
        have HT1 : Hid (cTaut (xs.take (k + 1)) = false) := Lib.hid (by rw [HT.out, hz]; rfl)
        clear hz
        go_wp2_with (go_at_call 57; refine (lit_Var _ _).mono ?_; rintro e wq ⟨rfl, hq⟩; obtain rfl := hq.symm)
        go_roundw
        case rel => exact ⟨k + 1, by omega, by go_num, HM1.out, HT1.out, hb⟩
        case measure => simp [intOf]; omega
      · have d1 : (lvar z == 0) = false := by simpa using hz
        have e1 := neg_lit2 hz
        have hx := lvar_range hz
        have hg := (sF_get (litsOf (xs.take k)) (-z))
        rw [litsOf_has _ hz] at hg
        have HG := Lib.hid hg
        have HT1 : Hid (cTaut (xs.take (k + 1)) = lhas (xs.take k) (-z)) := Lib.hid (by rw [HT.out]; simp [hz])
        have HO1 : Hid (litsOf (xs.take (k + 1)) = litsOf (xs.take k) ++ [z]) := Lib.hid (by rw [HTK.out, HO.out, if_neg hz])
        clear hz hg HO HTK HT
        cases hh : lhas (xs.take k) (-z)
        · have HH := Lib.hid hh
          have HT2 : Hid (cTaut (xs.take (k + 1)) = false) := Lib.hid (by rw [HT1.out, hh])
          clear hh HT1
          go_wp2_with (first | (go_at_call 57; refine (lit_Var _ _).mono ?_; rintro e wq ⟨rfl, hq⟩; obtain rfl := hq.symm) | (at_lookup; refine wpList_mlook rfl _ _ 137 rfl 138 Try.underlying137 _ (set_zero _) set_unit w.heap.size k (sF (litsOf (xs.take k))) rfl (HM.out.later (by (repeat (first | (with_reducible exact Below.refl _ _) | (with_reducible assumption) | (with_reducible refine below_alloc ?_ _) | (with_reducible refine below_drew ?_) | (with_reducible refine below_drewN ?_ _) | (with_reducible refine below_step ?_ (by with_reducible assumption)))))) (-z) rfl (by omega) (by omega) (.agg #[]) _ HG.out.1 HG.out.2 ?_; rw [HH.out]) | (at_mapUpdate; refine wpList_mput rfl _ _ _ 137 rfl 138 Try.underlying137 w.heap.size k _ rfl (HM.out.later (by (repeat (first | (with_reducible exact Below.refl _ _) | (with_reducible assumption) | (with_reducible refine below_alloc ?_ _) | (with_reducible refine below_drew ?_) | (with_reducible refine below_drewN ?_ _) | (with_reducible refine below_step ?_ (by with_reducible assumption)))))) (by unfold maxLen; omega) z rfl (by omega) (by omega) (.agg #[]) rfl set_unit ?_))
          intro w7 hM7 hgr
          have hb7 : Below w.heap.size w w7 := bel_grown (by (repeat (first | (with_reducible exact Below.refl _ _) | (with_reducible assumption) | (with_reducible refine below_alloc ?_ _) | (with_reducible refine below_drew ?_) | (with_reducible refine below_drewN ?_ _) | (with_reducible refine below_step ?_ (by with_reducible assumption))))) hgr (Nat.le_refl _)
          rw [sF_push, ← HO1.out] at hM7
          have HM7 := Lib.hid hM7
          clear hM7 hgr
          go_wp2_with fail
          go_roundw
          case rel => exact ⟨k + 1, by omega, by go_num, HM7.out, HT2.out, hb7⟩
          case measure => simp [intOf]; omega
        · have HH := Lib.hid hh
          have HT2 : Hid (cTaut xs = true) := Lib.hid (cTaut_take (k := k + 1) (by rw [HT1.out, hh]))
          clear hh HT1
          go_wp2_with (first | (go_at_call 57; refine (lit_Var _ _).mono ?_; rintro e wq ⟨rfl, hq⟩; obtain rfl := hq.symm) | (at_lookup; refine wpList_mlook rfl _ _ 137 rfl 138 Try.underlying137 _ (set_zero _) set_unit w.heap.size k (sF (litsOf (xs.take k))) rfl (HM.out.later (by (repeat (first | (with_reducible exact Below.refl _ _) | (with_reducible assumption) | (with_reducible refine below_alloc ?_ _) | (with_reducible refine below_drew ?_) | (with_reducible refine below_drewN ?_ _) | (with_reducible refine below_step ?_ (by with_reducible assumption)))))) (-z) rfl (by omega) (by omega) (.agg #[]) _ HG.out.1 HG.out.2 ?_; rw [HH.out]))
          go_ret
          exact ⟨ret_bool HT2.out.symm, by (repeat (first | (with_reducible exact Below.refl _ _) | (with_reducible assumption) | (with_reducible refine below_alloc ?_ _) | (with_reducible refine below_drew ?_) | (with_reducible refine below_drewN ?_ _) | (with_reducible refine below_step ?_ (by with_reducible assumption))))⟩
    · have hkn : k = len := by omega
      subst hkn
      have HE : Hid (cTaut xs = false) := Lib.hid (by rw [← HNO.out, List.take_of_length_le (by rw [HL.out]; exact Nat.le_refl _)])
      go_wp2_with fail
      go_ret
      exact ⟨ret_bool HE.out.symm, hb⟩
end Go.Proofs.Ytcanlckenjndbaa
namespace Go.Proofs.Ytcanlckenjndbaa
set_option linter.unusedVariables false
end Go.Proofs.Ytcanlckenjndbaa
