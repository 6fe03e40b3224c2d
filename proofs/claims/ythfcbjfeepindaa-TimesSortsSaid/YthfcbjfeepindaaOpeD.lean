/- The contract of oper.Check. -/
import Derived.Test.YthfcbjfeepindaaOpeC
import Derived.Test.YthfcbjfeepindaaOpeM
import Derived.Test.YthfcbjfeepindaaMap
import Derived.StillTailTactics
namespace Go.Proofs.Ythfcbjfeepindaa
open Go.RowKit
set_option linter.unusedVariables false
set_option linter.unusedSimpArgs false

theorem zero_unit (w : World) : (zeroValue 113).run Try.prog w = .ok (.agg #[]) w := by kernel_rfl
theorem zero_oper (w : World) : (zeroValue 111).run Try.prog w = .ok (.agg #[.int .i64 0, .int .i64 0, .int .i64 0, .int .i64 0, .int .i64 0]) w := by kernel_rfl
theorem mapR_unit : (mapR (.agg #[])).isSome = true := by decide
theorem mapR_opV {x : Op5} (h : oMay x = 0) : (mapR (opV x)).isSome = true := by
  have := oMay_zero h
  unfold opV opC mapR
  have e : ([.int .i64 x.p, .int .i64 x.k, .int .i64 x.s, .int .i64 x.e, .int .i64 x.r] : List Value).toArray.toList.all isNum = true := by
    simp only [List.all_cons, List.all_nil, isNum]
    rw [wf_int (by omega) (by omega), wf_int (by omega) (by omega), wf_int (by omega) (by omega), wf_int (by omega) (by omega), wf_int (by omega) (by omega)]; rfl
  simp only [e, if_pos]; rfl
def fT (xs : List Op5) (k : Nat) : Int → Option Value := fun n => if oTaken xs k n then some (.agg #[]) else none
def fL (xs : List Op5) (k : Nat) : Int → Option Value := fun p => (oLast xs k p).map opV
theorem fT_zero (xs : List Op5) : fT xs 0 = fun _ => none := by
  funext n; unfold fT; rw [if_neg (fun ⟨i, hi, _⟩ => by omega)]
theorem fL_zero (xs : List Op5) : fL xs 0 = fun _ => none := rfl
theorem fL_succ (xs : List Op5) (k : Nat) : upd (fL xs k) (oAt xs k).p (opV (oAt xs k)) = fL xs (k + 1) := by
  funext p
  unfold upd fL
  conv => rhs; unfold oLast
  by_cases h : p = (oAt xs k).p
  · rw [if_pos h, if_pos h.symm]; rfl
  · rw [if_neg h, if_neg (fun e => h e.symm)]
theorem fT_succ1 (xs : List Op5) (k : Nat) (h : (oAt xs k).e = -1) : upd (fT xs k) (oAt xs k).s (.agg #[]) = fT xs (k + 1) := by
  funext n
  unfold upd fT
  by_cases h1 : n = (oAt xs k).s
  · rw [if_pos h1, if_pos ((oTaken_succ _ _ _).2 (Or.inr (Or.inl h1.symm)))]
  · rw [if_neg h1]
    by_cases h2 : oTaken xs k n
    · rw [if_pos h2, if_pos ((oTaken_succ _ _ _).2 (Or.inl h2))]
    · rw [if_neg h2, if_neg]
      rintro h3
      rcases (oTaken_succ _ _ _).1 h3 with h3 | h3 | h3
      · exact h2 h3
      · exact h1 h3.symm
      · exact h3.2 h
theorem fT_succ2 (xs : List Op5) (k : Nat) (h : (oAt xs k).e ≠ -1) : upd (upd (fT xs k) (oAt xs k).s (.agg #[])) (oAt xs k).e (.agg #[]) = fT xs (k + 1) := by
  funext n
  unfold upd fT
  by_cases h0 : n = (oAt xs k).e
  · rw [if_pos h0, if_pos ((oTaken_succ _ _ _).2 (Or.inr (Or.inr ⟨h0.symm, h⟩)))]
  rw [if_neg h0]
  by_cases h1 : n = (oAt xs k).s
  · rw [if_pos h1, if_pos ((oTaken_succ _ _ _).2 (Or.inr (Or.inl h1.symm)))]
  · rw [if_neg h1]
    by_cases h2 : oTaken xs k n
    · rw [if_pos h2, if_pos ((oTaken_succ _ _ _).2 (Or.inl h2))]
    · rw [if_neg h2, if_neg]
      rintro h3
      rcases (oTaken_succ _ _ _).1 h3 with h3 | h3 | h3
      · exact h2 h3
      · exact h1 h3.symm
      · exact h0 h3.1.symm
theorem mapR_oz : (mapR (.agg #[.int .i64 0, .int .i64 0, .int .i64 0, .int .i64 0, .int .i64 0])).isSome = true := by decide
theorem fT_some {xs : List Op5} {k : Nat} {n : Int} (c : Bool) (h : decide (oTaken xs k n) = c) : (fT xs k n).isSome = c ∧ (fT xs k n).getD (.agg #[]) = .agg #[] := by
  unfold fT
  by_cases h1 : oTaken xs k n
  · rw [if_pos h1, ← h, decide_eq_true h1]; exact ⟨rfl, rfl⟩
  · rw [if_neg h1, ← h, decide_eq_false h1]; exact ⟨rfl, rfl⟩

def OChkPost (xs : List Op5) (w : World) (e : Ending) (w' : World) : Prop := ∃ a c, e = .returned (.tuple #[.int .i64 a, .int .i64 c]) ∧ OChk xs a c ∧ Below w.heap.size w w'
theorem OChkPost.err {xs : List Op5} {k : Nat} {c : Int} {w w' : World} {e : Ending} (hlen : xs.length ≤ 5000) (hk : k < xs.length) (hg : oGood xs k) (he : oErr xs k = c) (hc : c ≠ 0) (h : e = .returned (.tuple #[.int .i64 k, .int .i64 c])) (hb : Below w.heap.size w w') : OChkPost xs w e w' :=
  ⟨_, _, h, Or.inr (Or.inl ⟨hlen, k, hk, hg, by rw [he]; exact hc, rfl, he.symm⟩), hb⟩
/-- What is known behind the first k. -/
def OChkAt (xs : List Op5) (bT k : Nat) (w wr : World) : Prop := oGood xs k ∧ IMap wr bT (2 * k) (fT xs k) ∧ IMap wr (bT + 1) k (fL xs k) ∧ Below w.heap.size w wr



set_option maxRecDepth 100000 in
set_option maxHeartbeats 4000000 in
theorem ope_Check (a : Option Addr) (len cap : Nat) (xs : List Op5) (w : World) (hr : OpRow w a len xs) : Calls Try.prog 51 #[.slice a len cap] w (OChkPost xs w) := by
  have hxl := hr.1
  have HR := Lib.hid hr
  have HXL := Lib.hid hxl
  by_cases hbig : 5000 < len
  · have d1 : decide (5000 < (len : Int)) = true := by simp; omega
    have d2 : decide (5000 < len) = true := by simpa using hbig
    clear hr hxl
    have HB := Lib.hid hbig
    clear hbig
    go_enter Try.func51, Try.ntmps51
    go_wp2_with fail
    go_ret2
    exact ⟨0, 3, rfl, Or.inl ⟨by rw [HXL.out]; exact HB.out, rfl, rfl⟩, Below.refl _ _⟩
  have d1 : decide (5000 < (len : Int)) = false := by simp; omega
  have d2 : decide (5000 < len) = false := by simpa using hbig
  have hlen : len ≤ 5000 := by omega
  clear hr hxl hbig
  have hbm : Below w.heap.size w ((w.alloc (.map #[] 0)).alloc (.map #[] 0)) := by (repeat (first | (with_reducible exact Below.refl _ _) | (with_reducible assumption) | (with_reducible refine below_alloc ?_ _) | (with_reducible refine below_drew ?_) | (with_reducible refine below_drewN ?_ _) | (with_reducible refine below_step ?_ (by with_reducible assumption))))
  have hT0 : IMap ((w.alloc (.map #[] 0)).alloc (.map #[] 0)) w.heap.size 0 (fT xs 0) := by rw [fT_zero]; exact (IMap.made w).later (below_alloc (Below.refl _ _) _)
  have hL0 : IMap ((w.alloc (.map #[] 0)).alloc (.map #[] 0)) (w.heap.size + 1) 0 (fL xs 0) := by
    have := IMap.made (w.alloc (.map #[] 0))
    rw [fL_zero]; simpa using this
  have HT0 := Lib.hid hT0; have HL0 := Lib.hid hL0
  clear hT0 hL0
  have hmm := @run_makeMap Try.prog
  go_enter Try.func51, Try.ntmps51
  go_wp2_with fail
  clear hmm
  go_loopw [22] (fun i wr => ∃ k : Nat, k ≤ len ∧ i = .int .i64 k ∧ OChkAt xs w.heap.size k w wr) (fun i _ => len - (intOf i).toNat)
  case atStart => exact ⟨0, Nat.zero_le _, rfl, fun i hi => by omega, HT0.out, HL0.out, hbm⟩
  case round =>
    obtain ⟨k, hk, rfl, hg, hT, hL, hbr⟩ := hrel
    obtain ⟨wo, rfl⟩ : ∃ wo : World, wo = wr := ⟨_, rfl⟩
    have HG := Lib.hid hg; have HT := Lib.hid hT; have HLm := Lib.hid hL
    clear hg hT hL
    by_cases hlt : k < len
    · have hra := HR.out.later hbr
      obtain ⟨b, off, rfl, hc⟩ := hra.2.2 (by omega)
      obtain ⟨q0, q1, q2, q3, q4⟩ := hc k hlt
      have t1 : (0 : Int) ≤ (k : Int) := by omega
      have t2 : (k : Int) < (len : Int) := by omega
      clear hc hra
      by_cases hm : oMay (oAt xs k) = 0
      rotate_left
      · have hm2 : (oMay (oAt xs k) != 0) = true := by simpa using hm
        have HER : Hid (oErr xs k = oMay (oAt xs k)) := Lib.hid (by unfold oErr; rw [if_pos hm])
        have HM := Lib.hid hm
        clear hm
        go_wp2_with (go_at_call 87; refine (ope_may (oAt xs k) _).mono ?_; rintro e w' ⟨rfl, hbA⟩)
        go_ret2
        exact OChkPost.err (by rw [HXL.out]; exact hlen) (by rw [HXL.out]; exact hlt) HG.out HER.out HM.out rfl (by (repeat (first | (with_reducible exact Below.refl _ _) | (with_reducible assumption) | (with_reducible refine below_alloc ?_ _) | (with_reducible refine below_drew ?_) | (with_reducible refine below_drewN ?_ _) | (with_reducible refine below_step ?_ (by with_reducible assumption)))))
      · have hmz := oMay_zero hm
        have HM := Lib.hid hm
        clear hm
        have hm2 : (oMay (oAt xs k) != 0) = false := by simpa using HM.out
        obtain ⟨m1, m2, m3, m4⟩ := hmz
        obtain ⟨m1, m1'⟩ := m1
        obtain ⟨m2, m2'⟩ := m2
        have m5 : -1 ≤ (oAt xs k).e ∧ (oAt xs k).e ≤ 9999 := by omega
        obtain ⟨m5, m5'⟩ := m5
        clear m4 m3
        have hwx : Below wo.heap.size wo (wo.alloc (.cells (opC (oAt xs k)).toArray 111)) := by (repeat (first | (with_reducible exact Below.refl _ _) | (with_reducible assumption) | (with_reducible refine below_alloc ?_ _) | (with_reducible refine below_drew ?_) | (with_reducible refine below_drewN ?_ _) | (with_reducible refine below_step ?_ (by with_reducible assumption))))
        have hx : Blk (wo.alloc (.cells (opC (oAt xs k)).toArray 111)) wo.heap.size (opC (oAt xs k)).toArray 111 := Blk.made _ _ _
        unfold opC at hx hwx
        go_wp2_with fail
        refine (ope_may (oAt xs k) _).mono ?_
        rintro e w5 ⟨rfl, hbA⟩
        have hb5 : Below wo.heap.size wo w5 := by (repeat (first | (with_reducible exact Below.refl _ _) | (with_reducible assumption) | (with_reducible refine below_alloc ?_ _) | (with_reducible refine below_drew ?_) | (with_reducible refine below_drewN ?_ _) | (with_reducible refine below_step ?_ (by with_reducible assumption))))
        have hx5 := hx.later hbA
        have HX := Lib.hid hx5
        have x0 := hx5.cell 0; have x1 := hx5.cell 1; have x2 := hx5.cell 2; have x3 := hx5.cell 3; have x4 := hx5.cell 4
        simp at x0 x1 x2 x3 x4
        have HT5 := Lib.hid (HT.out.later hb5); have HL5 := Lib.hid (HLm.out.later hb5)
        have hx5l := hx5.lt
        clear hx5 hx q0 q1 q2 q3 q4 hwx
        have hcur : oOrd xs k (oAt xs k) → oErr xs k = 32 := fun h => by unfold oErr; rw [if_neg (fun h => h HM.out), if_pos h]
        have hiff := oOrd_iff HG.out HM.out
        cases hdS : decide (oTaken xs k (oAt xs k).s)
        rotate_left
        · have HDS := Lib.hid hdS
          have HER : Hid (oErr xs k = 32) := Lib.hid (hcur (hiff.2 (Or.inl (of_decide_eq_true hdS))))
          clear hdS hcur hiff
          cases hdE : decide (oTaken xs k (oAt xs k).e)
          all_goals
            have HDE := Lib.hid hdE
            clear hdE
            go_wp2_with (first | (at_lookup; refine wpList_mlook rfl _ _ 108 rfl 113 Try.underlying108 _ (zero_unit _) mapR_unit w.heap.size (2 * k) (fT xs k) rfl HT5.out _ rfl (by omega) (by omega) (.agg #[]) _ (fT_some _ HDS.out).2 (fT_some _ HDS.out).1 ?_) | (at_lookup; refine wpList_mlook rfl _ _ 108 rfl 113 Try.underlying108 _ (zero_unit _) mapR_unit w.heap.size (2 * k) (fT xs k) rfl (HT5.out.later (below_alloc (Below.refl _ _) _)) _ rfl (by omega) (by omega) (.agg #[]) _ (fT_some _ HDE.out).2 (fT_some _ HDE.out).1 ?_))
            go_quiet (fail)
            go_wp2_with fail
            go_ret2
            exact OChkPost.err (by rw [HXL.out]; exact hlen) (by rw [HXL.out]; exact hlt) HG.out HER.out (by decide) rfl (by (repeat (first | (with_reducible exact Below.refl _ _) | (with_reducible assumption) | (with_reducible refine below_alloc ?_ _) | (with_reducible refine below_drew ?_) | (with_reducible refine below_drewN ?_ _) | (with_reducible refine below_step ?_ (by with_reducible assumption)))))
        · have HDS := Lib.hid hdS
          cases hdE : decide (oTaken xs k (oAt xs k).e)
          rotate_left
          · have HDE := Lib.hid hdE
            have HER : Hid (oErr xs k = 32) := Lib.hid (hcur (hiff.2 (Or.inr (Or.inl (of_decide_eq_true hdE)))))
            clear hdS hcur hiff hdE
            go_wp2_with (first | (at_lookup; refine wpList_mlook rfl _ _ 108 rfl 113 Try.underlying108 _ (zero_unit _) mapR_unit w.heap.size (2 * k) (fT xs k) rfl HT5.out _ rfl (by omega) (by omega) (.agg #[]) _ (fT_some _ HDS.out).2 (fT_some _ HDS.out).1 ?_) | (at_lookup; refine wpList_mlook rfl _ _ 108 rfl 113 Try.underlying108 _ (zero_unit _) mapR_unit w.heap.size (2 * k) (fT xs k) rfl (HT5.out.later (below_alloc (Below.refl _ _) _)) _ rfl (by omega) (by omega) (.agg #[]) _ (fT_some _ HDE.out).2 (fT_some _ HDE.out).1 ?_))
            go_quiet (fail)
            go_wp2_with fail
            go_ret2
            exact OChkPost.err (by rw [HXL.out]; exact hlen) (by rw [HXL.out]; exact hlt) HG.out HER.out (by decide) rfl (by (repeat (first | (with_reducible exact Below.refl _ _) | (with_reducible assumption) | (with_reducible refine below_alloc ?_ _) | (with_reducible refine below_drew ?_) | (with_reducible refine below_drewN ?_ _) | (with_reducible refine below_step ?_ (by with_reducible assumption)))))
          · have HDE := Lib.hid hdE
            have hns := of_decide_eq_false hdS
            have hne := of_decide_eq_false hdE
            clear hdS hdE
            have hls : ∀ o, oLast xs k (oAt xs k).p = some o → oMay o = 0 := fun o h => by
              obtain ⟨j, h1, h2, _⟩ := oLast_some h
              rw [← h2]; exact (oErr_zero (HG.out j h1)).1
            have HLS := Lib.hid hls
            clear hls
            rcases Nat.eq_zero_or_pos k with h0 | h0
            · have g1 : decide (0 < (k : Int)) = false := by simp; omega
              have g2 : decide (0 < k) = false := by simp; omega
              have hno : ¬ oOrd xs k (oAt xs k) := fun ⟨i, hi, _⟩ => by omega
              have HNO := Lib.hid hno
              clear h0 hno hns hne hcur hiff
              go_wp2_with (first | (at_lookup; refine wpList_mlook rfl _ _ 108 rfl 113 Try.underlying108 _ (zero_unit _) mapR_unit w.heap.size (2 * k) (fT xs k) rfl HT5.out _ rfl (by omega) (by omega) (.agg #[]) _ (fT_some _ HDS.out).2 (fT_some _ HDS.out).1 ?_) | (at_lookup; refine wpList_mlook rfl _ _ 108 rfl 113 Try.underlying108 _ (zero_unit _) mapR_unit w.heap.size (2 * k) (fT xs k) rfl (HT5.out.later (below_alloc (Below.refl _ _) _)) _ rfl (by omega) (by omega) (.agg #[]) _ (fT_some _ HDE.out).2 (fT_some _ HDE.out).1 ?_))
              go_quiet (fail)
              cases hL : oLast xs k (oAt xs k).p with
              | none =>
                have HLN := Lib.hid hL
                have HOE : Hid (oErr xs k = 0) := Lib.hid (by unfold oErr; rw [if_neg (fun h => h HM.out), if_neg HNO.out, if_neg (fun h => by obtain ⟨o, h1, _⟩ := (oOpen_iff HG.out HNO.out).1 h; rw [hL] at h1; cases h1)])
                clear hL
                go_wp2_with (at_lookup; refine wpList_mlook rfl _ _ 109 rfl 111 Try.underlying109 _ (zero_oper _) mapR_oz (w.heap.size + 1) k (fL xs k) rfl (HL5.out.later (by (repeat (first | (with_reducible exact Below.refl _ _) | (with_reducible assumption) | (with_reducible refine below_alloc ?_ _) | (with_reducible refine below_drew ?_) | (with_reducible refine below_drewN ?_ _) | (with_reducible refine below_step ?_ (by with_reducible assumption)))))) _ rfl (by omega) (by omega) (.agg #[.int .i64 0, .int .i64 0, .int .i64 0, .int .i64 0, .int .i64 0]) false (by unfold fL; rw [HLN.out]; rfl) (by unfold fL; rw [HLN.out]; rfl) ?_)
                generalize hW8 : (((((w5.alloc (.cells #[] 113)).alloc (.cells #[] 113)).drewN nq).alloc (.cells #[.int .i64 0, .int .i64 0, .int .i64 0, .int .i64 0, .int .i64 0] 111))) = W8
                have hb8 : Below w5.heap.size w5 W8 := by rw [← hW8]; (repeat (first | (with_reducible exact Below.refl _ _) | (with_reducible assumption) | (with_reducible refine below_alloc ?_ _) | (with_reducible refine below_drew ?_) | (with_reducible refine below_drewN ?_ _) | (with_reducible refine below_step ?_ (by with_reducible assumption))))
                clear hW8
                have hT8 := HT5.out.later hb8
                have hL8 := HL5.out.later hb8
                have hbne : wo.heap.size ≠ w.heap.size := by have := HLm.out.lt; omega
                have hbne2 : wo.heap.size ≠ w.heap.size + 1 := by have := HLm.out.lt; omega
                have HT8 := Lib.hid hT8
                have HL8 := Lib.hid hL8
                have hx8 := HX.out.later hb8
                have y0 := hx8.cell 0
                have y1 := hx8.cell 1
                have y2 := hx8.cell 2
                have y3 := hx8.cell 3
                have y4 := hx8.cell 4
                simp at y0 y1 y2 y3 y4
                clear hT8 hL8
                go_region_held3 (fun wx => wx.cell? ⟨wo.heap.size, 0, none⟩ = some (.int .i64 (oAt xs k).p) ∧ wx.cell? ⟨wo.heap.size, 1, none⟩ = some (.int .i64 (oAt xs k).k) ∧ wx.cell? ⟨wo.heap.size, 2, none⟩ = some (.int .i64 (oAt xs k).s) ∧ wx.cell? ⟨wo.heap.size, 3, none⟩ = some (.int .i64 (oAt xs k).e) ∧ wx.cell? ⟨wo.heap.size, 4, none⟩ = some (.int .i64 (oAt xs k).r)) (first | exact ⟨y0, y1, y2, y3, y4⟩ | exact ⟨z0, z1, z2, z3, z4⟩ | exact ⟨v0, v1, v2, v3, v4⟩) (first | (refine upon_mput 108 113 Try.underlying108 w.heap.size (2 * k) (fT xs k) HT8.out.drew (by unfold maxLen; omega) _ (by omega) (by omega) _ mapR_unit ?_; intro w6 hT6 hg6; have hx6 := blk_grown hx8.drew hg6 hbne; have hL6 := HL8.out.drew.grown hg6 (by simp); have z0 := hx6.cell 0; have z1 := hx6.cell 1; have z2 := hx6.cell 2; have z3 := hx6.cell 3; have z4 := hx6.cell 4; simp at z0 z1 z2 z3 z4) | (refine upon_mput 109 111 Try.underlying109 (w.heap.size + 1) k (fL xs k) hL6 (by unfold maxLen; omega) _ (by omega) (by omega) _ (mapR_opV HM.out) ?_; intro w7 hL7 hg7; have hx7 := blk_grown hx6 hg7 hbne2; have hT7 := hT6.grown hg7 (by simp); have v0 := hx7.cell 0; have v1 := hx7.cell 1; have v2 := hx7.cell 2; have v3 := hx7.cell 3; have v4 := hx7.cell 4; simp at v0 v1 v2 v3 v4))
                have hb78 : Below w.heap.size w W8 := by (repeat (first | (with_reducible exact Below.refl _ _) | (with_reducible assumption) | (with_reducible refine below_alloc ?_ _) | (with_reducible refine below_drew ?_) | (with_reducible refine below_drewN ?_ _) | (with_reducible refine below_step ?_ (by with_reducible assumption))))
                have hb7 : Below w.heap.size w w7 := bel_grown (bel_grown (below_drew hb78) hg6 (Nat.le_refl _)) hg7 (by omega)
                have hL7 : IMap w7 (w.heap.size + 1) (k + 1) (fL xs (k + 1)) := by rw [← fL_succ]; exact hL7
                by_cases he : (oAt xs k).e = -1
                · have he2 : ((oAt xs k).e != -1) = false := by simp [he]
                  rw [fT_succ1 xs k he] at hT7
                  have hat := Lib.hid (show OChkAt xs w.heap.size (k + 1) w w7 from ⟨HG.out.succ HOE.out, hT7.mono (by omega), hL7, hb7⟩)
                  clear he hT6 hT7 hL7 hL6 hx6 hx7 hx8 y0 y1 y2 y3 y4 z0 z1 z2 z3 z4
                  go_wp2_with fail
                  go_roundw
                  case rel => exact ⟨k + 1, by omega, by go_num, hat.out⟩
                  case measure => simp [intOf]; omega
                · have he2 : ((oAt xs k).e != -1) = true := by simp [he]
                  have HE := Lib.hid he
                  clear he hT6 hL6 hx6 hx7 hx8 y0 y1 y2 y3 y4 z0 z1 z2 z3 z4
                  go_wp2_with (at_mapUpdate; refine wpList_mput rfl _ _ _ 108 rfl 113 Try.underlying108 w.heap.size (2 * k + 1) _ rfl hT7 (by unfold maxLen; omega) (oAt xs k).e rfl (by omega) (by omega) (.agg #[]) rfl mapR_unit ?_)
                  intro w9 hT9 hg9
                  rw [fT_succ2 xs k HE.out] at hT9
                  have hL9 := hL7.grown hg9 (by simp)
                  have hb9 : Below w.heap.size w w9 := bel_grown hb7 hg9 (Nat.le_refl _)
                  have hat := Lib.hid (show OChkAt xs w.heap.size (k + 1) w w9 from ⟨HG.out.succ HOE.out, hT9.mono (by omega), hL9, hb9⟩)
                  clear hT7 hT9 hL7 hL9 v0 v1 v2 v3 v4 hg9
                  go_wp2_with fail
                  go_roundw
                  case rel => exact ⟨k + 1, by omega, by go_num, hat.out⟩
                  case measure => simp [intOf]; omega
              | some o =>
                have HLN := Lib.hid hL
                have hoz := HLS.out o hL
                have HOZ := Lib.hid hoz
                have hb8 : Below w5.heap.size w5 ((((w5.alloc (.cells #[] 113)).alloc (.cells #[] 113)).drewN nq).alloc (.cells #[.int .i64 o.p, .int .i64 o.k, .int .i64 o.s, .int .i64 o.e, .int .i64 o.r] 111)) := by (repeat (first | (with_reducible exact Below.refl _ _) | (with_reducible assumption) | (with_reducible refine below_alloc ?_ _) | (with_reducible refine below_drew ?_) | (with_reducible refine below_drewN ?_ _) | (with_reducible refine below_step ?_ (by with_reducible assumption))))
                have y0 := cell_later hb8 x0
                have y1 := cell_later hb8 x1
                have y2 := cell_later hb8 x2
                have y3 := cell_later hb8 x3
                have y4 := cell_later hb8 x4
                clear hb8
                cases hA : oAhead o (oAt xs k)
                · have HA := Lib.hid hA
                  have HOE : Hid (oErr xs k = 33) := Lib.hid (by unfold oErr; rw [if_neg (fun h => h HM.out), if_neg HNO.out, if_pos ((oOpen_iff HG.out HNO.out).2 ⟨o, hL, hA⟩)])
                  clear hL hA hoz
                  go_wp2_with (first | (at_lookup; refine wpList_mlook rfl _ _ 109 rfl 111 Try.underlying109 _ (zero_oper _) mapR_oz (w.heap.size + 1) k (fL xs k) rfl (HL5.out.later (by (repeat (first | (with_reducible exact Below.refl _ _) | (with_reducible assumption) | (with_reducible refine below_alloc ?_ _) | (with_reducible refine below_drew ?_) | (with_reducible refine below_drewN ?_ _) | (with_reducible refine below_step ?_ (by with_reducible assumption)))))) _ rfl (by omega) (by omega) (.agg #[.int .i64 o.p, .int .i64 o.k, .int .i64 o.s, .int .i64 o.e, .int .i64 o.r]) true (by unfold fL; rw [HLN.out]; rfl) (by unfold fL; rw [HLN.out]; rfl) ?_) | (go_at_call 88; refine (ope_Ahead o (oAt xs k) _).mono ?_; rintro e w' ⟨rfl, hbB⟩; rw [HA.out]))
                  go_ret2
                  exact OChkPost.err (by rw [HXL.out]; exact hlen) (by rw [HXL.out]; exact hlt) HG.out HOE.out (by decide) rfl (by (repeat (first | (with_reducible exact Below.refl _ _) | (with_reducible assumption) | (with_reducible refine below_alloc ?_ _) | (with_reducible refine below_drew ?_) | (with_reducible refine below_drewN ?_ _) | (with_reducible refine below_step ?_ (by with_reducible assumption)))))
                · have HA := Lib.hid hA
                  have HOE : Hid (oErr xs k = 0) := Lib.hid (by unfold oErr; rw [if_neg (fun h => h HM.out), if_neg HNO.out, if_neg (fun h => by obtain ⟨o', h1, h2⟩ := (oOpen_iff HG.out HNO.out).1 h; rw [hL] at h1; cases h1; rw [hA] at h2; cases h2)])
                  clear hL hA hoz
                  go_wp2_with (first | (at_lookup; refine wpList_mlook rfl _ _ 109 rfl 111 Try.underlying109 _ (zero_oper _) mapR_oz (w.heap.size + 1) k (fL xs k) rfl (HL5.out.later (by (repeat (first | (with_reducible exact Below.refl _ _) | (with_reducible assumption) | (with_reducible refine below_alloc ?_ _) | (with_reducible refine below_drew ?_) | (with_reducible refine below_drewN ?_ _) | (with_reducible refine below_step ?_ (by with_reducible assumption)))))) _ rfl (by omega) (by omega) (.agg #[.int .i64 o.p, .int .i64 o.k, .int .i64 o.s, .int .i64 o.e, .int .i64 o.r]) true (by unfold fL; rw [HLN.out]; rfl) (by unfold fL; rw [HLN.out]; rfl) ?_) | (go_at_call 88; refine (ope_Ahead o (oAt xs k) _).mono ?_; rintro e W8 ⟨rfl, hbB⟩; rw [HA.out]))
                  have hb8 : Below w5.heap.size w5 W8 := by (repeat (first | (with_reducible exact Below.refl _ _) | (with_reducible assumption) | (with_reducible refine below_alloc ?_ _) | (with_reducible refine below_drew ?_) | (with_reducible refine below_drewN ?_ _) | (with_reducible refine below_step ?_ (by with_reducible assumption))))
                  have hT8 := HT5.out.later hb8
                  have hL8 := HL5.out.later hb8
                  have hbne : wo.heap.size ≠ w.heap.size := by have := HLm.out.lt; omega
                  have hbne2 : wo.heap.size ≠ w.heap.size + 1 := by have := HLm.out.lt; omega
                  have HT8 := Lib.hid hT8
                  have HL8 := Lib.hid hL8
                  have hx8 := HX.out.later hb8
                  have y0 := hx8.cell 0
                  have y1 := hx8.cell 1
                  have y2 := hx8.cell 2
                  have y3 := hx8.cell 3
                  have y4 := hx8.cell 4
                  simp at y0 y1 y2 y3 y4
                  clear hT8 hL8
                  go_region_held3 (fun wx => wx.cell? ⟨wo.heap.size, 0, none⟩ = some (.int .i64 (oAt xs k).p) ∧ wx.cell? ⟨wo.heap.size, 1, none⟩ = some (.int .i64 (oAt xs k).k) ∧ wx.cell? ⟨wo.heap.size, 2, none⟩ = some (.int .i64 (oAt xs k).s) ∧ wx.cell? ⟨wo.heap.size, 3, none⟩ = some (.int .i64 (oAt xs k).e) ∧ wx.cell? ⟨wo.heap.size, 4, none⟩ = some (.int .i64 (oAt xs k).r)) (first | exact ⟨y0, y1, y2, y3, y4⟩ | exact ⟨z0, z1, z2, z3, z4⟩ | exact ⟨v0, v1, v2, v3, v4⟩) (first | (refine upon_mput 108 113 Try.underlying108 w.heap.size (2 * k) (fT xs k) HT8.out.drew (by unfold maxLen; omega) _ (by omega) (by omega) _ mapR_unit ?_; intro w6 hT6 hg6; have hx6 := blk_grown hx8.drew hg6 hbne; have hL6 := HL8.out.drew.grown hg6 (by simp); have z0 := hx6.cell 0; have z1 := hx6.cell 1; have z2 := hx6.cell 2; have z3 := hx6.cell 3; have z4 := hx6.cell 4; simp at z0 z1 z2 z3 z4) | (refine upon_mput 109 111 Try.underlying109 (w.heap.size + 1) k (fL xs k) hL6 (by unfold maxLen; omega) _ (by omega) (by omega) _ (mapR_opV HM.out) ?_; intro w7 hL7 hg7; have hx7 := blk_grown hx6 hg7 hbne2; have hT7 := hT6.grown hg7 (by simp); have v0 := hx7.cell 0; have v1 := hx7.cell 1; have v2 := hx7.cell 2; have v3 := hx7.cell 3; have v4 := hx7.cell 4; simp at v0 v1 v2 v3 v4))
                  have hb78 : Below w.heap.size w W8 := by (repeat (first | (with_reducible exact Below.refl _ _) | (with_reducible assumption) | (with_reducible refine below_alloc ?_ _) | (with_reducible refine below_drew ?_) | (with_reducible refine below_drewN ?_ _) | (with_reducible refine below_step ?_ (by with_reducible assumption))))
                  have hb7 : Below w.heap.size w w7 := bel_grown (bel_grown (below_drew hb78) hg6 (Nat.le_refl _)) hg7 (by omega)
                  have hL7 : IMap w7 (w.heap.size + 1) (k + 1) (fL xs (k + 1)) := by rw [← fL_succ]; exact hL7
                  by_cases he : (oAt xs k).e = -1
                  · have he2 : ((oAt xs k).e != -1) = false := by simp [he]
                    rw [fT_succ1 xs k he] at hT7
                    have hat := Lib.hid (show OChkAt xs w.heap.size (k + 1) w w7 from ⟨HG.out.succ HOE.out, hT7.mono (by omega), hL7, hb7⟩)
                    clear he hT6 hT7 hL7 hL6 hx6 hx7 hx8 y0 y1 y2 y3 y4 z0 z1 z2 z3 z4
                    go_wp2_with fail
                    go_roundw
                    case rel => exact ⟨k + 1, by omega, by go_num, hat.out⟩
                    case measure => simp [intOf]; omega
                  · have he2 : ((oAt xs k).e != -1) = true := by simp [he]
                    have HE := Lib.hid he
                    clear he hT6 hL6 hx6 hx7 hx8 y0 y1 y2 y3 y4 z0 z1 z2 z3 z4
                    go_wp2_with (at_mapUpdate; refine wpList_mput rfl _ _ _ 108 rfl 113 Try.underlying108 w.heap.size (2 * k + 1) _ rfl hT7 (by unfold maxLen; omega) (oAt xs k).e rfl (by omega) (by omega) (.agg #[]) rfl mapR_unit ?_)
                    intro w9 hT9 hg9
                    rw [fT_succ2 xs k HE.out] at hT9
                    have hL9 := hL7.grown hg9 (by simp)
                    have hb9 : Below w.heap.size w w9 := bel_grown hb7 hg9 (Nat.le_refl _)
                    have hat := Lib.hid (show OChkAt xs w.heap.size (k + 1) w w9 from ⟨HG.out.succ HOE.out, hT9.mono (by omega), hL9, hb9⟩)
                    clear hT7 hT9 hL7 hL9 v0 v1 v2 v3 v4 hg9
                    go_wp2_with fail
                    go_roundw
                    case rel => exact ⟨k + 1, by omega, by go_num, hat.out⟩
                    case measure => simp [intOf]; omega
            · have g1 : decide (0 < (k : Int)) = true := by simp; omega
              have g2 : decide (0 < k) = true := by simpa using h0
              have n1 : IntKind.i64.wrap ((k : Int) - 1) = (k : Int) - 1 := IntWalk.i64_in _ ⟨by omega, by omega⟩
              have n2 : (0 : Int) ≤ (k : Int) - 1 := by omega
              have n3 : (k : Int) - 1 < (len : Int) := by omega
              have n4 : ((k : Int) - 1).toNat = k - 1 := by omega
              have n5 : (1 : Int) ≤ (k : Int) := by omega
              have hb7 : Below w5.heap.size w5 ((w5.alloc (.cells #[] 113)).alloc (.cells #[] 113)) := by (repeat (first | (with_reducible exact Below.refl _ _) | (with_reducible assumption) | (with_reducible refine below_alloc ?_ _) | (with_reducible refine below_drew ?_) | (with_reducible refine below_drewN ?_ _) | (with_reducible refine below_step ?_ (by with_reducible assumption))))
              have hprev := (HR.out.later (below_step (below_step hbr hb5) hb7)).2.2 (by omega)
              obtain ⟨_, _, e1, hc2⟩ := hprev
              cases e1
              obtain ⟨_, _, p2, _, _⟩ := hc2 (k - 1) (by omega)
              have z2 := cell_later hb7 x2
              clear hc2
              cases hcmp : decide ((oAt xs k).s ≤ (oAt xs (k - 1)).s)
              · have hno : ¬ oOrd xs k (oAt xs k) := fun h => by
                  rcases hiff.1 h with h1 | h1 | h1
                  · exact hns h1
                  · exact hne h1
                  · exact of_decide_eq_false hcmp h1.2
                have HNO := Lib.hid hno
                have HK0 := Lib.hid h0
                have N4 := Lib.hid n4
                clear h0 hno hns hne hcur hiff hb7
                go_wp2_with (first | (at_lookup; refine wpList_mlook rfl _ _ 108 rfl 113 Try.underlying108 _ (zero_unit _) mapR_unit w.heap.size (2 * k) (fT xs k) rfl HT5.out _ rfl (by omega) (by omega) (.agg #[]) _ (fT_some _ HDS.out).2 (fT_some _ HDS.out).1 ?_) | (at_lookup; refine wpList_mlook rfl _ _ 108 rfl 113 Try.underlying108 _ (zero_unit _) mapR_unit w.heap.size (2 * k) (fT xs k) rfl (HT5.out.later (below_alloc (Below.refl _ _) _)) _ rfl (by omega) (by omega) (.agg #[]) _ (fT_some _ HDE.out).2 (fT_some _ HDE.out).1 ?_))
                go_quiet (fail)
                clear n1 n2 n3 n4 n5 p2 z2 hcmp
                cases hL : oLast xs k (oAt xs k).p with
                | none =>
                  have HLN := Lib.hid hL
                  have HOE : Hid (oErr xs k = 0) := Lib.hid (by unfold oErr; rw [if_neg (fun h => h HM.out), if_neg HNO.out, if_neg (fun h => by obtain ⟨o, h1, _⟩ := (oOpen_iff HG.out HNO.out).1 h; rw [hL] at h1; cases h1)])
                  clear hL
                  go_wp2_with (at_lookup; refine wpList_mlook rfl _ _ 109 rfl 111 Try.underlying109 _ (zero_oper _) mapR_oz (w.heap.size + 1) k (fL xs k) rfl (HL5.out.later (by (repeat (first | (with_reducible exact Below.refl _ _) | (with_reducible assumption) | (with_reducible refine below_alloc ?_ _) | (with_reducible refine below_drew ?_) | (with_reducible refine below_drewN ?_ _) | (with_reducible refine below_step ?_ (by with_reducible assumption)))))) _ rfl (by omega) (by omega) (.agg #[.int .i64 0, .int .i64 0, .int .i64 0, .int .i64 0, .int .i64 0]) false (by unfold fL; rw [HLN.out]; rfl) (by unfold fL; rw [HLN.out]; rfl) ?_)
                  generalize hW8 : (((((w5.alloc (.cells #[] 113)).alloc (.cells #[] 113)).drewN nq).alloc (.cells #[.int .i64 0, .int .i64 0, .int .i64 0, .int .i64 0, .int .i64 0] 111))) = W8
                  have hb8 : Below w5.heap.size w5 W8 := by rw [← hW8]; (repeat (first | (with_reducible exact Below.refl _ _) | (with_reducible assumption) | (with_reducible refine below_alloc ?_ _) | (with_reducible refine below_drew ?_) | (with_reducible refine below_drewN ?_ _) | (with_reducible refine below_step ?_ (by with_reducible assumption))))
                  clear hW8
                  have hT8 := HT5.out.later hb8
                  have hL8 := HL5.out.later hb8
                  have hbne : wo.heap.size ≠ w.heap.size := by have := HLm.out.lt; omega
                  have hbne2 : wo.heap.size ≠ w.heap.size + 1 := by have := HLm.out.lt; omega
                  have HT8 := Lib.hid hT8
                  have HL8 := Lib.hid hL8
                  have hx8 := HX.out.later hb8
                  have y0 := hx8.cell 0
                  have y1 := hx8.cell 1
                  have y2 := hx8.cell 2
                  have y3 := hx8.cell 3
                  have y4 := hx8.cell 4
                  simp at y0 y1 y2 y3 y4
                  clear hT8 hL8
                  go_region_held3 (fun wx => wx.cell? ⟨wo.heap.size, 0, none⟩ = some (.int .i64 (oAt xs k).p) ∧ wx.cell? ⟨wo.heap.size, 1, none⟩ = some (.int .i64 (oAt xs k).k) ∧ wx.cell? ⟨wo.heap.size, 2, none⟩ = some (.int .i64 (oAt xs k).s) ∧ wx.cell? ⟨wo.heap.size, 3, none⟩ = some (.int .i64 (oAt xs k).e) ∧ wx.cell? ⟨wo.heap.size, 4, none⟩ = some (.int .i64 (oAt xs k).r)) (first | exact ⟨y0, y1, y2, y3, y4⟩ | exact ⟨z0, z1, z2, z3, z4⟩ | exact ⟨v0, v1, v2, v3, v4⟩) (first | (refine upon_mput 108 113 Try.underlying108 w.heap.size (2 * k) (fT xs k) HT8.out.drew (by unfold maxLen; omega) _ (by omega) (by omega) _ mapR_unit ?_; intro w6 hT6 hg6; have hx6 := blk_grown hx8.drew hg6 hbne; have hL6 := HL8.out.drew.grown hg6 (by simp); have z0 := hx6.cell 0; have z1 := hx6.cell 1; have z2 := hx6.cell 2; have z3 := hx6.cell 3; have z4 := hx6.cell 4; simp at z0 z1 z2 z3 z4) | (refine upon_mput 109 111 Try.underlying109 (w.heap.size + 1) k (fL xs k) hL6 (by unfold maxLen; omega) _ (by omega) (by omega) _ (mapR_opV HM.out) ?_; intro w7 hL7 hg7; have hx7 := blk_grown hx6 hg7 hbne2; have hT7 := hT6.grown hg7 (by simp); have v0 := hx7.cell 0; have v1 := hx7.cell 1; have v2 := hx7.cell 2; have v3 := hx7.cell 3; have v4 := hx7.cell 4; simp at v0 v1 v2 v3 v4))
                  have hb78 : Below w.heap.size w W8 := by (repeat (first | (with_reducible exact Below.refl _ _) | (with_reducible assumption) | (with_reducible refine below_alloc ?_ _) | (with_reducible refine below_drew ?_) | (with_reducible refine below_drewN ?_ _) | (with_reducible refine below_step ?_ (by with_reducible assumption))))
                  have hb7 : Below w.heap.size w w7 := bel_grown (bel_grown (below_drew hb78) hg6 (Nat.le_refl _)) hg7 (by omega)
                  have hL7 : IMap w7 (w.heap.size + 1) (k + 1) (fL xs (k + 1)) := by rw [← fL_succ]; exact hL7
                  by_cases he : (oAt xs k).e = -1
                  · have he2 : ((oAt xs k).e != -1) = false := by simp [he]
                    rw [fT_succ1 xs k he] at hT7
                    have hat := Lib.hid (show OChkAt xs w.heap.size (k + 1) w w7 from ⟨HG.out.succ HOE.out, hT7.mono (by omega), hL7, hb7⟩)
                    clear he hT6 hT7 hL7 hL6 hx6 hx7 hx8 y0 y1 y2 y3 y4 z0 z1 z2 z3 z4
                    go_wp2_with fail
                    go_roundw
                    case rel => exact ⟨k + 1, by omega, by go_num, hat.out⟩
                    case measure => simp [intOf]; omega
                  · have he2 : ((oAt xs k).e != -1) = true := by simp [he]
                    have HE := Lib.hid he
                    clear he hT6 hL6 hx6 hx7 hx8 y0 y1 y2 y3 y4 z0 z1 z2 z3 z4
                    go_wp2_with (at_mapUpdate; refine wpList_mput rfl _ _ _ 108 rfl 113 Try.underlying108 w.heap.size (2 * k + 1) _ rfl hT7 (by unfold maxLen; omega) (oAt xs k).e rfl (by omega) (by omega) (.agg #[]) rfl mapR_unit ?_)
                    intro w9 hT9 hg9
                    rw [fT_succ2 xs k HE.out] at hT9
                    have hL9 := hL7.grown hg9 (by simp)
                    have hb9 : Below w.heap.size w w9 := bel_grown hb7 hg9 (Nat.le_refl _)
                    have hat := Lib.hid (show OChkAt xs w.heap.size (k + 1) w w9 from ⟨HG.out.succ HOE.out, hT9.mono (by omega), hL9, hb9⟩)
                    clear hT7 hT9 hL7 hL9 v0 v1 v2 v3 v4 hg9
                    go_wp2_with fail
                    go_roundw
                    case rel => exact ⟨k + 1, by omega, by go_num, hat.out⟩
                    case measure => simp [intOf]; omega
                | some o =>
                  have HLN := Lib.hid hL
                  have hoz := HLS.out o hL
                  have HOZ := Lib.hid hoz
                  have hb8 : Below w5.heap.size w5 ((((w5.alloc (.cells #[] 113)).alloc (.cells #[] 113)).drewN nq).alloc (.cells #[.int .i64 o.p, .int .i64 o.k, .int .i64 o.s, .int .i64 o.e, .int .i64 o.r] 111)) := by (repeat (first | (with_reducible exact Below.refl _ _) | (with_reducible assumption) | (with_reducible refine below_alloc ?_ _) | (with_reducible refine below_drew ?_) | (with_reducible refine below_drewN ?_ _) | (with_reducible refine below_step ?_ (by with_reducible assumption))))
                  have y0 := cell_later hb8 x0
                  have y1 := cell_later hb8 x1
                  have y2 := cell_later hb8 x2
                  have y3 := cell_later hb8 x3
                  have y4 := cell_later hb8 x4
                  clear hb8
                  cases hA : oAhead o (oAt xs k)
                  · have HA := Lib.hid hA
                    have HOE : Hid (oErr xs k = 33) := Lib.hid (by unfold oErr; rw [if_neg (fun h => h HM.out), if_neg HNO.out, if_pos ((oOpen_iff HG.out HNO.out).2 ⟨o, hL, hA⟩)])
                    clear hL hA hoz
                    go_wp2_with (first | (at_lookup; refine wpList_mlook rfl _ _ 109 rfl 111 Try.underlying109 _ (zero_oper _) mapR_oz (w.heap.size + 1) k (fL xs k) rfl (HL5.out.later (by (repeat (first | (with_reducible exact Below.refl _ _) | (with_reducible assumption) | (with_reducible refine below_alloc ?_ _) | (with_reducible refine below_drew ?_) | (with_reducible refine below_drewN ?_ _) | (with_reducible refine below_step ?_ (by with_reducible assumption)))))) _ rfl (by omega) (by omega) (.agg #[.int .i64 o.p, .int .i64 o.k, .int .i64 o.s, .int .i64 o.e, .int .i64 o.r]) true (by unfold fL; rw [HLN.out]; rfl) (by unfold fL; rw [HLN.out]; rfl) ?_) | (go_at_call 88; refine (ope_Ahead o (oAt xs k) _).mono ?_; rintro e w' ⟨rfl, hbB⟩; rw [HA.out]))
                    go_ret2
                    exact OChkPost.err (by rw [HXL.out]; exact hlen) (by rw [HXL.out]; exact hlt) HG.out HOE.out (by decide) rfl (by (repeat (first | (with_reducible exact Below.refl _ _) | (with_reducible assumption) | (with_reducible refine below_alloc ?_ _) | (with_reducible refine below_drew ?_) | (with_reducible refine below_drewN ?_ _) | (with_reducible refine below_step ?_ (by with_reducible assumption)))))
                  · have HA := Lib.hid hA
                    have HOE : Hid (oErr xs k = 0) := Lib.hid (by unfold oErr; rw [if_neg (fun h => h HM.out), if_neg HNO.out, if_neg (fun h => by obtain ⟨o', h1, h2⟩ := (oOpen_iff HG.out HNO.out).1 h; rw [hL] at h1; cases h1; rw [hA] at h2; cases h2)])
                    clear hL hA hoz
                    go_wp2_with (first | (at_lookup; refine wpList_mlook rfl _ _ 109 rfl 111 Try.underlying109 _ (zero_oper _) mapR_oz (w.heap.size + 1) k (fL xs k) rfl (HL5.out.later (by (repeat (first | (with_reducible exact Below.refl _ _) | (with_reducible assumption) | (with_reducible refine below_alloc ?_ _) | (with_reducible refine below_drew ?_) | (with_reducible refine below_drewN ?_ _) | (with_reducible refine below_step ?_ (by with_reducible assumption)))))) _ rfl (by omega) (by omega) (.agg #[.int .i64 o.p, .int .i64 o.k, .int .i64 o.s, .int .i64 o.e, .int .i64 o.r]) true (by unfold fL; rw [HLN.out]; rfl) (by unfold fL; rw [HLN.out]; rfl) ?_) | (go_at_call 88; refine (ope_Ahead o (oAt xs k) _).mono ?_; rintro e W8 ⟨rfl, hbB⟩; rw [HA.out]))
                    have hb8 : Below w5.heap.size w5 W8 := by (repeat (first | (with_reducible exact Below.refl _ _) | (with_reducible assumption) | (with_reducible refine below_alloc ?_ _) | (with_reducible refine below_drew ?_) | (with_reducible refine below_drewN ?_ _) | (with_reducible refine below_step ?_ (by with_reducible assumption))))
                    have hT8 := HT5.out.later hb8
                    have hL8 := HL5.out.later hb8
                    have hbne : wo.heap.size ≠ w.heap.size := by have := HLm.out.lt; omega
                    have hbne2 : wo.heap.size ≠ w.heap.size + 1 := by have := HLm.out.lt; omega
                    have HT8 := Lib.hid hT8
                    have HL8 := Lib.hid hL8
                    have hx8 := HX.out.later hb8
                    have y0 := hx8.cell 0
                    have y1 := hx8.cell 1
                    have y2 := hx8.cell 2
                    have y3 := hx8.cell 3
                    have y4 := hx8.cell 4
                    simp at y0 y1 y2 y3 y4
                    clear hT8 hL8
                    go_region_held3 (fun wx => wx.cell? ⟨wo.heap.size, 0, none⟩ = some (.int .i64 (oAt xs k).p) ∧ wx.cell? ⟨wo.heap.size, 1, none⟩ = some (.int .i64 (oAt xs k).k) ∧ wx.cell? ⟨wo.heap.size, 2, none⟩ = some (.int .i64 (oAt xs k).s) ∧ wx.cell? ⟨wo.heap.size, 3, none⟩ = some (.int .i64 (oAt xs k).e) ∧ wx.cell? ⟨wo.heap.size, 4, none⟩ = some (.int .i64 (oAt xs k).r)) (first | exact ⟨y0, y1, y2, y3, y4⟩ | exact ⟨z0, z1, z2, z3, z4⟩ | exact ⟨v0, v1, v2, v3, v4⟩) (first | (refine upon_mput 108 113 Try.underlying108 w.heap.size (2 * k) (fT xs k) HT8.out.drew (by unfold maxLen; omega) _ (by omega) (by omega) _ mapR_unit ?_; intro w6 hT6 hg6; have hx6 := blk_grown hx8.drew hg6 hbne; have hL6 := HL8.out.drew.grown hg6 (by simp); have z0 := hx6.cell 0; have z1 := hx6.cell 1; have z2 := hx6.cell 2; have z3 := hx6.cell 3; have z4 := hx6.cell 4; simp at z0 z1 z2 z3 z4) | (refine upon_mput 109 111 Try.underlying109 (w.heap.size + 1) k (fL xs k) hL6 (by unfold maxLen; omega) _ (by omega) (by omega) _ (mapR_opV HM.out) ?_; intro w7 hL7 hg7; have hx7 := blk_grown hx6 hg7 hbne2; have hT7 := hT6.grown hg7 (by simp); have v0 := hx7.cell 0; have v1 := hx7.cell 1; have v2 := hx7.cell 2; have v3 := hx7.cell 3; have v4 := hx7.cell 4; simp at v0 v1 v2 v3 v4))
                    have hb78 : Below w.heap.size w W8 := by (repeat (first | (with_reducible exact Below.refl _ _) | (with_reducible assumption) | (with_reducible refine below_alloc ?_ _) | (with_reducible refine below_drew ?_) | (with_reducible refine below_drewN ?_ _) | (with_reducible refine below_step ?_ (by with_reducible assumption))))
                    have hb7 : Below w.heap.size w w7 := bel_grown (bel_grown (below_drew hb78) hg6 (Nat.le_refl _)) hg7 (by omega)
                    have hL7 : IMap w7 (w.heap.size + 1) (k + 1) (fL xs (k + 1)) := by rw [← fL_succ]; exact hL7
                    by_cases he : (oAt xs k).e = -1
                    · have he2 : ((oAt xs k).e != -1) = false := by simp [he]
                      rw [fT_succ1 xs k he] at hT7
                      have hat := Lib.hid (show OChkAt xs w.heap.size (k + 1) w w7 from ⟨HG.out.succ HOE.out, hT7.mono (by omega), hL7, hb7⟩)
                      clear he hT6 hT7 hL7 hL6 hx6 hx7 hx8 y0 y1 y2 y3 y4 z0 z1 z2 z3 z4
                      go_wp2_with fail
                      go_roundw
                      case rel => exact ⟨k + 1, by omega, by go_num, hat.out⟩
                      case measure => simp [intOf]; omega
                    · have he2 : ((oAt xs k).e != -1) = true := by simp [he]
                      have HE := Lib.hid he
                      clear he hT6 hL6 hx6 hx7 hx8 y0 y1 y2 y3 y4 z0 z1 z2 z3 z4
                      go_wp2_with (at_mapUpdate; refine wpList_mput rfl _ _ _ 108 rfl 113 Try.underlying108 w.heap.size (2 * k + 1) _ rfl hT7 (by unfold maxLen; omega) (oAt xs k).e rfl (by omega) (by omega) (.agg #[]) rfl mapR_unit ?_)
                      intro w9 hT9 hg9
                      rw [fT_succ2 xs k HE.out] at hT9
                      have hL9 := hL7.grown hg9 (by simp)
                      have hb9 : Below w.heap.size w w9 := bel_grown hb7 hg9 (Nat.le_refl _)
                      have hat := Lib.hid (show OChkAt xs w.heap.size (k + 1) w w9 from ⟨HG.out.succ HOE.out, hT9.mono (by omega), hL9, hb9⟩)
                      clear hT7 hT9 hL7 hL9 v0 v1 v2 v3 v4 hg9
                      go_wp2_with fail
                      go_roundw
                      case rel => exact ⟨k + 1, by omega, by go_num, hat.out⟩
                      case measure => simp [intOf]; omega
              · have HER : Hid (oErr xs k = 32) := Lib.hid (hcur (hiff.2 (Or.inr (Or.inr ⟨h0, of_decide_eq_true hcmp⟩))))
                clear h0 hns hne hcur hiff hb7
                go_wp2_with (first | (at_lookup; refine wpList_mlook rfl _ _ 108 rfl 113 Try.underlying108 _ (zero_unit _) mapR_unit w.heap.size (2 * k) (fT xs k) rfl HT5.out _ rfl (by omega) (by omega) (.agg #[]) _ (fT_some _ HDS.out).2 (fT_some _ HDS.out).1 ?_) | (at_lookup; refine wpList_mlook rfl _ _ 108 rfl 113 Try.underlying108 _ (zero_unit _) mapR_unit w.heap.size (2 * k) (fT xs k) rfl (HT5.out.later (below_alloc (Below.refl _ _) _)) _ rfl (by omega) (by omega) (.agg #[]) _ (fT_some _ HDE.out).2 (fT_some _ HDE.out).1 ?_))
                go_quiet (fail)
                clear n1 n2 n3 n4 n5 p2 z2 hcmp
                go_wp2_with fail
                go_ret2
                exact OChkPost.err (by rw [HXL.out]; exact hlen) (by rw [HXL.out]; exact hlt) HG.out HER.out (by decide) rfl (by (repeat (first | (with_reducible exact Below.refl _ _) | (with_reducible assumption) | (with_reducible refine below_alloc ?_ _) | (with_reducible refine below_drew ?_) | (with_reducible refine below_drewN ?_ _) | (with_reducible refine below_step ?_ (by with_reducible assumption)))))
    · have hkn : k = len := by omega
      have HKN := Lib.hid hkn; clear hkn
      go_wp2_with fail
      go_ret2
      exact ⟨_, _, rfl, Or.inr (Or.inr ⟨by rw [HXL.out]; exact hlen, by rw [HXL.out, ← HKN.out]; exact HG.out, by rw [HXL.out], rfl⟩), hbr⟩
end Go.Proofs.Ythfcbjfeepindaa
