/- The contract of times.Against. -/
import Derived.Test.YthfcbjfeepindaaTimP
namespace Go.Proofs.Ythfcbjfeepindaa
open Go.RowKit
set_option linter.unusedVariables false
set_option linter.unusedSimpArgs false

theorem mapR_int {x : Int} (h1 : -9223372036854775808 ≤ x) (h2 : x ≤ 9223372036854775807) : (mapR (.int .i64 x)).isSome = true := by
  simp [mapR, wf_int h1 h2]
theorem zero_int (w : World) : (zeroValue 3).run Try.prog w = .ok (.int .i64 0) w := by kernel_rfl
theorem tBad_eq (l : List Int) (p : Int × Int) : tBad l p = (decide (tPl l p.1 < l.length) && (decide (tPl l p.2 < l.length) && decide ((if tPl l p.2 < l.length then (tPl l p.2 : Int) else 0) < (if tPl l p.1 < l.length then (tPl l p.1 : Int) else 0)))) := by
  unfold tBad
  rw [Bool.eq_iff_iff]
  simp only [Bool.and_eq_true, decide_eq_true_eq]
  constructor
  · intro h
    have h2 : tPl l p.2 < l.length := by omega
    refine ⟨h.2, h2, ?_⟩
    rw [if_pos h2, if_pos h.2]; omega
  · rintro ⟨h1, h2, h3⟩
    rw [if_pos h2, if_pos h1] at h3; exact ⟨by omega, h1⟩

set_option maxRecDepth 100000 in
set_option maxHeartbeats 2000000 in
theorem tim_Against (a : Option Addr) (len cap : Nat) (l : List Int) (a2 : Option Addr) (m cap2 : Nat) (ps : List (Int × Int)) (w : World) (hr : IntRow w a len l) (hlen : len ≤ 100000) (hr2 : PairRow w a2 m ps)
    (hbd : ∀ i, i < len → -9223372036854775808 ≤ l.getD i 0 ∧ l.getD i 0 ≤ 9223372036854775807) (hbd2 : ∀ i, i < m → (-9223372036854775808 ≤ (prAt ps i).1 ∧ (prAt ps i).1 ≤ 9223372036854775807) ∧ (-9223372036854775808 ≤ (prAt ps i).2 ∧ (prAt ps i).2 ≤ 9223372036854775807)) :
    Calls Try.prog 44 #[.slice a len cap, .slice a2 m cap2] w fun e w' => e = .returned (.tuple #[.int .i64 (tAg l ps), .bool (tAgOk l ps)]) ∧ Below w.heap.size w w' := by
  have hll := hr.1
  have hm := hr2.2.1; unfold maxLen at hm
  have HR := Lib.hid hr; have HR2 := Lib.hid hr2
  have HBD := Lib.hid hbd; have HBD2 := Lib.hid hbd2
  have HLL := Lib.hid hll
  have hbm : Below w.heap.size w (w.alloc (.map #[] 0)) := by (repeat (first | (with_reducible exact Below.refl _ _) | (with_reducible assumption) | (with_reducible refine below_alloc ?_ _) | (with_reducible refine below_drew ?_) | (with_reducible refine below_drewN ?_ _) | (with_reducible refine below_step ?_ (by with_reducible assumption))))
  have hM0 : IMap (w.alloc (.map #[] 0)) w.heap.size 0 (mF l 0) := by rw [mF_zero]; exact IMap.made w
  have HM0 := Lib.hid hM0
  clear hr hr2 hbd hbd2 hll hM0
  have hmm := @run_makeMap Try.prog
  go_enter Try.func44, Try.ntmps44
  go_wp2_with fail
  clear hmm
  go_loopw [20] (fun i wr => ∃ k : Nat, k ≤ len ∧ i = .int .i64 k ∧ IMap wr w.heap.size k (mF l k) ∧ Below w.heap.size w wr) (fun i _ => len - (intOf i).toNat)
  case atStart => exact ⟨0, Nat.zero_le _, rfl, HM0.out, hbm⟩
  case round =>
    obtain ⟨k, hk, rfl, hM, hb⟩ := hrel
    have HM := Lib.hid hM
    clear hM
    have t1 : (0 : Int) ≤ (k : Int) := by omega
    by_cases hlt : k < len
    · have hra := HR.out.later hb
      obtain ⟨b, off, rfl, hc⟩ := hra.2.2 (by omega)
      have hck := hc k hlt
      have t2 : (k : Int) < (len : Int) := by omega
      obtain ⟨n1, n2⟩ := HBD.out k hlt
      clear hc hra
      by_cases hin : tPl l (l.getD k 0) < k
      · have HE := Lib.hid (mF_keep (l := l) (k := k) (by rw [HLL.out]; exact hlt) hin)
        have hg := mF_get l k (l.getD k 0)
        rw [decide_eq_true hin] at hg
        have HG := Lib.hid hg
        clear hin hg
        generalize l.getD k 0 = z at *
        generalize (if tPl l z < k then (tPl l z : Int) else 0) = va at *
        go_wp2_with (at_lookup; (refine wpList_mlook rfl _ _ 103 rfl 3 Try.underlying103 _ (zero_int _) (mapR_int (by decide) (by decide)) w.heap.size k (mF l k) rfl HM.out z rfl n1 n2 _ _ HG.out.1 HG.out.2 ?_))
        go_roundw
        case rel => exact ⟨k + 1, by omega, by go_num, by rw [HE.out]; exact HM.out.mono (by omega), hb⟩
        case measure => simp [intOf]; omega
      · have HE := Lib.hid (mF_put (l := l) (k := k) (by rw [HLL.out]; exact hlt) hin)
        have hg := mF_get l k (l.getD k 0)
        rw [decide_eq_false hin] at hg
        have HG := Lib.hid hg
        clear hin hg
        generalize l.getD k 0 = z at *
        generalize (if tPl l z < k then (tPl l z : Int) else 0) = va at *
        go_wp2_with (first | (at_lookup; refine wpList_mlook rfl _ _ 103 rfl 3 Try.underlying103 _ (zero_int _) (mapR_int (by decide) (by decide)) w.heap.size k (mF l k) rfl HM.out z rfl n1 n2 _ _ HG.out.1 HG.out.2 ?_) | (at_mapUpdate; refine wpList_mput rfl _ _ _ 103 rfl 3 Try.underlying103 w.heap.size k _ rfl HM.out (by unfold maxLen; omega) z rfl n1 n2 (.int .i64 k) rfl (mapR_int (by omega) (by omega)) ?_))
        intro w7 hM7 hgr
        have hb7 := bel_grown hb hgr (Nat.le_refl _)
        rw [← HE.out] at hM7
        have HM7 := Lib.hid hM7
        clear hM7 hgr
        go_wp2_with fail
        go_roundw
        case rel => exact ⟨k + 1, by omega, by go_num, HM7.out, hb7⟩
        case measure => simp [intOf]; omega
    · have hkn : k = len := by omega
      have HMl : Hid (IMap wr w.heap.size len (mF l len)) := Lib.hid (by rw [← hkn]; exact HM.out)
      clear HM hkn t1 hk
      go_wp2_with fail
      clear hlt
      go_loopw [39] (fun i wx => ∃ j : Nat, j ≤ m ∧ i = .int .i64 j ∧ (∀ i, i < j → tBad l (prAt ps i) = false) ∧ IMap wx w.heap.size len (mF l len) ∧ Below w.heap.size w wx) (fun i _ => m - (intOf i).toNat)
      case atStart => exact ⟨0, Nat.zero_le _, rfl, fun i hi => by omega, HMl.out, hb⟩
      case round =>
        obtain ⟨j, hj, rfl, hno, hM, hbx⟩ := hrel
        have HM := Lib.hid hM
        have HNO := Lib.hid hno
        clear hM hno
        have t1 : (0 : Int) ≤ (j : Int) := by omega
        by_cases hlt : j < m
        · have hra := HR2.out.later hbx
          obtain ⟨b, off, rfl, hc⟩ := hra.2.2 (by omega)
          obtain ⟨q0, q1⟩ := hc j hlt
          have t2 : (j : Int) < (m : Int) := by omega
          obtain ⟨⟨n1, n2⟩, n3, n4⟩ := HBD2.out j hlt
          have hbad := tBad_eq l (prAt ps j)
          rw [HLL.out] at hbad
          have hg1 := mF_get l len (prAt ps j).1
          have hg2 := mF_get l len (prAt ps j).2
          generalize (if tPl l (prAt ps j).1 < len then (tPl l (prAt ps j).1 : Int) else 0) = va at *
          generalize (if tPl l (prAt ps j).2 < len then (tPl l (prAt ps j).2 : Int) else 0) = vb at *
          generalize decide (tPl l (prAt ps j).1 < len) = ca at *
          generalize decide (tPl l (prAt ps j).2 < len) = cb at *
          have HG1 := Lib.hid hg1; have HG2 := Lib.hid hg2
          have HML := Lib.hid HR2.out.1
          clear hc hra hg1 hg2
          generalize hp1 : (prAt ps j).1 = p1 at *
          generalize hp2 : (prAt ps j).2 = p2 at *
          clear hp1 hp2
          cases hd : decide (vb < va)
          all_goals
            rw [hd] at hbad
            cases ca
            all_goals
              cases cb
              all_goals
                have HB := Lib.hid hbad
                clear hbad
                go_wp2_with (first | (at_lookup; refine wpList_mlook rfl _ _ 103 rfl 3 Try.underlying103 _ (zero_int _) (mapR_int (by decide) (by decide)) w.heap.size len (mF l len) rfl (HM.out.later (by (repeat (first | (with_reducible exact Below.refl _ _) | (with_reducible assumption) | (with_reducible refine below_alloc ?_ _) | (with_reducible refine below_drew ?_) | (with_reducible refine below_drewN ?_ _) | (with_reducible refine below_step ?_ (by with_reducible assumption)))))) p1 rfl n1 n2 _ _ HG1.out.1 HG1.out.2 ?_) | (at_lookup; refine wpList_mlook rfl _ _ 103 rfl 3 Try.underlying103 _ (zero_int _) (mapR_int (by decide) (by decide)) w.heap.size len (mF l len) rfl (HM.out.later (by (repeat (first | (with_reducible exact Below.refl _ _) | (with_reducible assumption) | (with_reducible refine below_alloc ?_ _) | (with_reducible refine below_drew ?_) | (with_reducible refine below_drewN ?_ _) | (with_reducible refine below_step ?_ (by with_reducible assumption)))))) p2 rfl n3 n4 _ _ HG2.out.1 HG2.out.2 ?_))
                first
                | go_roundw
                  case rel => exact ⟨j + 1, by omega, by go_num, (fun i hi => by
                    by_cases hij : i = j
                    · rw [hij]; exact HB.out
                    · exact HNO.out i (by omega)), HM.out.later (by (repeat (first | (with_reducible exact Below.refl _ _) | (with_reducible assumption) | (with_reducible refine below_alloc ?_ _) | (with_reducible refine below_drew ?_) | (with_reducible refine below_drewN ?_ _) | (with_reducible refine below_step ?_ (by with_reducible assumption))))), by (repeat (first | (with_reducible exact Below.refl _ _) | (with_reducible assumption) | (with_reducible refine below_alloc ?_ _) | (with_reducible refine below_drew ?_) | (with_reducible refine below_drewN ?_ _) | (with_reducible refine below_step ?_ (by with_reducible assumption))))⟩
                  case measure => simp [intOf]; omega
                | go_ret2
                  have e1 := tAg_hit (l := l) (ps := ps) (k := j) (by rw [HML.out]; exact hlt) HNO.out HB.out
                  refine ⟨ret_intb (by rw [e1]) ?_, by (repeat (first | (with_reducible exact Below.refl _ _) | (with_reducible assumption) | (with_reducible refine below_alloc ?_ _) | (with_reducible refine below_drew ?_) | (with_reducible refine below_drewN ?_ _) | (with_reducible refine below_step ?_ (by with_reducible assumption))))⟩
                  unfold tAgOk
                  exact (decide_eq_false (by rw [e1, HML.out]; omega)).symm
        · have hjn : j = m := by omega
          have HML := Lib.hid HR2.out.1
          have HJ := Lib.hid hjn
          clear hjn
          go_wp2_with fail
          go_ret2
          have e1 := tAg_none (l := l) (ps := ps) (fun i hi => HNO.out i (by rw [HML.out] at hi; rw [HJ.out]; exact hi))
          refine ⟨ret_intb (by rw [e1, HML.out]) ?_, by (repeat (first | (with_reducible exact Below.refl _ _) | (with_reducible assumption) | (with_reducible refine below_alloc ?_ _) | (with_reducible refine below_drew ?_) | (with_reducible refine below_drewN ?_ _) | (with_reducible refine below_step ?_ (by with_reducible assumption))))⟩
          unfold tAgOk
          exact (decide_eq_true e1).symm
end Go.Proofs.Ythfcbjfeepindaa
