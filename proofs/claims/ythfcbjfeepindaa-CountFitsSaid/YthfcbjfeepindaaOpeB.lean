/- The contract of oper.Pending and of its reference. -/
import Derived.Test.YthfcbjfeepindaaOpe
namespace Go.Proofs.Ythfcbjfeepindaa
open Go.RowKit
set_option linter.unusedVariables false
set_option linter.unusedSimpArgs false

def oPendUp (xs : List Op5) (k : Nat) : List Int := ((List.range k).filter fun i => decide ((oAt xs i).e = -1)).map fun i : Nat => (i : Int)
theorem oPendUp_succ (xs : List Op5) (k : Nat) : oPendUp xs (k + 1) = if (oAt xs k).e = -1 then oPendUp xs k ++ [(k : Int)] else oPendUp xs k := by
  unfold oPendUp
  rw [List.range_succ, List.filter_append, List.map_append]
  by_cases h : (oAt xs k).e = -1 <;> simp [h]
theorem oPendUp_len (xs : List Op5) (k : Nat) : (oPendUp xs k).length ≤ k := by
  unfold oPendUp
  rw [List.length_map]
  exact Nat.le_trans (List.length_filter_le _ _) (by simp)

set_option maxHeartbeats 1000000 in
set_option maxRecDepth 100000 in
theorem ope_Pending (a : Option Addr) (len cap : Nat) (xs : List Op5) (w : World) (hr : OpRow w a len xs) (hlen : len ≤ 100000) :
    Calls Try.prog 98 #[.slice a len cap] w fun e w' => ∃ v, e = .returned v ∧ OwnInts w' w.heap.size v (oPend xs) ∧ Below w.heap.size w w' := by
  have hl5 := hr.2.1; unfold maxLen at hl5
  have hxl := hr.1
  have HR := Lib.hid hr
  have HXL : Hid (oPend xs = oPendUp xs len) := Lib.hid (by unfold oPend oPendUp; rw [hxl])
  clear hr hxl
  go_enter Try.func98, Try.ntmps98
  go_wp2_with fail
  go_loopw [3, 4, 5, 8] (fun v x y i wr => ∃ k : Nat, k ≤ len ∧ i = .int .i64 k ∧ OwnInts wr w.heap.size v (oPendUp xs k) ∧ Below w.heap.size w wr) (fun _ _ _ i _ => len - (intOf i).toNat)
  case atStart => exact ⟨0, Nat.zero_le _, rfl, OwnInts.nil _ _, Below.refl _ _⟩
  case round =>
    obtain ⟨k, hk, rfl, hl, hbr⟩ := hrel
    by_cases hlt : k < len
    · have hra := HR.out.later hbr
      obtain ⟨b, off, rfl, hc⟩ := hra.2.2 (by omega)
      obtain ⟨q0, q1, q2, q3, q4⟩ := hc k hlt
      have hs1 := oPendUp_succ xs k
      have hpl := oPendUp_len xs k
      have t1 : (0 : Int) ≤ (k : Int) := by omega
      have t2 : (k : Int) < (len : Int) := by omega
      clear hc hra
      by_cases he : (oAt xs k).e = -1
      · have d1 : ((oAt xs k).e == -1) = true := by simpa using he
        have HS : Hid (oPendUp xs (k + 1) = oPendUp xs k ++ [(k : Int)]) := Lib.hid (by rw [hs1, if_pos he])
        clear hs1 he
        generalize oAt xs k = o at *
        generalize hX : oPendUp xs k = X at *
        have HX := Lib.hid hX
        generalize hN : X.length = N at *
        have HN := Lib.hid hN
        unfold OwnInts at hl
        rw [hN] at hl
        have hsz := hbr.size
        clear hX hN
        go_wp2_with (at_builtin; refine wpList_app rfl _ _ 41 rfl w.heap.size 3 (.int .i64 0) 1 8 Try.underlying41 info_int rfl (by decide) _ _ _ rfl ((hl.alloc _).alloc _) (some ⟨wr.heap.size + 1, 0, none⟩) 1 1 [.int .i64 (k)] rfl ?c0 rfl ?c1 ?c2 ?c3 ?c4 ?c5 ?_)
        (case c0 => exact fun h => by cases h); (case c1 => exact CellRow.made2 wr _ _ _); (case c2 => intro u hu; simp at hu; subst hu; rfl); (case c3 => unfold maxLen; omega); (case c4 => omega); (case c5 => simp; omega)
        intro v' w1 hown1 hgr
        obtain ⟨hnew, hbw⟩ := OwnInts.push (w := w) (wr := wr.alloc _) HN.out (below_alloc hbr _) (hl.alloc _) _ hown1 hgr
        clear hown1 hgr hl
        go_wp2_with fail
        go_roundw
        case rel => exact ⟨k + 1, by omega, by go_num, by rw [HS.out]; exact hnew, hbw⟩
        case measure => simp [intOf]; omega
      · have d1 : ((oAt xs k).e == -1) = false := by simpa using he
        have HS : Hid (oPendUp xs (k + 1) = oPendUp xs k) := Lib.hid (by rw [hs1, if_neg he])
        clear hs1 he
        generalize oAt xs k = o at *
        have HL := Lib.hid hl
        clear hl
        go_wp2_with fail
        go_roundw
        case rel => exact ⟨k + 1, by omega, by go_num, by rw [HS.out]; exact HL.out.later (by (repeat (first | (with_reducible exact Below.refl _ _) | (with_reducible assumption) | (with_reducible refine below_alloc ?_ _) | (with_reducible refine below_drew ?_) | (with_reducible refine below_drewN ?_ _) | (with_reducible refine below_step ?_ (by with_reducible assumption))))), by (repeat (first | (with_reducible exact Below.refl _ _) | (with_reducible assumption) | (with_reducible refine below_alloc ?_ _) | (with_reducible refine below_drew ?_) | (with_reducible refine below_drewN ?_ _) | (with_reducible refine below_step ?_ (by with_reducible assumption))))⟩
        case measure => simp [intOf]; omega
    · have hkn : k = len := by omega
      subst hkn
      have HL := Lib.hid hl
      clear hl
      go_wp2_with fail
      go_ret
      exact ⟨_, rfl, by rw [HXL.out]; exact HL.out, hbr⟩
end Go.Proofs.Ythfcbjfeepindaa
