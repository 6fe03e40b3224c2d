/- The contracts of the reference's Pending and Pairs. -/
import Derived.Test.YthfcbjfeepindaaOpeR
namespace Go.Proofs.Ythfcbjfeepindaa
open Go.RowKit
set_option linter.unusedVariables false
set_option linter.unusedSimpArgs false

set_option maxRecDepth 100000 in
set_option maxHeartbeats 1000000 in
theorem ref_Pending27 (a : Option Addr) (len cap : Nat) (xs : List Op5) (w : World) (hr : OpRow w a len xs) (hlen : len ≤ 100000) :
    Calls Try.prog 102 #[.slice a len cap] w fun e w' => ∃ v, e = .returned v ∧ OwnInts w' w.heap.size v (oPend xs) ∧ Below w.heap.size w w' := by
  have hl5 := hr.2.1; unfold maxLen at hl5
  have hxl := hr.1
  have HR := Lib.hid hr
  have HXL : Hid (oPend xs = oPendUp xs len) := Lib.hid (by unfold oPend oPendUp; rw [hxl])
  clear hr hxl
  go_enter Try.func102, Try.ntmps102
  go_wp2_with fail
  go_loopw [3, 4] (fun v i wr => ∃ k : Nat, k ≤ len ∧ i = .int .i64 k ∧ OwnInts wr w.heap.size v (oPendUp xs k) ∧ Below w.heap.size w wr) (fun _ i _ => len - (intOf i).toNat)
  case atStart => exact ⟨0, Nat.zero_le _, rfl, OwnInts.nil _ _, Below.refl _ _⟩
  case round =>
    obtain ⟨k, hk, rfl, hl, hbr⟩ := hrel
    by_cases hlt : k < len
    · have hra := HR.out.later hbr
      obtain ⟨b, off, rfl, hc⟩ := hra.2.2 (by omega)
      obtain ⟨q0, q1, q2, q3, q4⟩ := hc k hlt
      have hs1 := oPendUp_succ xs k
      have hpl := oPendUp_len xs k
      have t1 : (0 : Int) ≤ (k : Int) := by omega
      have t2 : (k : Int) < (len : Int) := by omega
      clear hc hra
      by_cases he : (oAt xs k).e = -1
      · have d1 : ((oAt xs k).e == -1) = true := by simpa using he
        have HS : Hid (oPendUp xs (k + 1) = oPendUp xs k ++ [(k : Int)]) := Lib.hid (by rw [hs1, if_pos he])
        clear hs1 he
        generalize oAt xs k = o at *
        generalize hX : oPendUp xs k = X at *
        have HX := Lib.hid hX
        generalize hN : X.length = N at *
        have HN := Lib.hid hN
        unfold OwnInts at hl
        rw [hN] at hl
        have hsz := hbr.size
        clear hX hN
        go_wp2_with (at_builtin; refine wpList_app rfl _ _ 41 rfl w.heap.size 3 (.int .i64 0) 1 8 Try.underlying41 info_int rfl (by decide) _ _ _ rfl (hl.alloc _) (some ⟨wr.heap.size, 0, none⟩) 1 1 [.int .i64 (k)] rfl ?c0 rfl ?c1 ?c2 ?c3 ?c4 ?c5 ?_)
        (case c0 => exact fun h => by cases h); (case c1 => exact CellRow.made wr _ _); (case c2 => intro u hu; simp at hu; subst hu; rfl); (case c3 => unfold maxLen; omega); (case c4 => omega); (case c5 => simp; omega)
        intro v' w1 hown1 hgr
        obtain ⟨hnew, hbw⟩ := OwnInts.push HN.out hbr hl _ hown1 hgr
        clear hown1 hgr hl
        go_wp2_with fail
        go_roundw
        case rel => exact ⟨k + 1, by omega, by go_num, by rw [HS.out]; exact hnew, hbw⟩
        case measure => simp [intOf]; omega
      · have d1 : ((oAt xs k).e == -1) = false := by simpa using he
        have HS : Hid (oPendUp xs (k + 1) = oPendUp xs k) := Lib.hid (by rw [hs1, if_neg he])
        clear hs1 he
        generalize oAt xs k = o at *
        have HL := Lib.hid hl
        clear hl
        go_wp2_with fail
        go_roundw
        case rel => exact ⟨k + 1, by omega, by go_num, by rw [HS.out]; exact HL.out.later (by (repeat (first | (with_reducible exact Below.refl _ _) | (with_reducible assumption) | (with_reducible refine below_alloc ?_ _) | (with_reducible refine below_drew ?_) | (with_reducible refine below_drewN ?_ _) | (with_reducible refine below_step ?_ (by with_reducible assumption))))), by (repeat (first | (with_reducible exact Below.refl _ _) | (with_reducible assumption) | (with_reducible refine below_alloc ?_ _) | (with_reducible refine below_drew ?_) | (with_reducible refine below_drewN ?_ _) | (with_reducible refine below_step ?_ (by with_reducible assumption))))⟩
        case measure => simp [intOf]; omega
    · have hkn : k = len := by omega
      subst hkn
      have HL := Lib.hid hl
      clear hl
      go_wp2_with fail
      go_ret
      exact ⟨_, rfl, by rw [HXL.out]; exact HL.out, hbr⟩

set_option maxRecDepth 100000 in
set_option maxHeartbeats 2000000 in
theorem ref_Pairs27 (a : Option Addr) (len cap : Nat) (xs : List Op5) (w : World) (hr : OpRow w a len xs) (hlen : len ≤ 5000) :
    Calls Try.prog 101 #[.slice a len cap] w fun e w' => ∃ v, e = .returned v ∧ OwnPairs w' w.heap.size v (oPairs xs) ∧ Below w.heap.size w w' := by
  have hxl := hr.1
  have HR := Lib.hid hr
  have HXL : Hid (oPairs xs = oPairUp xs len len) := Lib.hid (by unfold oPairs oPairUp; rw [hxl])
  clear hr hxl
  go_enter Try.func101, Try.ntmps101
  go_wp2_with fail
  go_loopw [3, 4] (fun v i wr => ∃ k : Nat, k ≤ len ∧ i = .int .i64 k ∧ OwnPairs wr w.heap.size v (oPairUp xs len k) ∧ Below w.heap.size w wr) (fun _ i _ => len - (intOf i).toNat)
  case atStart => exact ⟨0, Nat.zero_le _, rfl, OwnPairs.nil _ _, Below.refl _ _⟩
  case round =>
    obtain ⟨k, hk, rfl, hl, hbr⟩ := hrel
    obtain ⟨wo, rfl⟩ : ∃ wo : World, wo = wr := ⟨_, rfl⟩
    by_cases hlt : k < len
    · have HS := Lib.hid (oPairUp_succ xs len k)
      have HPL := Lib.hid (oPairUp_len xs len k)
      have HRL := Lib.hid (oPairRow_len xs k)
      have HRS := Lib.hid (oPairRow_succ xs k)
      have t1 : (0 : Int) ≤ (k : Int) := by omega
      have t2 : (k : Int) < (len : Int) := by omega
      have HL := Lib.hid hl
      clear hl
      go_wp2_with fail
      go_loopw [3, 5] (fun v i wx => ∃ j : Nat, j ≤ len ∧ i = .int .i64 j ∧ OwnPairs wx w.heap.size v (oPairUp xs len k ++ oPairRow xs k j) ∧ Below w.heap.size w wx) (fun _ i _ => len - (intOf i).toNat)
      case atStart => exact ⟨0, Nat.zero_le _, rfl, by simpa [oPairRow] using HL.out, hbr⟩
      case round =>
        obtain ⟨j, hj, rfl, hl, hbw⟩ := hrel
        by_cases hltj : j < len
        · have hra := HR.out.later hbw
          obtain ⟨b, off, rfl, hc⟩ := hra.2.2 (by omega)
          obtain ⟨x0, x1, x2, x3, x4⟩ := hc k hlt
          obtain ⟨p0, p1, p2, p3, p4⟩ := hc j hltj
          have hrs := HRS.out j
          have hrl := HRL.out j
          have hpl := HPL.out
          have hkl : k * len ≤ 5000 * 5000 := Nat.mul_le_mul (by omega) hlen
          have u1 : (0 : Int) ≤ (j : Int) := by omega
          have u2 : (j : Int) < (len : Int) := by omega
          have HLL := Lib.hid hl
          clear hc hra hl
          cases hA : oAhead (oAt xs k) (oAt xs j)
          · have HA := Lib.hid hA
            have HS2 : Hid (oPairRow xs k (j + 1) = oPairRow xs k j) := Lib.hid (by rw [hrs, hA, if_neg (by decide)])
            clear hrs hA hpl hrl hkl
            go_wp2_with fail
            go_region_held3 (fun wx => Below wr.heap.size wr wx ∧ wx.cell? ⟨b, off + k * 5, none⟩ = some (.int .i64 (oAt xs k).p) ∧ wx.cell? ⟨b, off + k * 5 + 1, none⟩ = some (.int .i64 (oAt xs k).k) ∧ wx.cell? ⟨b, off + k * 5 + 2, none⟩ = some (.int .i64 (oAt xs k).s) ∧ wx.cell? ⟨b, off + k * 5 + 3, none⟩ = some (.int .i64 (oAt xs k).e) ∧ wx.cell? ⟨b, off + k * 5 + 4, none⟩ = some (.int .i64 (oAt xs k).r) ∧ wx.cell? ⟨b, off + j * 5, none⟩ = some (.int .i64 (oAt xs j).p) ∧ wx.cell? ⟨b, off + j * 5 + 1, none⟩ = some (.int .i64 (oAt xs j).k) ∧ wx.cell? ⟨b, off + j * 5 + 2, none⟩ = some (.int .i64 (oAt xs j).s) ∧ wx.cell? ⟨b, off + j * 5 + 3, none⟩ = some (.int .i64 (oAt xs j).e) ∧ wx.cell? ⟨b, off + j * 5 + 4, none⟩ = some (.int .i64 (oAt xs j).r)) ((refine ⟨?_, ?_, ?_, ?_, ?_, ?_, ?_, ?_, ?_, ?_, ?_⟩; (repeat (first | (with_reducible exact Below.refl _ _) | (with_reducible assumption) | (with_reducible refine below_alloc ?_ _) | (with_reducible refine below_drew ?_) | (with_reducible refine below_drewN ?_ _) | (with_reducible refine below_step ?_ (by with_reducible assumption)))); all_goals (refine cell_later (w := wr) ?_ ?_ <;> (repeat (first | (with_reducible exact Below.refl _ _) | (with_reducible assumption) | (with_reducible refine below_alloc ?_ _) | (with_reducible refine below_drew ?_) | (with_reducible refine below_drewN ?_ _) | (with_reducible refine below_step ?_ (by with_reducible assumption))))))) (first | (go_at_call 114; refine (ref_Ahead27 (oAt xs k) (oAt xs j) _).mono ?_; rintro e w5 ⟨rfl, hbM⟩; rw [HA.out]))
            rename_i hHeld
            have hB := hHeld.1
            clear hHeld
            go_wp2_with fail
            go_roundw
            case rel => exact ⟨j + 1, by omega, by go_num, by rw [HS2.out]; exact HLL.out.later hB, by (repeat (first | (with_reducible exact Below.refl _ _) | (with_reducible assumption) | (with_reducible refine below_alloc ?_ _) | (with_reducible refine below_drew ?_) | (with_reducible refine below_drewN ?_ _) | (with_reducible refine below_step ?_ (by with_reducible assumption))))⟩
            case measure => simp [intOf]; omega
          · have HA := Lib.hid hA
            have HS2 : Hid (oPairUp xs len k ++ oPairRow xs k (j + 1) = (oPairUp xs len k ++ oPairRow xs k j) ++ [((k : Int), (j : Int))]) := Lib.hid (by rw [hrs, hA, if_pos rfl, List.append_assoc])
            have hlen2 : (oPairUp xs len k ++ oPairRow xs k j).length ≤ 26000000 := by rw [List.length_append]; omega
            generalize hX : oPairUp xs len k ++ oPairRow xs k j = X at *
            generalize hN : X.length = N at *
            have HN := Lib.hid hN
            clear hX hrs hA hpl hrl hkl
            go_wp2_with fail
            go_region_held3 (fun wx => Below wr.heap.size wr wx ∧ wx.cell? ⟨b, off + k * 5, none⟩ = some (.int .i64 (oAt xs k).p) ∧ wx.cell? ⟨b, off + k * 5 + 1, none⟩ = some (.int .i64 (oAt xs k).k) ∧ wx.cell? ⟨b, off + k * 5 + 2, none⟩ = some (.int .i64 (oAt xs k).s) ∧ wx.cell? ⟨b, off + k * 5 + 3, none⟩ = some (.int .i64 (oAt xs k).e) ∧ wx.cell? ⟨b, off + k * 5 + 4, none⟩ = some (.int .i64 (oAt xs k).r) ∧ wx.cell? ⟨b, off + j * 5, none⟩ = some (.int .i64 (oAt xs j).p) ∧ wx.cell? ⟨b, off + j * 5 + 1, none⟩ = some (.int .i64 (oAt xs j).k) ∧ wx.cell? ⟨b, off + j * 5 + 2, none⟩ = some (.int .i64 (oAt xs j).s) ∧ wx.cell? ⟨b, off + j * 5 + 3, none⟩ = some (.int .i64 (oAt xs j).e) ∧ wx.cell? ⟨b, off + j * 5 + 4, none⟩ = some (.int .i64 (oAt xs j).r)) ((refine ⟨?_, ?_, ?_, ?_, ?_, ?_, ?_, ?_, ?_, ?_, ?_⟩; (repeat (first | (with_reducible exact Below.refl _ _) | (with_reducible assumption) | (with_reducible refine below_alloc ?_ _) | (with_reducible refine below_drew ?_) | (with_reducible refine below_drewN ?_ _) | (with_reducible refine below_step ?_ (by with_reducible assumption)))); all_goals (refine cell_later (w := wr) ?_ ?_ <;> (repeat (first | (with_reducible exact Below.refl _ _) | (with_reducible assumption) | (with_reducible refine below_alloc ?_ _) | (with_reducible refine below_drew ?_) | (with_reducible refine below_drewN ?_ _) | (with_reducible refine below_step ?_ (by with_reducible assumption))))))) (first | (go_at_call 114; refine (ref_Ahead27 (oAt xs k) (oAt xs j) _).mono ?_; rintro e w5 ⟨rfl, hbM⟩; rw [HA.out]))
            rename_i hHeld
            have hB := hHeld.1
            clear hHeld
            have hl5 := HLL.out.later hB
            unfold OwnPairs at hl5
            rw [hN] at hl5
            have hbw5 : Below w.heap.size w w5 := by (repeat (first | (with_reducible exact Below.refl _ _) | (with_reducible assumption) | (with_reducible refine below_alloc ?_ _) | (with_reducible refine below_drew ?_) | (with_reducible refine below_drewN ?_ _) | (with_reducible refine below_step ?_ (by with_reducible assumption))))
            have hsz := hbw5.size
            clear hN x0 x1 x2 x3 x4 p0 p1 p2 p3 p4
            go_wp2_with (at_builtin; refine wpList_app rfl _ _ 63 rfl w.heap.size 70 (.agg #[.int .i64 0, .int .i64 0]) 2 16 Try.underlying63 info_pair rfl (by decide) _ _ _ rfl (hl5.alloc _) (some ⟨w5.heap.size, 0, none⟩) 1 1 [.int .i64 k, .int .i64 j] rfl ?c0 rfl ?c1 ?c2 ?c3 ?c4 ?c5 ?_)
            case c0 => exact fun h => by cases h
            case c1 => exact CellRow.made w5 _ _
            case c2 => intro u hu; simp at hu; rcases hu with rfl | rfl <;> rfl
            case c3 => unfold maxLen; omega
            case c4 => omega
            case c5 => simp; omega
            intro v' w1 hown1 hgr
            obtain ⟨hnew, hbw1⟩ := OwnPairs.push (y := ((k : Int), (j : Int))) HN.out hbw5 hl5 _ hown1 hgr
            rw [← HS2.out] at hnew
            clear hown1 hgr hl5
            go_wp2_with fail
            go_roundw
            case rel => exact ⟨j + 1, by omega, by go_num, hnew, hbw1⟩
            case measure => simp [intOf]; omega
        · have hjn : j = len := by omega
          have HJN := Lib.hid hjn; clear hjn
          rw [HJN.out, ← HS.out] at hl
          go_wp2_with fail
          go_roundw
          case rel => exact ⟨k + 1, by omega, by go_num, hl, hbw⟩
          case measure => simp [intOf]; omega
    · have hkn : k = len := by omega
      have HKN := Lib.hid hkn; clear hkn
      rw [HKN.out] at hl
      have HL := Lib.hid hl
      clear hl
      go_wp2_with fail
      go_ret
      exact ⟨_, rfl, by rw [HXL.out]; exact HL.out, hbr⟩
end Go.Proofs.Ythfcbjfeepindaa
