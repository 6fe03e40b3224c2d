/- The contract of the reference's Clauses. -/
import Derived.Test.YthfcbjfeepindaaTimC
import Derived.Test.YthfcbjfeepindaaPlaR
namespace Go.Proofs.Ythfcbjfeepindaa
open Go.RowKit
set_option linter.unusedVariables false
set_option linter.unusedSimpArgs false

theorem tCounts_cases (n x y : Int) : (tCounts n x y = false ∧ (decide (x < 0) = true ∨ (decide (x < 0) = false ∧ (decide (y < 0) = true ∨ (decide (y < 0) = false ∧ (decide (n ≤ x) = true ∨ (decide (n ≤ x) = false ∧ (decide (n ≤ y) = true ∨ (decide (n ≤ y) = false ∧ (x == y) = true))))))))) ∨
    (tCounts n x y = true ∧ decide (x < 0) = false ∧ decide (y < 0) = false ∧ decide (n ≤ x) = false ∧ decide (n ≤ y) = false ∧ (x == y) = false) := by
  unfold tCounts
  simp only [decide_eq_true_eq, decide_eq_false_iff_not, beq_iff_eq, beq_eq_false_iff_ne, ne_eq]
  omega

set_option maxRecDepth 100000 in
set_option maxHeartbeats 2000000 in
theorem ref_Clauses33 (o s : Int) (a : Option Addr) (m cap : Nat) (ps : List (Int × Int)) (w : World) (hr : PairRow w a m ps) (hm : m ≤ 100000) :
    Calls Try.prog 49 #[.int .i64 o, .int .i64 s, .slice a m cap] w fun e w' => ∃ v, e = .returned v ∧ OwnRows w' w.heap.size 0 v (tC o s ps) ∧ Below w.heap.size w w' := by
  by_cases hok : nOk o s
  rotate_left
  · have HC := Lib.hid (nCheck_no hok)
    have HT : Hid (tC o s ps = []) := Lib.hid (by unfold tC; rw [if_neg hok])
    clear hok hr
    by_cases h0 : 0 < m
    · have h1 : (0 : Int) < (m : Int) := by omega
      go_enter Try.func49, Try.ntmps49
      go_wp2_with fail
      refine wp_loop_rounds 1 ?_
      rw [rounds_succ]
      go_wp2_with (go_at_call 26; refine (ref_Check31 _ _ _).mono ?_; rintro e w' ⟨rfl, rfl⟩; rw [HC.out])
      go_ret
      exact ⟨_, rfl, by rw [HT.out]; exact OwnRows.nil _ _ _, by (repeat (first | (with_reducible exact Below.refl _ _) | (with_reducible assumption) | (with_reducible refine below_alloc ?_ _) | (with_reducible refine below_drew ?_) | (with_reducible refine below_drewN ?_ _) | (with_reducible refine below_step ?_ (by with_reducible assumption))))⟩
    · have h1 : m = 0 := by omega
      subst h1
      clear h0
      go_enter Try.func49, Try.ntmps49
      go_wp2_with fail
      refine wp_loop_rounds 1 ?_
      rw [rounds_succ]
      go_wp2_with fail
      go_ret
      exact ⟨_, rfl, by rw [HT.out]; exact OwnRows.nil _ _ _, by (repeat (first | (with_reducible exact Below.refl _ _) | (with_reducible assumption) | (with_reducible refine below_alloc ?_ _) | (with_reducible refine below_drew ?_) | (with_reducible refine below_drewN ?_ _) | (with_reducible refine below_step ?_ (by with_reducible assumption))))⟩
  have HC := Lib.hid (nCheck_yes hok)
  obtain ⟨n, rfl⟩ : ∃ n : Nat, o = n := ⟨o.toNat, by unfold nOk at hok; omega⟩
  have HT : Hid (tC n s ps = tUp n s ps m) := Lib.hid (by unfold tC; rw [if_pos hok, hr.1])
  have hn64 : n ≤ 64 := by unfold nOk at hok; omega
  have HR := Lib.hid hr
  have HOK := Lib.hid hok
  clear hok hr
  go_enter Try.func49, Try.ntmps49
  go_wp2_with fail
  go_loopw [7, 8] (fun v i wr => ∃ k : Nat, k ≤ m ∧ i = .int .i64 k ∧ OwnRows wr w.heap.size 0 v (tUp n s ps k) ∧ Below w.heap.size w wr) (fun _ i _ => m - (intOf i).toNat)
  case atStart => exact ⟨0, Nat.zero_le _, rfl, OwnRows.nil _ _ _, Below.refl _ _⟩
  case round =>
    obtain ⟨k, hk, rfl, hown, hb⟩ := hrel
    have HO := Lib.hid hown
    clear hown
    have t1 : (0 : Int) ≤ (k : Int) := by omega
    by_cases hlt : k < m
    · have hra := HR.out.later hb
      obtain ⟨b, off, rfl, hc⟩ := hra.2.2 (by omega)
      obtain ⟨q0, q1⟩ := hc k hlt
      have t2 : (k : Int) < (m : Int) := by omega
      have HUS := Lib.hid (tUp_succ n s ps k)
      have HUL := Lib.hid (tUp_len n s ps k (by omega))
      clear hc hra
      generalize prAt ps k = p at *
      obtain ⟨x, y⟩ := p
      dsimp only at q0 q1
      have hlb := World.block_lt_of_cell? wr _ q0
      dsimp only at hlb
      rcases tCounts_cases n x y with ⟨hcnt, hd⟩ | ⟨hcnt, d1, d2, d3, d4, d5⟩
      · have HE : Hid (tUp n s ps (k + 1) = tUp n s ps k) := Lib.hid (by rw [HUS.out]; unfold tPart; rw [hcnt, if_neg (by decide), List.append_nil])
        clear hcnt
        rcases hd with d1 | ⟨d1, d2 | ⟨d2, d3 | ⟨d3, d4 | ⟨d4, d5⟩⟩⟩⟩
        all_goals
          go_wp2_with (go_at_call 26; refine (ref_Check31 _ _ _).mono ?_; rintro e w' ⟨rfl, rfl⟩; rw [HC.out])
          go_quiet (fail)
          go_wp2_with fail
          go_roundw
          case rel => exact ⟨k + 1, by omega, by go_num, by rw [HE.out]; exact HO.out.later (by (repeat (first | (with_reducible exact Below.refl _ _) | (with_reducible assumption) | (with_reducible refine below_alloc ?_ _) | (with_reducible refine below_drew ?_) | (with_reducible refine below_drewN ?_ _) | (with_reducible refine below_step ?_ (by with_reducible assumption))))), by (repeat (first | (with_reducible exact Below.refl _ _) | (with_reducible assumption) | (with_reducible refine below_alloc ?_ _) | (with_reducible refine below_drew ?_) | (with_reducible refine below_drewN ?_ _) | (with_reducible refine below_step ?_ (by with_reducible assumption))))⟩
          case measure => simp [intOf]; omega
      · have HE : Hid (tUp n s ps (k + 1) = tUp n s ps k ++ tRowP n s (x, y) n) := Lib.hid (by rw [HUS.out]; unfold tPart; rw [hcnt, if_pos rfl, Int.toNat_natCast])
        clear hcnt
        have HPS := Lib.hid (tRowP_succ n s (x, y))
        have HPL := Lib.hid (fun j hj => tRowP_len n s (x, y) j n hj)
        have HAS := Lib.hid (tRowA_succ n s (x, y))
        have HAL := Lib.hid (tRowA_len n s (x, y))
        have e1 : 0 ≤ x := by have := of_decide_eq_false d1; omega
        have e2 : 0 ≤ y := by have := of_decide_eq_false d2; omega
        have e3 : x < n := by have := of_decide_eq_false d3; omega
        have e4 : y < n := by have := of_decide_eq_false d4; omega
        go_wp2_with (go_at_call 26; refine (ref_Check31 _ _ _).mono ?_; rintro e w' ⟨rfl, rfl⟩; rw [HC.out])
        go_quiet (fail)
        go_wp2_with fail
        clear q0 q1
        go_loopw [7, 11] (fun v i wx => ∃ j : Nat, j ≤ n ∧ i = .int .i64 j ∧ OwnRows wx w.heap.size 0 v (tUp n s ps k ++ tRowP n s (x, y) j) ∧ Below w.heap.size w wx) (fun _ i _ => n - (intOf i).toNat)
        case atStart => exact ⟨0, Nat.zero_le _, rfl, by simpa [tRowP] using HO.out.later (by (repeat (first | (with_reducible exact Below.refl _ _) | (with_reducible assumption) | (with_reducible refine below_alloc ?_ _) | (with_reducible refine below_drew ?_) | (with_reducible refine below_drewN ?_ _) | (with_reducible refine below_step ?_ (by with_reducible assumption))))), by (repeat (first | (with_reducible exact Below.refl _ _) | (with_reducible assumption) | (with_reducible refine below_alloc ?_ _) | (with_reducible refine below_drew ?_) | (with_reducible refine below_drewN ?_ _) | (with_reducible refine below_step ?_ (by with_reducible assumption))))⟩
        case round =>
          obtain ⟨j, hj, rfl, hown, hb⟩ := hrel
          have HO := Lib.hid hown
          clear hown
          by_cases hltj : j < n
          · go_wp2_with fail
            go_loopw [7, 12] (fun v i wx => ∃ t : Nat, t ≤ j ∧ i = .int .i64 t ∧ OwnRows wx w.heap.size 0 v ((tUp n s ps k ++ tRowP n s (x, y) j) ++ tRowA n s (x, y) j t) ∧ Below w.heap.size w wx) (fun _ i _ => j - (intOf i).toNat)
            case atStart => exact ⟨0, Nat.zero_le _, rfl, by simpa [tRowA] using HO.out, hb⟩
            case round =>
              obtain ⟨t, ht, rfl, hown, hb⟩ := hrel
              by_cases hltt : t < j
              · have HO2 := Lib.hid hown
                obtain ⟨vs, hv1, hv2, hv3⟩ := hown
                have hlen : ((tUp n s ps k ++ tRowP n s (x, y) j) ++ tRowA n s (x, y) j t).length ≤ 500000000 := by
                  have h1 := HUL.out; have h2 := HPL.out j hj; have h3 := HAL.out j t
                  have h4 : j * n ≤ 64 * 64 := Nat.mul_le_mul (by omega) hn64
                  rw [List.length_append, List.length_append]; omega
                have HS2 : Hid ((tUp n s ps k ++ tRowP n s (x, y) j) ++ tRowA n s (x, y) j (t + 1) = ((tUp n s ps k ++ tRowP n s (x, y) j) ++ tRowA n s (x, y) j t) ++ [tRow n s (x, y) j t]) := Lib.hid (by rw [HAS.out]; simp only [List.append_assoc])
                generalize ((tUp n s ps k ++ tRowP n s (x, y) j) ++ tRowA n s (x, y) j t) = X at *
                generalize hN : X.length = N at *
                have HN := Lib.hid hN; clear hN
                have HV1 := Lib.hid hv1; clear hv1
                have HV3 := Lib.hid hv3; clear hv3
                have hsz := hb.size
                go_wp2_with (first | (go_at_call 81; refine (ref_At n s _ _ _ HOK.out (by assumption) (by assumption) (by omega) (by omega)).mono ?_; rintro e w' ⟨rfl, rfl⟩) | (at_builtin; refine wpList_app rfl _ _ 43 rfl w.heap.size 41 (.slice none 0 0) 1 24 Try.underlying43 info_ints rfl (by decide) _ _ _ rfl ((hv2.alloc _).alloc _) (some ⟨wr.heap.size + 1, 0, none⟩) 1 1 [.slice (some ⟨wr.heap.size, 0, none⟩) 2 2] rfl ?c0 rfl ?c1 ?c2 ?c3 ?c4 ?c5 ?_))
                case c0 => exact fun h => by cases h
                case c1 => exact CellRow.made2 wr _ _ _
                case c2 => intro u hu; simp at hu; subst hu; rfl
                case c3 => unfold maxLen; omega
                case c4 => omega
                case c5 => simp; omega
                intro v' w7 hown1 hgr
                obtain ⟨hnew, hbw7⟩ := OwnRows.push (xs := tRow n s (x, y) j t) (Nat.zero_le _) HN.out hb HV1.out hv2 HV3.out (by simp [tRow, maxLen]) _ hown1 hgr
                rw [← HS2.out] at hnew
                have HNEW := Lib.hid hnew
                clear hown1 hgr hv2 hnew
                go_wp2_with fail
                go_roundw
                case rel => exact ⟨t + 1, by omega, by go_num, HNEW.out, hbw7⟩
                case measure => simp [intOf]; omega
              · have HT2 : Hid (t = j) := Lib.hid (by omega)
                have HO2 := Lib.hid hown
                clear hown
                go_wp2_with fail
                go_roundw
                case rel => exact ⟨j + 1, by omega, by go_num, by rw [HPS.out, ← List.append_assoc, ← HT2.out]; rw [← HT2.out] at HO2; exact HO2.out, by (repeat (first | (with_reducible exact Below.refl _ _) | (with_reducible assumption) | (with_reducible refine below_alloc ?_ _) | (with_reducible refine below_drew ?_) | (with_reducible refine below_drewN ?_ _) | (with_reducible refine below_step ?_ (by with_reducible assumption))))⟩
                case measure => simp [intOf]; omega
          · have HJ : Hid (j = n) := Lib.hid (by omega)
            go_wp2_with fail
            go_roundw
            case rel => exact ⟨k + 1, by omega, by go_num, by have h := HO.out; rw [HJ.out] at h; rw [HE.out]; exact h, by (repeat (first | (with_reducible exact Below.refl _ _) | (with_reducible assumption) | (with_reducible refine below_alloc ?_ _) | (with_reducible refine below_drew ?_) | (with_reducible refine below_drewN ?_ _) | (with_reducible refine below_step ?_ (by with_reducible assumption))))⟩
            case measure => simp [intOf]; omega
    · have HK : Hid (k = m) := Lib.hid (by omega)
      go_wp2_with fail
      go_ret
      exact ⟨_, rfl, by rw [HT.out, ← HK.out]; exact HO.out, hb⟩
end Go.Proofs.Ythfcbjfeepindaa
