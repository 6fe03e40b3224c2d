/- The contract of the reference's states.Truths. -/
import Derived.Test.YthfcbjfeepindaaStaU
namespace Go.Proofs.Ythfcbjfeepindaa
open Go.RowKit
set_option linter.unusedVariables false
set_option linter.unusedSimpArgs false

set_option maxRecDepth 100000 in
set_option maxHeartbeats 1000000 in
theorem ref_Truths34 (o s : Int) (ra : Option Addr) (rl rc : Nat) (row : List Int) (w : World) (hr : IntRow w ra rl row) :
    Calls Try.prog 57 #[.int .i64 o, .int .i64 s, .slice ra rl rc] w (StTruPost o s rl row w) := by
  have hrm := hr.2.1; unfold maxLen at hrm
  have HR := Lib.hid hr
  clear hr
  by_cases hok : nOk o s
  · obtain ⟨n, rfl⟩ : ∃ n : Nat, o = n := ⟨o.toNat, by have := hok.1; omega⟩
    obtain ⟨m, rfl⟩ : ∃ m : Nat, s = m := ⟨s.toNat, by have := hok.2.2.1; omega⟩
    have hk : (nCheck n m != 0) = false := by rw [nCheck_yes hok]; rfl
    have hn64 : n ≤ 64 ∧ 1 ≤ m ∧ m ≤ 32 := by unfold nOk at hok; omega
    have HOK := Lib.hid hok
    by_cases hrl : rl = n + 1
    · have hV6 := stVars_le hok
      have hnn := nOk_sq hok
      have hmk := run_make_row' (P := Try.prog) 49 4 (.bool false) 1 Try.underlying49 info_bool rfl .i64 .i64 (n * n + n) (by omega) (by omega)
      rw [show ((n * n + n : Nat) : Int) = (n : Int) * n + n by push_cast; rfl] at hmk
      have HLOW := Lib.hid (stTs_low (row := row) hok)
      have HTL := Lib.hid (stTs_length n m row (n + 1))
      subst hrl
      have hgd : (((n + 1 : Nat) : Int) != (n : Int) + 1) = false := by simp
      obtain ⟨rb, ro, rfl, hrc⟩ := HR.out.2.2 (by omega)
      have HRC := Lib.hid hrc
      clear hok hrc
      go_enter Try.func57, Try.ntmps57
      go_wp2_with (go_at_call 26; refine (ref_Check31 _ _ _).mono ?_; rintro e w' ⟨rfl, rfl⟩)
      go_loopw [8, 9] (fun v i wr => ∃ k : Nat, k ≤ n + 1 ∧ i = .int .i64 k ∧ stMay n m row k ∧ OwnBools wr w.heap.size v ((stTs n m row (n + 1)).take (n * n + n + k * m)) ∧ Below w.heap.size w wr) (fun _ i _ => n + 1 - (intOf i).toNat)
      case atStart =>
        refine ⟨0, Nat.zero_le _, rfl, fun a ha => by omega, ?_, by (repeat (first | (with_reducible exact Below.refl _ _) | (with_reducible assumption) | (with_reducible refine below_alloc ?_ _) | (with_reducible refine below_drew ?_) | (with_reducible refine below_drewN ?_ _) | (with_reducible refine below_step ?_ (by with_reducible assumption))))⟩
        rw [show n * n + n + 0 * m = n * n + n by omega, HLOW.out]
        have hb := bblk_own (B := w.heap.size) (w := w.alloc (.cells (madeCells #[.bool false] (n * n + n)) 4)) (b := w.heap.size) (xs := List.replicate (n * n + n) false) (by rw [← madeBools]; exact Blk.made _ _ _) (Nat.le_refl _) (by rw [List.length_replicate]; unfold maxLen; omega)
        rw [List.length_replicate] at hb
        exact hb
      case round =>
        obtain ⟨k, hk, rfl, hmay, hl, hbr⟩ := hrel
        clear hmk hnn
        have HMAY := Lib.hid hmay; clear hmay
        by_cases hlt : k < n + 1
        · have hle : (k : Int) ≤ n := by omega
          have hck := cell_later hbr (HRC.out k hlt)
          have hlt2 : (k : Int) < (n : Int) + 1 := by omega
          by_cases hbad : row.getD k 0 < 0 ∨ (m : Int) ≤ row.getD k 0
          · have HBAD : Hid (¬ (0 ≤ row.getD k 0 ∧ row.getD k 0 < m)) := Lib.hid (by omega)
            have HNM : Hid (¬ stMay n m row (n + 1)) := Lib.hid (fun h => HBAD.out (h k hlt))
            generalize row.getD k 0 = x at *
            rcases hbad with hbad | hbad
            · go_wp2_with fail
              go_ret2
              exact StTruPost.no (fun h => HNM.out (by simpa using h.2.2)) rfl hbr
            · have hnn : ¬ x < 0 := by omega
              go_wp2_with fail
              go_ret2
              exact StTruPost.no (fun h => HNM.out (by simpa using h.2.2)) rfl hbr
          · have HGOOD : Hid (0 ≤ row.getD k 0 ∧ row.getD k 0 < m) := Lib.hid (by omega)
            have hx0 : ¬ row.getD k 0 < 0 := by omega
            have hx1 : ¬ (m : Int) ≤ row.getD k 0 := by omega
            have HTK : Hid (∀ j, j < m → (stTs n m row (n + 1)).take (n * n + n + k * m + (j + 1)) = (stTs n m row (n + 1)).take (n * n + n + k * m + j) ++ [decide ((j : Int) = row.getD k 0)]) := Lib.hid (fun j hj => stTs_take HOK.out hlt hj)
            have HLEN : Hid (∀ j, j ≤ m → ((stTs n m row (n + 1)).take (n * n + n + k * m + j)).length = n * n + n + k * m + j) := Lib.hid (fun j hj => by
              rw [List.length_take, HTL.out]
              have h1 : (k + 1) * m ≤ (n + 1) * m := Nat.mul_le_mul_right _ (by omega)
              have h2 : (k + 1) * m = k * m + m := by rw [Nat.add_mul, Nat.one_mul]
              omega)
            have HQ6 : Hid (n * n + n + k * m + m ≤ 6240) := Lib.hid (by
              have h1 : (k + 1) * m ≤ (n + 1) * m := Nat.mul_le_mul_right _ (by omega)
              have h2 : (k + 1) * m = k * m + m := by rw [Nat.add_mul, Nat.one_mul]
              omega)
            have HNXT : Hid (n * n + n + (k + 1) * m = n * n + n + k * m + m) := Lib.hid (by rw [Nat.add_mul]; omega)
            have HX := Lib.hid (show row.getD k 0 = row.getD k 0 from rfl)
            generalize hxe : row.getD k 0 = x at *
            have HXE := Lib.hid hxe; clear hxe hbad
            generalize n * n + n + k * m = q at *
            go_wp2_with fail
            go_loopw [8, 10] (fun v i wx => ∃ j : Nat, j ≤ m ∧ i = .int .i64 j ∧ OwnBools wx w.heap.size v ((stTs n m row (n + 1)).take (q + j)) ∧ Below w.heap.size w wx) (fun _ i _ => m - (intOf i).toNat)
            case atStart => exact ⟨0, Nat.zero_le _, rfl, hl, hbr⟩
            case round =>
              obtain ⟨j, hj, rfl, hl, hbx⟩ := hrel
              by_cases hltj : j < m
              · have hck := cell_later hbx (HRC.out k hlt)
                rw [HXE.out] at hck
                have HLN := Lib.hid (HLEN.out j (by omega))
                have hq6 := HQ6.out
                unfold OwnBools at hl
                rw [HLN.out] at hl
                have hsz := hbx.size
                by_cases hjx : (j : Int) = x
                · have HD : Hid (decide ((j : Int) = x) = true) := Lib.hid (decide_eq_true hjx)
                  have hjb : ((j : Int) == x) = true := by simpa using hjx
                  clear hjx
                  go_wp2_with (at_builtin; refine wpList_app rfl _ _ 49 rfl w.heap.size 4 (.bool false) 1 1 Try.underlying49 info_bool rfl (by decide) _ _ _ rfl (hl.alloc _) (some ⟨wr.heap.size, 0, none⟩) 1 1 [.bool (true)] rfl ?c0 rfl ?c1 ?c2 ?c3 ?c4 ?c5 ?_)
                  (case c0 => exact fun h => by cases h); (case c1 => exact CellRow.made wr _ _); (case c2 => intro u hu; simp at hu; subst hu; rfl); (case c3 => unfold maxLen; omega); (case c4 => omega); (case c5 => simp; omega)
                  intro v' w1 hown1 hgr
                  rw [← List.map_take] at hown1
                  obtain ⟨hnew, hbw⟩ := OwnBools.push HLN.out hbx hl _ hown1 hgr
                  clear hown1 hgr hl
                  go_wp2_with fail
                  go_roundw
                  case rel => exact ⟨j + 1, by omega, by go_num, by rw [HTK.out j hltj, HD.out]; exact hnew, hbw⟩
                  case measure => simp [intOf]; omega
                · have HD : Hid (decide ((j : Int) = x) = false) := Lib.hid (decide_eq_false hjx)
                  have hjb : ((j : Int) == x) = false := by simpa using hjx
                  clear hjx
                  go_wp2_with (at_builtin; refine wpList_app rfl _ _ 49 rfl w.heap.size 4 (.bool false) 1 1 Try.underlying49 info_bool rfl (by decide) _ _ _ rfl (hl.alloc _) (some ⟨wr.heap.size, 0, none⟩) 1 1 [.bool (false)] rfl ?c0 rfl ?c1 ?c2 ?c3 ?c4 ?c5 ?_)
                  (case c0 => exact fun h => by cases h); (case c1 => exact CellRow.made wr _ _); (case c2 => intro u hu; simp at hu; subst hu; rfl); (case c3 => unfold maxLen; omega); (case c4 => omega); (case c5 => simp; omega)
                  intro v' w1 hown1 hgr
                  rw [← List.map_take] at hown1
                  obtain ⟨hnew, hbw⟩ := OwnBools.push HLN.out hbx hl _ hown1 hgr
                  clear hown1 hgr hl
                  go_wp2_with fail
                  go_roundw
                  case rel => exact ⟨j + 1, by omega, by go_num, by rw [HTK.out j hltj, HD.out]; exact hnew, hbw⟩
                  case measure => simp [intOf]; omega
              · have hjm : j = m := by omega
                have HJM := Lib.hid hjm; clear hjm
                go_wp2_with fail
                go_roundw
                case rel =>
                  refine ⟨k + 1, by omega, by go_num, ?_, by rw [HJM.out] at hl; rw [HNXT.out]; exact hl, hbx⟩
                  intro a ha
                  rcases Nat.lt_or_ge a k with h | h
                  · exact HMAY.out a h
                  · obtain rfl : a = k := by omega
                    rw [HXE.out]; exact HGOOD.out
                case measure => simp [intOf]; omega
        · have hkn : k = n + 1 := by omega
          have HKN := Lib.hid hkn; clear hkn
          have hfin : (stTs n m row (n + 1)).take (n * n + n + k * m) = stTs n m row (n + 1) := by
            rw [HKN.out, List.take_of_length_le]; rw [HTL.out]; omega
          rw [hfin] at hl
          have HMAY2 : Hid (stMay n m row (n + 1)) := Lib.hid (by rw [← HKN.out]; exact HMAY.out)
          clear hfin
          go_wp2_with fail
          go_ret2
          exact StTruPost.yes HOK.out rfl HMAY2.out rfl hl hbr
    · have hv : ((rl : Int) != (n : Int) + 1) = true := by simp; omega
      have HNO := Lib.hid hrl
      clear hok hrl
      go_enter Try.func57, Try.ntmps57
      go_wp2_with (go_at_call 26; refine (ref_Check31 _ _ _).mono ?_; rintro e w' ⟨rfl, rfl⟩)
      go_ret2
      exact StTruPost.no (fun h => HNO.out (by omega)) rfl (Below.refl _ _)
  · have hk : (nCheck o s != 0) = true := by rw [nCheck_no hok]; rfl
    have HNO := Lib.hid hok
    clear hok
    go_enter Try.func57, Try.ntmps57
    go_wp2_with (go_at_call 26; refine (ref_Check31 _ _ _).mono ?_; rintro e w' ⟨rfl, rfl⟩)
    go_ret2
    exact StTruPost.no (fun h => HNO.out h.1) rfl (Below.refl _ _)
end Go.Proofs.Ythfcbjfeepindaa
