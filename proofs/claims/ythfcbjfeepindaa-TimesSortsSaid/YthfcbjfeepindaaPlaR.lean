/- The contract of the reference's clauses of places. -/
import Derived.Test.YthfcbjfeepindaaPlaC
namespace Go.Proofs.Ythfcbjfeepindaa
open Go.RowKit
set_option linter.unusedVariables false

theorem rowOf_succ (n s : Int) (m : Nat) (q : Int) : rowOf n s (m + 1) q = rowOf n s m q ++ [nVar n s 1 q m] := by unfold rowOf; rw [List.range_succ, List.map_append]; rfl
theorem colOf_succ (n s : Int) (m : Nat) (q : Int) : colOf n s (m + 1) q = colOf n s m q ++ [nVar n s 1 m q] := by unfold colOf; rw [List.range_succ, List.map_append]; rfl
theorem ref_At (n : Nat) (s a b : Int) (w : World) (hok : nOk n s) (h1 : 0 ≤ a) (h2 : a < n) (h3 : 0 ≤ b) (h4 : b < n) : Calls Try.prog 81 #[.int .i64 n, .int .i64 s, .int .i64 a, .int .i64 b] w fun e w' => e = .returned (.int .i64 (nVar n s 1 a b)) ∧ w = w' := by
  have hn : nName n s 1 a b := ⟨hok, by omega, by omega, h1, by simp [nA]; omega, h3, by simp [nB]; omega⟩
  have e : nVar n s 1 a b = a * n + b + 1 := by unfold nVar; rw [if_pos hn]; simp [nAhead, nB]
  have hm := mul_bd (x := a) (y := n) (a := 64) (b := 64) h1 (by have := hok.2.1; omega) (by omega) (by have := hok.2.1; omega)
  have hn64 : (n : Int) ≤ 64 := hok.2.1
  rw [e]; clear e hn hok
  go_enter Try.func81, Try.ntmps81
  go_wp2
  go_ret
  exact ⟨rfl, rfl⟩

set_option maxHeartbeats 4000000 in
theorem ref_Clauses32 (n : Nat) (s : Int) (w : World) (hok : nOk n s) : Calls Try.prog 33 #[.int .i64 n, .int .i64 s] w fun e w' => ∃ v, e = .returned v ∧ OwnRows w' w.heap.size 0 v (plaC s n) ∧ Below w.heap.size w w' := by
  have HOK := Lib.hid hok
  have hn : n ≤ 64 := by have := hok.2.1; omega
  have hk : (nCheck n s != 0) = false := by rw [nCheck_yes hok]; rfl
  clear hok
  go_enter Try.func33, Try.ntmps33
  go_wp2_with (go_at_call 26; refine (ref_Check31 _ _ _).mono ?_; rintro e w' ⟨rfl, rfl⟩)
  go_loopw [5, 6] (fun v i wr => ∃ k : Nat, k ≤ n ∧ i = .int .i64 k ∧ OwnRows wr w.heap.size 0 v (plaUp1 s n k) ∧ Below w.heap.size w wr) (fun _ i _ => n - (intOf i).toNat)
  case atStart => exact ⟨0, Nat.zero_le _, rfl, OwnRows.nil _ _ _, Below.refl _ _⟩
  case round =>
    obtain ⟨k, hk, rfl, hown, hbr⟩ := hrel
    obtain ⟨wo, rfl⟩ : ∃ wo : World, wo = wr := ⟨_, rfl⟩
    by_cases hlt : k < n
    · have HLEN := Lib.hid (plaUp1_len s n k hn)
      have HS := Lib.hid (plaUp1_succ s n k)
      go_wp2_with fail

      go_loopw [7, 8] (fun v i wr => ∃ j : Nat, j ≤ n ∧ i = .int .i64 j ∧ OwnInts wr wo.heap.size v (rowOf n s j k) ∧ Below wo.heap.size wo wr) (fun _ i _ => n - (intOf i).toNat)
      case atStart => exact ⟨0, Nat.zero_le _, rfl, by simpa [rowOf] using OwnInts.nil wo wo.heap.size, Below.refl _ _⟩
      case round =>
        obtain ⟨j, hj, rfl, hl, hbo⟩ := hrel
        by_cases hltj : j < n
        · have hlen : (rowOf n s j k).length = j := rowOf_length _ _ _ _
          have HS2 := Lib.hid (rowOf_succ n s j k)
          unfold OwnInts at hl
          rw [hlen] at hl
          have HLN := Lib.hid hlen; clear hlen
          have hso := hbo.size
          go_wp2_with (first | (go_at_call 81; refine (ref_At n s k j _ HOK.out (by omega) (by omega) (by omega) (by omega)).mono ?_; rintro e w' ⟨rfl, rfl⟩) | (at_builtin; refine wpList_app rfl _ _ 41 rfl wo.heap.size 3 (.int .i64 0) 1 8 Try.underlying41 info_int rfl (by decide) _ _ _ rfl (hl.alloc _) (some ⟨wr.heap.size, 0, none⟩) 1 1 [.int .i64 (nVar n s 1 k j)] rfl ?c0 rfl ?c1 ?c2 ?c3 ?c4 ?c5 ?_))
          case c0 => exact fun h => by cases h
          case c1 => exact CellRow.made wr _ _
          case c2 => intro u hu; simp at hu; subst hu; rfl
          case c3 => unfold maxLen; omega
          case c4 => omega
          case c5 => simp; omega
          intro v' w1 hown1 hgr
          obtain ⟨hnew, hbw⟩ := OwnInts.push HLN.out hbo hl _ hown1 hgr
          rw [← HS2.out] at hnew
          clear hown1 hgr hl
          go_wp2_with fail
          go_roundw
          case rel => exact ⟨j + 1, by omega, by go_num, hnew, hbw⟩
          case measure => simp [intOf]; omega
        · have hjn : j = n := by omega
          have HJN := Lib.hid hjn; clear hjn
          rw [HJN.out] at hl

          have hbr3 : Below w.heap.size w wr := below_step hbr hbo
          have hrow0 := hl.row (B' := 0)
          obtain ⟨vs, hv1, hv2, hv3⟩ := hown.later hbo
          obtain ⟨ra, rl, rc, rfl, _, _, hr3⟩ := id hrow0.ints
          have hrl : rl = n := by rw [← hr3.1, rowOf_length]
          subst hrl
          have hm : (plaUp1 s rl k).length ≤ 262208 := by have := HLEN.out; omega
          generalize hN : (plaUp1 s rl k).length = N at *
          have HN := Lib.hid hN; clear hN
          have HV1 := Lib.hid hv1; clear hv1
          have HV3 := Lib.hid hv3; clear hv3
          have hs3 := hbr3.size
          go_wp2_with (at_builtin; refine wpList_app rfl _ _ 43 rfl w.heap.size 41 (.slice none 0 0) 1 24 Try.underlying43 info_ints rfl (by decide) _ _ _ rfl (hv2.alloc _) (some ⟨wr.heap.size, 0, none⟩) 1 1 [.slice ra rl rc] rfl ?c0 rfl ?c1 ?c2 ?c3 ?c4 ?c5 ?_)
          case c0 => exact fun h => by cases h
          case c1 => exact CellRow.made wr _ _
          case c2 => intro u hu; simp at hu; subst hu; rfl
          case c3 => unfold maxLen; omega
          case c4 => omega
          case c5 => simp; omega
          intro v' w4 hown1 hgr
          obtain ⟨hnew, hbw⟩ := OwnRows.pushv (Nat.zero_le _) HN.out hbr3 HV1.out hv2 HV3.out hrow0 _ hown1 hgr
          have hrow4 : RowOf w4 0 (.slice ra rl rc) (rowOf rl s rl k) := RowOf.grown (hrow0.later (below_alloc (Below.refl _ _) _)) (Nat.zero_le _) (hv2.alloc _) hgr
          clear hr3
          obtain ⟨_, _, _, hv4, hr1, hr2, hr3⟩ := hrow4.ints
          cases hv4
          clear hown1 hgr hv2 hrow0 hrow4 HV1 HV3 hl
          go_wp2_with fail
          refine (ref_Most32 ra rl rc _ _ hr3 (by omega)).mono ?_
          rintro e w5 ⟨mv, rfl, ⟨ms, hm1, hm2, hm3⟩, hb5⟩
          obtain ⟨ma, mcap, rfl, hmc, hmm, mnil, mrow⟩ := own_cells hm2
          have hml := most_len wneg (rowOf rl s rl k) (by rw [rowOf_length]; exact hn)
          generalize hM : (most wneg (rowOf rl s rl k)).length = mlen at *
          have HM := Lib.hid hM; clear hM
          obtain ⟨xs2, hx1, hx2, hx3⟩ := hnew.later hb5
          have hN2 : (plaUp1 s rl k ++ [rowOf rl s rl k]).length = N + 1 := by rw [List.length_append, HN.out]; rfl
          have HN2 := Lib.hid hN2
          rw [hN2] at hx1 hx2
          clear hN2
          have hbr5 : Below w.heap.size w w5 := below_step hbw hb5
          have hs5 := hbr5.size
          have HX3 := Lib.hid hx3; have HX1 := Lib.hid hx1; have HM3 := Lib.hid hm3; have HM1 := Lib.hid hm1
          clear hx3 hx1 hm3 hm1
          go_wp2_with (at_builtin; refine wpList_app rfl _ _ 43 rfl w.heap.size 41 (.slice none 0 0) 1 24 Try.underlying43 info_ints rfl (by decide) _ _ _ rfl hx2 ma mlen mcap ms rfl mnil ?c0 mrow ?c2 ?c3 ?c4 ?c5 ?_)
          case c0 => rw [HM1.out]; omega
          case c2 => exact rows_oneCell HM3.out
          case c3 => unfold maxLen; omega
          case c4 => omega
          case c5 => omega
          intro v6 w6 hown6 hgr6
          obtain ⟨hnew6, hbw6⟩ := OwnRows.cat (Nat.zero_le _) HN2.out HM.out hbr5 HX1.out hx2 HX3.out HM1.out HM3.out hown6 hgr6
          rw [← HS.out] at hnew6
          clear hown6 hgr6 hx2 mrow hm2
          go_wp2_with fail
          go_roundw
          case rel => exact ⟨k + 1, by omega, by go_num, hnew6, hbw6⟩
          case measure => simp [intOf]; omega

    · have hkn : k = n := by omega
      have HKN := Lib.hid hkn; clear hkn
      rw [HKN.out] at hown
      go_wp2_with fail
      go_loopw [5, 9] (fun v i wr => ∃ k : Nat, k ≤ n ∧ i = .int .i64 k ∧ OwnRows wr w.heap.size 0 v (plaUp1 s n n ++ plaUp2 s n k) ∧ Below w.heap.size w wr) (fun _ i _ => n - (intOf i).toNat)
      case atStart => exact ⟨0, Nat.zero_le _, rfl, by simpa [plaUp2] using hown, hbr⟩
      case round =>
        obtain ⟨k, hk, rfl, hown, hbr⟩ := hrel
        obtain ⟨wo, rfl⟩ : ∃ wo : World, wo = wr := ⟨_, rfl⟩
        by_cases hlt : k < n
        · have HLEN := Lib.hid (plaUp1_len s n n hn)
          have HLEN2 := Lib.hid (plaUp2_len s n k hn)
          have HS := Lib.hid (plaUp2_succ s n k)
          go_wp2_with fail
          go_loopw [10, 11] (fun v i wr => ∃ j : Nat, j ≤ n ∧ i = .int .i64 j ∧ OwnInts wr wo.heap.size v (colOf n s j k) ∧ Below wo.heap.size wo wr) (fun _ i _ => n - (intOf i).toNat)
          case atStart => exact ⟨0, Nat.zero_le _, rfl, by simpa [colOf] using OwnInts.nil wo wo.heap.size, Below.refl _ _⟩
          case round =>
            obtain ⟨j, hj, rfl, hl, hbo⟩ := hrel
            by_cases hltj : j < n
            · have hlen : (colOf n s j k).length = j := colOf_length _ _ _ _
              have HS2 := Lib.hid (colOf_succ n s j k)
              unfold OwnInts at hl
              rw [hlen] at hl
              have HLN := Lib.hid hlen; clear hlen
              have hso := hbo.size
              go_wp2_with (first | (go_at_call 81; refine (ref_At n s j k _ HOK.out (by omega) (by omega) (by omega) (by omega)).mono ?_; rintro e w' ⟨rfl, rfl⟩) | (at_builtin; refine wpList_app rfl _ _ 41 rfl wo.heap.size 3 (.int .i64 0) 1 8 Try.underlying41 info_int rfl (by decide) _ _ _ rfl (hl.alloc _) (some ⟨wr.heap.size, 0, none⟩) 1 1 [.int .i64 (nVar n s 1 j k)] rfl ?c0 rfl ?c1 ?c2 ?c3 ?c4 ?c5 ?_))
              case c0 => exact fun h => by cases h
              case c1 => exact CellRow.made wr _ _
              case c2 => intro u hu; simp at hu; subst hu; rfl
              case c3 => unfold maxLen; omega
              case c4 => omega
              case c5 => simp; omega
              intro v' w1 hown1 hgr
              obtain ⟨hnew, hbw⟩ := OwnInts.push HLN.out hbo hl _ hown1 hgr
              rw [← HS2.out] at hnew
              clear hown1 hgr hl
              go_wp2_with fail
              go_roundw
              case rel => exact ⟨j + 1, by omega, by go_num, hnew, hbw⟩
              case measure => simp [intOf]; omega
            · have hjn : j = n := by omega
              have HJN := Lib.hid hjn; clear hjn
              rw [HJN.out] at hl


              have hbr3 : Below w.heap.size w wr := below_step hbr hbo
              have hrow0 := hl.row (B' := 0)
              obtain ⟨ra, rl, rc, rfl, hr1, _, hr3⟩ := hrow0.ints
              have hrl : rl = n := by rw [← hr3.1, colOf_length]
              subst hrl
              have hm : (plaUp1 s rl rl ++ plaUp2 s rl k).length ≤ 600000 := by have := HLEN.out; have := HLEN2.out; rw [List.length_append]; omega
              clear hrow0 hl
              go_wp2_with fail
              refine (ref_Most32 ra rl rc _ _ hr3 (by omega)).mono ?_
              rintro e w5 ⟨mv, rfl, ⟨ms, hm1, hm2, hm3⟩, hb5⟩
              obtain ⟨ma, mcap, rfl, hmc, hmm, mnil, mrow⟩ := own_cells hm2
              have hml := most_len wneg (colOf rl s rl k) (by rw [colOf_length]; exact hn)
              generalize hM : (most wneg (colOf rl s rl k)).length = mlen at *
              have HM := Lib.hid hM; clear hM
              obtain ⟨xs2, hx1, hx2, hx3⟩ := (hown.later hbo).later hb5
              generalize hN : (plaUp1 s rl rl ++ plaUp2 s rl k).length = N at *
              have HN2 := Lib.hid hN; clear hN
              have hbr5 : Below w.heap.size w w5 := below_step hbr3 hb5
              have hs5 := hbr5.size
              have HX3 := Lib.hid hx3; have HX1 := Lib.hid hx1; have HM3 := Lib.hid hm3; have HM1 := Lib.hid hm1
              clear hx3 hx1 hm3 hm1
              go_wp2_with (at_builtin; refine wpList_app rfl _ _ 43 rfl w.heap.size 41 (.slice none 0 0) 1 24 Try.underlying43 info_ints rfl (by decide) _ _ _ rfl hx2 ma mlen mcap ms rfl mnil ?c0 mrow ?c2 ?c3 ?c4 ?c5 ?_)
              case c0 => rw [HM1.out]; omega
              case c2 => exact rows_oneCell HM3.out
              case c3 => unfold maxLen; omega
              case c4 => omega
              case c5 => omega
              intro v6 w6 hown6 hgr6
              obtain ⟨hnew6, hbw6⟩ := OwnRows.cat (Nat.zero_le _) HN2.out HM.out hbr5 HX1.out hx2 HX3.out HM1.out HM3.out hown6 hgr6
              rw [List.append_assoc, ← HS.out] at hnew6
              clear hown6 hgr6 hx2 mrow hm2
              go_wp2_with fail
              go_roundw
              case rel => exact ⟨k + 1, by omega, by go_num, hnew6, hbw6⟩
              case measure => simp [intOf]; omega

        · have hkn : k = n := by omega
          have HKN := Lib.hid hkn; clear hkn
          rw [HKN.out] at hown
          go_wp2_with fail
          go_ret
          exact ⟨_, rfl, hown, hbr⟩

theorem ref_Clauses32_no (o s : Int) (w : World) (hok : ¬ nOk o s) : Calls Try.prog 33 #[.int .i64 o, .int .i64 s] w fun e w' => e = .returned (.slice none 0 0) ∧ w = w' := by
  have hk : (nCheck o s != 0) = true := by rw [nCheck_no hok]; rfl
  clear hok
  go_enter Try.func33, Try.ntmps33
  go_wp2_with (go_at_call 26; refine (ref_Check31 _ _ _).mono ?_; rintro e w' ⟨rfl, rfl⟩)
  go_returns
  exact ⟨rfl, rfl⟩
end Go.Proofs.Ythfcbjfeepindaa
