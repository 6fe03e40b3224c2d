/- The contracts of places.Clauses and of its reference. -/
import Derived.Test.YthfcbjfeepindaaPlaV
import Derived.Test.YthfcbjfeepindaaNumN
namespace Go.Proofs.Ythfcbjfeepindaa
open Go.RowKit
set_option linter.unusedVariables false

def rowOf (n s : Int) (m : Nat) (q : Int) : List Int := (List.range m).map fun i : Nat => nVar n s 1 q i
def colOf (n s : Int) (m : Nat) (q : Int) : List Int := (List.range m).map fun i : Nat => nVar n s 1 i q
def plaUp1 (s : Int) (n k : Nat) : List (List Int) := (List.range k).flatMap fun q : Nat => rowOf n s n q :: most wneg (rowOf n s n q)
def plaUp2 (s : Int) (n k : Nat) : List (List Int) := (List.range k).flatMap fun q : Nat => most wneg (colOf n s n q)
def plaC (s : Int) (n : Nat) : List (List Int) := plaUp1 s n n ++ plaUp2 s n n
theorem plaUp1_succ (s : Int) (n k : Nat) : plaUp1 s n (k + 1) = (plaUp1 s n k ++ [rowOf n s n k]) ++ most wneg (rowOf n s n k) := by
  unfold plaUp1; rw [List.range_succ, List.flatMap_append]; simp
theorem plaUp2_succ (s : Int) (n k : Nat) : plaUp2 s n (k + 1) = plaUp2 s n k ++ most wneg (colOf n s n k) := by
  unfold plaUp2; rw [List.range_succ, List.flatMap_append]; simp
theorem rowOf_length (n s : Int) (m : Nat) (q : Int) : (rowOf n s m q).length = m := by simp [rowOf]
theorem colOf_length (n s : Int) (m : Nat) (q : Int) : (colOf n s m q).length = m := by simp [colOf]
theorem most_len (neg : Int → Int) (xs : List Int) (h : xs.length ≤ 64) : (most neg xs).length ≤ 4096 := by
  have h1 := mostUp_length neg xs xs.length
  have h2 : xs.length * xs.length ≤ 64 * 64 := Nat.mul_le_mul h h
  unfold most; omega
theorem plaUp1_len (s : Int) (n k : Nat) (hn : n ≤ 64) : (plaUp1 s n k).length ≤ k * 4097 := by
  induction k with
  | zero => simp [plaUp1]
  | succ k ih =>
    have := most_len wneg (rowOf n s n k) (by rw [rowOf_length]; exact hn)
    rw [plaUp1_succ, List.length_append, List.length_append, List.length_singleton, Nat.add_mul]; omega
theorem plaUp2_len (s : Int) (n k : Nat) (hn : n ≤ 64) : (plaUp2 s n k).length ≤ k * 4096 := by
  induction k with
  | zero => simp [plaUp2]
  | succ k ih =>
    have := most_len wneg (colOf n s n k) (by rw [colOf_length]; exact hn)
    rw [plaUp2_succ, List.length_append, Nat.add_mul]; omega

theorem pla_ofOper (n : Nat) (s q : Int) (w : World) (hok : nOk n s) : Calls Try.prog 79 #[.agg #[.int .i64 n, .int .i64 s], .int .i64 q] w fun e w' => ∃ v, e = .returned v ∧ OwnInts w' w.heap.size v (rowOf n s n q) ∧ Below w.heap.size w w' := by
  have HOK := Lib.hid hok; clear hok
  go_enter Try.func79, Try.ntmps79
  go_wp2_with fail
  refine (pla_vars_ofOper n s q _ _ HOK.out (by simp) rfl).mono ?_
  rintro e w' ⟨v, rfl, hv, hb⟩
  have hv := hv.mono (B' := w.heap.size) (by simp; omega)
  go_wp2_with fail
  go_ret
  exact ⟨_, rfl, hv, by (repeat (first | (with_reducible exact Below.refl _ _) | (with_reducible assumption) | (with_reducible refine below_alloc ?_ _) | (with_reducible refine below_drew ?_) | (with_reducible refine below_drewN ?_ _) | (with_reducible refine below_step ?_ (by with_reducible assumption))))⟩
theorem pla_ofPlace (n : Nat) (s q : Int) (w : World) (hok : nOk n s) : Calls Try.prog 80 #[.agg #[.int .i64 n, .int .i64 s], .int .i64 q] w fun e w' => ∃ v, e = .returned v ∧ OwnInts w' w.heap.size v (colOf n s n q) ∧ Below w.heap.size w w' := by
  have HOK := Lib.hid hok; clear hok
  go_enter Try.func80, Try.ntmps80
  go_wp2_with fail
  refine (pla_vars_ofPlace n s q _ _ HOK.out (by simp) rfl).mono ?_
  rintro e w' ⟨v, rfl, hv, hb⟩
  have hv := hv.mono (B' := w.heap.size) (by simp; omega)
  go_wp2_with fail
  go_ret
  exact ⟨_, rfl, hv, by (repeat (first | (with_reducible exact Below.refl _ _) | (with_reducible assumption) | (with_reducible refine below_alloc ?_ _) | (with_reducible refine below_drew ?_) | (with_reducible refine below_drewN ?_ _) | (with_reducible refine below_step ?_ (by with_reducible assumption))))⟩

set_option maxHeartbeats 2000000 in
theorem pla_Clauses (n : Nat) (s : Int) (w : World) (hok : nOk n s) : Calls Try.prog 32 #[.agg #[.int .i64 n, .int .i64 s]] w fun e w' => ∃ v, e = .returned v ∧ OwnRows w' w.heap.size 0 v (plaC s n) ∧ Below w.heap.size w w' := by
  have HOK := Lib.hid hok
  have hn : n ≤ 64 := by have := hok.2.1; omega
  have hk : (nCheck n s != 0) = false := by rw [nCheck_yes hok]; rfl
  have hb1 : Below w.heap.size w (w.alloc (.cells #[.int .i64 n, .int .i64 s] 23)) := by (repeat (first | (with_reducible exact Below.refl _ _) | (with_reducible assumption) | (with_reducible refine below_alloc ?_ _) | (with_reducible refine below_drew ?_) | (with_reducible refine below_drewN ?_ _) | (with_reducible refine below_step ?_ (by with_reducible assumption))))
  have hs1 := Blk.made w #[.int .i64 n, .int .i64 s] 23
  generalize hw1 : w.alloc (.cells #[.int .i64 n, .int .i64 s] 23) = w1 at hb1 hs1
  have HW1 := Lib.hid hw1; clear hw1 hok
  have c0 := hs1.cell 0; have c1 := hs1.cell 1
  simp at c0 c1
  go_enter Try.func32, Try.ntmps32
  go_wp2_with fail
  rw [HW1.out]
  refine (num_Check _ _ _).mono ?_
  rintro e w2 ⟨rfl, hb2⟩
  have d0 := cell_later hb2 c0; have d1 := cell_later hb2 c1
  go_wp2_with fail
  clear d0 d1
  go_loopw [3, 12] (fun v i wr => ∃ k : Nat, k ≤ n ∧ i = .int .i64 k ∧ OwnRows wr w1.heap.size 0 v (plaUp1 s n k) ∧ Below w1.heap.size w1 wr) (fun _ i _ => n - (intOf i).toNat)
  case atStart => exact ⟨0, Nat.zero_le _, rfl, OwnRows.nil _ _ _, hb2⟩
  case round =>
    obtain ⟨k, hk, rfl, hown, hbr⟩ := hrel
    have d0 := cell_later hbr c0; have d1 := cell_later hbr c1
    by_cases hlt : k < n
    · have HLEN := Lib.hid (plaUp1_len s n k hn)
      have HS := Lib.hid (plaUp1_succ s n k)
      go_wp2_with fail
      refine (pla_ofOper n s k _ HOK.out).mono ?_
      rintro e w3 ⟨rv, rfl, hrow, hb3⟩
      have hbr3 : Below w1.heap.size w1 w3 := below_step hbr hb3
      obtain ⟨vs, hv1, hv2, hv3⟩ := hown.later hb3
      have hm : (plaUp1 s n k).length ≤ 262208 := by have := HLEN.out; omega
      generalize hN : (plaUp1 s n k).length = N at *
      have HN := Lib.hid hN; clear hN
      have HV1 := Lib.hid hv1; clear hv1
      have HV3 := Lib.hid hv3; clear hv3
      have hrow0 : RowOf w3 0 rv (rowOf n s n k) := hrow.row
      obtain ⟨ra, rl, rc, rfl, _, _, _⟩ := id hrow0.ints
      have hs3 := hbr3.size
      go_wp2_with (at_builtin; refine wpList_app rfl _ _ 43 rfl w1.heap.size 41 (.slice none 0 0) 1 24 Try.underlying43 info_ints rfl (by decide) _ _ _ rfl (hv2.alloc _) (some ⟨w3.heap.size, 0, none⟩) 1 1 [.slice ra rl rc] rfl ?c0 rfl ?c1 ?c2 ?c3 ?c4 ?c5 ?_)
      case c0 => exact fun h => by cases h
      case c1 => exact CellRow.made w3 _ _
      case c2 => intro u hu; simp at hu; subst hu; rfl
      case c3 => unfold maxLen; omega
      case c4 => omega
      case c5 => simp; omega
      intro v' w4 hown1 hgr
      obtain ⟨hnew, hbw⟩ := OwnRows.pushv (Nat.zero_le _) HN.out hbr3 HV1.out hv2 HV3.out hrow0 _ hown1 hgr
      have hrow4 : RowOf w4 0 (.slice ra rl rc) (rowOf n s n k) := RowOf.grown (hrow0.later (below_alloc (Below.refl _ _) _)) (Nat.zero_le _) (hv2.alloc _) hgr
      obtain ⟨_, _, _, hv4, hr1, hr2, hr3⟩ := hrow4.ints
      cases hv4
      have hrl : rl = n := by rw [← hr3.1, rowOf_length]
      subst hrl
      clear hown1 hgr hv2 hrow hrow0 hrow4 HV1 HV3 d0 d1
      go_wp2_with fail
      refine (pla_Most ra rl rc _ _ hr3 hr1 (by omega)).mono ?_
      rintro e w5 ⟨mv, rfl, ⟨ms, hm1, hm2, hm3⟩, hb5⟩
      obtain ⟨ma, mcap, rfl, hmc, hmm, mnil, mrow⟩ := own_cells hm2
      have hml := most_len wneg (rowOf rl s rl k) (by rw [rowOf_length]; exact hn)
      generalize hM : (most wneg (rowOf rl s rl k)).length = mlen at *
      have HM := Lib.hid hM; clear hM
      obtain ⟨xs2, hx1, hx2, hx3⟩ := hnew.later hb5
      have hN2 : (plaUp1 s rl k ++ [rowOf rl s rl k]).length = N + 1 := by rw [List.length_append, HN.out]; rfl
      have HN2 := Lib.hid hN2
      rw [hN2] at hx1 hx2
      clear hN2
      have hbr5 : Below w1.heap.size w1 w5 := below_step hbw hb5
      have hs5 := hbr5.size
      have HX3 := Lib.hid hx3; have HX1 := Lib.hid hx1; have HM3 := Lib.hid hm3; have HM1 := Lib.hid hm1
      clear hx3 hx1 hm3 hm1
      go_wp2_with (at_builtin; refine wpList_app rfl _ _ 43 rfl w1.heap.size 41 (.slice none 0 0) 1 24 Try.underlying43 info_ints rfl (by decide) _ _ _ rfl hx2 ma mlen mcap ms rfl mnil ?c0 mrow ?c2 ?c3 ?c4 ?c5 ?_)
      case c0 => rw [HM1.out]; omega
      case c2 => exact rows_oneCell HM3.out
      case c3 => unfold maxLen; omega
      case c4 => omega
      case c5 => omega
      intro v6 w6 hown6 hgr6
      obtain ⟨hnew6, hbw6⟩ := OwnRows.cat (Nat.zero_le _) HN2.out HM.out hbr5 HX1.out hx2 HX3.out HM1.out HM3.out hown6 hgr6
      rw [← HS.out] at hnew6
      clear hown6 hgr6 hx2 mrow hm2
      go_wp2_with fail
      go_roundw
      case rel => exact ⟨k + 1, by omega, by go_num, hnew6, hbw6⟩
      case measure => simp [intOf]; omega
    · have hkn : k = n := by omega
      have HKN := Lib.hid hkn; clear hkn
      go_wp2_with fail
      rw [HKN.out] at hown
      go_loopw [3, 29] (fun v i wr => ∃ k : Nat, k ≤ n ∧ i = .int .i64 k ∧ OwnRows wr w1.heap.size 0 v (plaUp1 s n n ++ plaUp2 s n k) ∧ Below w1.heap.size w1 wr) (fun _ i _ => n - (intOf i).toNat)
      case atStart => exact ⟨0, Nat.zero_le _, rfl, by simpa [plaUp2] using hown, hbr⟩
      case round =>
        obtain ⟨k, hk, rfl, hown, hbr⟩ := hrel
        have d0 := cell_later hbr c0; have d1 := cell_later hbr c1
        by_cases hlt : k < n
        · have HLEN := Lib.hid (plaUp1_len s n n hn)
          have HLEN2 := Lib.hid (plaUp2_len s n k hn)
          have HS := Lib.hid (plaUp2_succ s n k)
          go_wp2_with fail
          refine (pla_ofPlace n s k _ HOK.out).mono ?_
          rintro e w3 ⟨rv, rfl, hrow, hb3⟩
          have hbr3 : Below w1.heap.size w1 w3 := below_step hbr hb3
          have hrow0 : RowOf w3 0 rv (colOf n s n k) := hrow.row
          obtain ⟨ra, rl, rc, rfl, hr1, hr2, hr3⟩ := hrow0.ints
          have hrl : rl = n := by rw [← hr3.1, colOf_length]
          subst hrl
          have hm : (plaUp1 s rl rl ++ plaUp2 s rl k).length ≤ 600000 := by have := HLEN.out; have := HLEN2.out; rw [List.length_append]; omega
          clear d0 d1 hrow hrow0
          go_wp2_with fail
          refine (pla_Most ra rl rc _ _ hr3 hr1 (by omega)).mono ?_
          rintro e w5 ⟨mv, rfl, ⟨ms, hm1, hm2, hm3⟩, hb5⟩
          obtain ⟨ma, mcap, rfl, hmc, hmm, mnil, mrow⟩ := own_cells hm2
          have hml := most_len wneg (colOf rl s rl k) (by rw [colOf_length]; exact hn)
          generalize hM : (most wneg (colOf rl s rl k)).length = mlen at *
          have HM := Lib.hid hM; clear hM
          obtain ⟨xs2, hx1, hx2, hx3⟩ := (hown.later hb3).later hb5
          generalize hN : (plaUp1 s rl rl ++ plaUp2 s rl k).length = N at *
          have HN2 := Lib.hid hN; clear hN
          have hbr5 : Below w1.heap.size w1 w5 := below_step hbr3 hb5
          have hs5 := hbr5.size
          have HX3 := Lib.hid hx3; have HX1 := Lib.hid hx1; have HM3 := Lib.hid hm3; have HM1 := Lib.hid hm1
          clear hx3 hx1 hm3 hm1
          go_wp2_with (at_builtin; refine wpList_app rfl _ _ 43 rfl w1.heap.size 41 (.slice none 0 0) 1 24 Try.underlying43 info_ints rfl (by decide) _ _ _ rfl hx2 ma mlen mcap ms rfl mnil ?c0 mrow ?c2 ?c3 ?c4 ?c5 ?_)
          case c0 => rw [HM1.out]; omega
          case c2 => exact rows_oneCell HM3.out
          case c3 => unfold maxLen; omega
          case c4 => omega
          case c5 => omega
          intro v6 w6 hown6 hgr6
          obtain ⟨hnew6, hbw6⟩ := OwnRows.cat (Nat.zero_le _) HN2.out HM.out hbr5 HX1.out hx2 HX3.out HM1.out HM3.out hown6 hgr6
          rw [List.append_assoc, ← HS.out] at hnew6
          clear hown6 hgr6 hx2 mrow hm2
          go_wp2_with fail
          go_roundw
          case rel => exact ⟨k + 1, by omega, by go_num, hnew6, hbw6⟩
          case measure => simp [intOf]; omega
        · have hkn : k = n := by omega
          have HKN := Lib.hid hkn; clear hkn
          rw [HKN.out] at hown
          have hsz : w.heap.size ≤ w1.heap.size := hb1.size
          go_wp2_with fail
          go_ret
          exact ⟨_, rfl, hown.mono hsz (Nat.le_refl _), below_step hb1 hbr⟩

theorem pla_Clauses_no (o s : Int) (w : World) (hok : ¬ nOk o s) : Calls Try.prog 32 #[.agg #[.int .i64 o, .int .i64 s]] w fun e w' => e = .returned (.slice none 0 0) ∧ Below w.heap.size w w' := by
  have hk : (nCheck o s != 0) = true := by rw [nCheck_no hok]; rfl
  clear hok
  go_enter Try.func32, Try.ntmps32
  go_wp2_with (go_at_call 25; refine (num_Check _ _ _).mono ?_; rintro e w' ⟨rfl, hb⟩)
  go_returns
  exact ⟨rfl, by (repeat (first | (with_reducible exact Below.refl _ _) | (with_reducible assumption) | (with_reducible refine below_alloc ?_ _) | (with_reducible refine below_drew ?_) | (with_reducible refine below_drewN ?_ _) | (with_reducible refine below_step ?_ (by with_reducible assumption))))⟩
end Go.Proofs.Ythfcbjfeepindaa
