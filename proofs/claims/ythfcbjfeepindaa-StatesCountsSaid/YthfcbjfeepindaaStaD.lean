/- The contract of the reference's states.Clauses. -/
import Derived.Test.YthfcbjfeepindaaStaC
namespace Go.Proofs.Ythfcbjfeepindaa
open Go.RowKit
set_option linter.unusedVariables false
set_option linter.unusedSimpArgs false

/-- The first j variables of the states at a place. -/
def stVj (n m k j : Nat) : List Int := (List.range j).map fun i : Nat => nVar n m 3 k i
theorem stVj_succ (n m k j : Nat) : stVj n m k (j + 1) = stVj n m k j ++ [nVar n m 3 k j] := by unfold stVj; rw [List.range_succ, List.map_append]; rfl
theorem stVj_length (n m k j : Nat) : (stVj n m k j).length = j := by simp [stVj]

set_option maxRecDepth 100000 in
set_option maxHeartbeats 2000000 in
theorem ref_Clauses34 (o s init : Int) (w : World) : Calls Try.prog 59 #[.int .i64 o, .int .i64 s, .int .i64 init] w (StCPost o s init w) := by
  by_cases hok : nOk o s
  · obtain ⟨n, rfl⟩ : ∃ n : Nat, o = n := ⟨o.toNat, by have := hok.1; omega⟩
    obtain ⟨m, rfl⟩ : ∃ m : Nat, s = m := ⟨s.toNat, by have := hok.2.2.1; omega⟩
    have hk : (nCheck n m != 0) = false := by rw [nCheck_yes hok]; rfl
    have hn64 : n ≤ 64 ∧ m ≤ 32 := by unfold nOk at hok; omega
    have HOK := Lib.hid hok
    by_cases hin : 0 ≤ init ∧ init < m
    · obtain ⟨q, rfl⟩ : ∃ q : Nat, init = q := ⟨init.toNat, by omega⟩
      have hqm : q < m := by omega
      have hm32 : (m : Int) ≤ 32 := by omega
      have HUL := Lib.hid (fun k => stUp_len n m k hm32)
      have HSUC := Lib.hid (stUp_succ n m)
      have hown0 := OwnRows.nil w w.heap.size 0
      clear hok hin
      go_enter Try.func59, Try.ntmps59
      go_wp2_with (first | (go_at_call 26; refine (ref_Check31 _ _ _).mono ?_; rintro e w' ⟨rfl, rfl⟩) | (go_at_call 92; refine (ref_State n m 0 q _ HOK.out (by omega) hqm).mono ?_; rintro e w' ⟨rfl, rfl⟩) | (at_builtin; refine wpList_app rfl _ _ 43 rfl w.heap.size 41 (.slice none 0 0) 1 24 Try.underlying43 info_ints rfl (by decide) (.slice none 0 0) 0 [] rfl (own_nil _ _ _ _) (some ⟨w.heap.size + 1, 0, none⟩) 1 1 [.slice (some ⟨w.heap.size, 0, none⟩) 1 1] rfl ?c0 rfl ?c1 ?c2 ?c3 ?c4 ?c5 ?_))
      case c0 => exact fun h => by cases h
      case c1 => exact CellRow.made2 w _ _ _
      case c2 => intro u hu; simp at hu; subst hu; rfl
      case c3 => decide
      case c4 => decide
      case c5 => simp; omega
      intro v' w1 hown1 hgr
      obtain ⟨hnew, hbw⟩ := OwnRows.push (w := w) (wr := w) (C := 0) (xss := []) (xs := [nVar n m 3 0 q]) (vs := []) (N := 0) (v := .slice none 0 0) (Nat.zero_le _) rfl (Below.refl _ _) rfl (own_nil _ _ _ _) (fun i u hi => by simp at hi) (by simp [maxLen]) _ hown1 hgr
      have HNEW := Lib.hid hnew
      clear hown1 hgr hnew hown0
      go_wp2_with fail
      go_loopw [7, 8] (fun v i wr => ∃ k : Nat, k ≤ n + 1 ∧ i = .int .i64 k ∧ OwnRows wr w.heap.size 0 v ([nVar n m 3 0 q] :: stUp n m k) ∧ Below w.heap.size w wr) (fun _ i _ => n + 1 - (intOf i).toNat)
      case atStart => exact ⟨0, Nat.zero_le _, rfl, HNEW.out, hbw⟩
      case round =>
        obtain ⟨k, hk, rfl, hown, hbr⟩ := hrel
        obtain ⟨wo, rfl⟩ : ∃ wo : World, wo = wr := ⟨_, rfl⟩
        by_cases hlt : k < n + 1
        · have hle : (k : Int) ≤ n := by omega
          have HS := Lib.hid (HSUC.out k)
          have hlen : (([nVar n m 3 0 q] : List Int) :: stUp n m k).length ≤ 1000000 := by
            have := HUL.out k
            have h4 : k * 4097 ≤ 64 * 4097 := Nat.mul_le_mul_right _ (by omega)
            rw [List.length_cons]; omega
          have HLEN := Lib.hid hlen
          clear hlen
          go_wp2_with fail
          go_loopw [9, 10] (fun v i wr => ∃ j : Nat, j ≤ m ∧ i = .int .i64 j ∧ OwnInts wr wo.heap.size v (stVj n m k j) ∧ Below wo.heap.size wo wr) (fun _ i _ => m - (intOf i).toNat)
          case atStart => exact ⟨0, Nat.zero_le _, rfl, by simpa [stVj] using OwnInts.nil wo wo.heap.size, Below.refl _ _⟩
          case round =>
            obtain ⟨j, hj, rfl, hl, hbo⟩ := hrel
            by_cases hltj : j < m
            · have HLN := Lib.hid (stVj_length n m k j)
              have HS2 := Lib.hid (stVj_succ n m k j)
              unfold OwnInts at hl
              rw [HLN.out] at hl
              have hso := hbo.size
              go_wp2_with (first | (go_at_call 92; refine (ref_State n m k j _ HOK.out hlt hltj).mono ?_; rintro e w' ⟨rfl, rfl⟩) | (at_builtin; refine wpList_app rfl _ _ 41 rfl wo.heap.size 3 (.int .i64 0) 1 8 Try.underlying41 info_int rfl (by decide) _ _ _ rfl (hl.alloc _) (some ⟨wr.heap.size, 0, none⟩) 1 1 [.int .i64 (nVar n m 3 k j)] rfl ?c0 rfl ?c1 ?c2 ?c3 ?c4 ?c5 ?_))
              (case c0 => exact fun h => by cases h); (case c1 => exact CellRow.made wr _ _); (case c2 => intro u hu; simp at hu; subst hu; rfl); (case c3 => unfold maxLen; omega); (case c4 => omega); (case c5 => simp; omega)
              intro v' w1 hown1 hgr
              obtain ⟨hnew, hbw⟩ := OwnInts.push HLN.out hbo hl _ hown1 hgr
              rw [← HS2.out] at hnew
              clear hown1 hgr hl
              go_wp2_with fail
              go_roundw
              case rel => exact ⟨j + 1, by omega, by go_num, hnew, hbw⟩
              case measure => simp [intOf]; omega
            · have hjm : j = m := by omega
              have HJM := Lib.hid hjm; clear hjm
              rw [HJM.out] at hl
              have hrow : RowOf wr 0 u9 (stV n m k) := by
                have h0 := hl.row (B' := 0)
                rwa [show stVj n m k m = stV n m k by unfold stVj stV; rw [Int.toNat_natCast]] at h0
              obtain ⟨ra, rl, rc, rfl, _, _, _⟩ := id hrow.ints
              have hbr3 : Below w.heap.size w wr := below_step hbr hbo
              obtain ⟨vs, hv1, hv2, hv3⟩ := hown.later hbo
              have hm1 := HLEN.out
              have hs3 := hbr3.size
              have HX : Hid (([nVar n m 3 0 q] : List Int) :: stUp n m (k + 1) = ([nVar n m 3 0 q] :: stUp n m k) ++ [stV n m k] ++ most wneg (stV n m k)) := Lib.hid (by rw [HS.out]; simp [stPart])
              have HVL := Lib.hid (stV_length n m k)
              generalize (([nVar n m 3 0 q] : List Int) :: stUp n m k) = X at *
              generalize hN : X.length = N at *
              have HN := Lib.hid hN; clear hN
              have HV1 := Lib.hid hv1; have HV3 := Lib.hid hv3
              clear hv1 hv3 hl
              go_wp2_with (at_builtin; refine wpList_app rfl _ _ 43 rfl w.heap.size 41 (.slice none 0 0) 1 24 Try.underlying43 info_ints rfl (by decide) _ _ _ rfl (hv2.alloc _) (some ⟨wr.heap.size, 0, none⟩) 1 1 [.slice ra rl rc] rfl ?c0 rfl ?c1 ?c2 ?c3 ?c4 ?c5 ?_)
              (case c0 => exact fun h => by cases h); (case c1 => exact CellRow.made wr _ _); (case c2 => intro u hu; simp at hu; subst hu; rfl); (case c3 => unfold maxLen; omega); (case c4 => omega); (case c5 => simp; omega)
              intro v' w4 hown1 hgr
              obtain ⟨hnew, hbw⟩ := OwnRows.pushv (Nat.zero_le _) HN.out hbr3 HV1.out hv2 HV3.out hrow _ hown1 hgr
              have hrow4 : RowOf w4 0 (.slice ra rl rc) (stV n m k) := RowOf.grown (hrow.later (below_alloc (Below.refl _ _) _)) (Nat.zero_le _) (hv2.alloc _) hgr
              obtain ⟨_, _, _, hv4, hr1, hr2, hr3⟩ := hrow4.ints
              cases hv4
              have hrl : rl = m := by rw [← hr3.1, HVL.out, Int.toNat_natCast]
              subst hrl
              clear hown1 hgr hv2 hrow hrow4 HV1 HV3
              go_wp2_with fail
              refine (ref_Most32 ra rl rc _ _ hr3 (by omega)).mono ?_
              rintro e w5 ⟨mv, rfl, ⟨ms, hm1, hm2, hm3⟩, hb5⟩
              obtain ⟨ma, mcap, rfl, hmc, hmm, mnil, mrow⟩ := own_cells hm2
              have hml := most_len wneg (stV n rl k) (by rw [HVL.out]; omega)
              generalize hM : (most wneg (stV n rl k)).length = mlen at *
              have HM := Lib.hid hM; clear hM
              obtain ⟨xs2, hx1, hx2, hx3⟩ := hnew.later hb5
              have HN2 : Hid ((X ++ [stV n rl k]).length = N + 1) := Lib.hid (by rw [List.length_append, HN.out]; rfl)
              rw [HN2.out] at hx1 hx2
              have hbr5 : Below w.heap.size w w5 := below_step hbw hb5
              have hs5 := hbr5.size
              have HX3 := Lib.hid hx3; have HX1 := Lib.hid hx1; have HM3 := Lib.hid hm3; have HM1 := Lib.hid hm1
              clear hx3 hx1 hm3 hm1
              go_wp2_with (at_builtin; refine wpList_app rfl _ _ 43 rfl w.heap.size 41 (.slice none 0 0) 1 24 Try.underlying43 info_ints rfl (by decide) _ _ _ rfl hx2 ma mlen mcap ms rfl mnil ?c0 mrow ?c2 ?c3 ?c4 ?c5 ?_)
              case c0 => rw [HM1.out]; omega
              case c2 => exact rows_oneCell HM3.out
              case c3 => unfold maxLen; omega
              case c4 => omega
              case c5 => omega
              intro v6 w6 hown6 hgr6
              obtain ⟨hnew6, hbw6⟩ := OwnRows.cat (Nat.zero_le _) HN2.out HM.out hbr5 HX1.out hx2 HX3.out HM1.out HM3.out hown6 hgr6
              rw [← HX.out] at hnew6
              clear hown6 hgr6 hx2 mrow hm2
              go_wp2_with fail
              go_roundw
              case rel => exact ⟨k + 1, by omega, by go_num, hnew6, hbw6⟩
              case measure => simp [intOf]; omega
        · have hkn : k = n + 1 := by omega
          have HKN := Lib.hid hkn; clear hkn
          rw [HKN.out] at hown
          go_wp2_with fail
          go_returns
          exact ⟨_, rfl, by unfold stCl; rw [if_pos ⟨HOK.out, by omega, by omega⟩]; exact hown, hbr⟩
    · have HNO := Lib.hid hin
      clear hok
      by_cases h0 : init < 0
      · go_enter Try.func59, Try.ntmps59
        go_wp2_with (go_at_call 26; refine (ref_Check31 _ _ _).mono ?_; rintro e w' ⟨rfl, rfl⟩)
        all_goals first | (exfalso; omega) | (go_returns; exact StCPost.no (fun h => HNO.out h.2) rfl (Below.refl _ _))
      · have h1 : (m : Int) ≤ init := by omega
        clear hin
        go_enter Try.func59, Try.ntmps59
        go_wp2_with (go_at_call 26; refine (ref_Check31 _ _ _).mono ?_; rintro e w' ⟨rfl, rfl⟩)
        all_goals first | (exfalso; omega) | (go_returns; exact StCPost.no (fun h => HNO.out h.2) rfl (Below.refl _ _))
  · have hk : (nCheck o s != 0) = true := by rw [nCheck_no hok]; rfl
    have HNO := Lib.hid hok
    clear hok
    go_enter Try.func59, Try.ntmps59
    go_wp2_with (go_at_call 26; refine (ref_Check31 _ _ _).mono ?_; rintro e w' ⟨rfl, rfl⟩)
    go_returns
    exact StCPost.no (fun h => HNO.out h.1) rfl (Below.refl _ _)
end Go.Proofs.Ythfcbjfeepindaa
