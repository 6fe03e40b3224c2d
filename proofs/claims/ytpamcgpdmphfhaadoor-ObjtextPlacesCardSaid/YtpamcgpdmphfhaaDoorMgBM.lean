import Derived.Test.YtpamcgpdmphfhaaDoorMgBL
import Derived.Test.YtpamcgpdmphfhaaDoorMgBA
import Derived.Test.YtpamcgpdmphfhaaDoorMgBE
namespace Go.Proofs.YtpamcgpdmphfhaaDoor
open Go.RowKit Go.Lib
def OfRows (L : List (List Tok3)) : Prop := ∃ rs : List (Nat × Nat × List (Nat × List UInt8)), L = rs.map rowT ∧ rs.length ≤ 1000000 ∧ ∀ r ∈ rs, r.2.2.length ≤ 1000000
theorem OfRows.nil : OfRows [] := ⟨[], rfl, by simp, by simp⟩
theorem OfRows.tail {x : List Tok3} {L : List (List Tok3)} (h : OfRows (x :: L)) : OfRows L := by
  obtain ⟨rs, h0, h1, h2⟩ := h
  cases rs with
  | nil => cases h0
  | cons r rs =>
    rw [List.map_cons] at h0
    injection h0 with h3 h4
    exact ⟨rs, h4, by rw [List.length_cons] at h1; omega, fun q hq => h2 q (List.mem_cons_of_mem _ hq)⟩
theorem OfRows.drop {L : List (List Tok3)} (h : OfRows L) (k : Nat) : OfRows (L.drop k) := by
  obtain ⟨rs, rfl, h1, h2⟩ := h
  exact ⟨rs.drop k, by rw [List.map_drop], by rw [List.length_drop]; omega, fun r hr => h2 r (List.mem_of_mem_drop hr)⟩
theorem OfRows.said {L : List (List Tok3)} (h : OfRows L) : OfRows (said L) := by
  obtain ⟨rs, rfl, h1, h2⟩ := h
  refine ⟨rs.filter fun r => decide ((rowT r).length ≠ 0), ?_, Nat.le_trans (List.length_filter_le _ _) h1, fun r hr => h2 r (List.mem_filter.1 hr).1⟩
  show List.filter _ _ = _
  rw [List.filter_map]; rfl
theorem OfRows.nxt : ∀ {L : List (List Tok3)}, OfRows L → OfRows (nxt L).2
  | [], _ => OfRows.nil
  | x :: L, h => by
    unfold Proofs.YtpamcgpdmphfhaaDoor.nxt
    split
    · exact OfRows.nxt h.tail
    · exact h.tail
theorem lnsT_rows {l : List UInt8} (hl : l.length ≤ 100000) : OfRows (lnsT l) := by
  have hs := lns_sum l.length 1 0 l (Nat.le_refl _)
  exact ⟨lns 1 0 l, rfl, by omega, fun r hr => by have := hs.2.2 r hr; omega⟩
theorem takeP_rows {L : List (List Tok3)} {z : Int} (hL : OfRows L) : OfRows (takeP L z).2.1 := by
  have hrows : ∀ (m : Nat) (L : List (List Tok3)) (R : List Rw) (P : List Int), OfRows L → OfRows (rowsGo z m L R P).2.2.1 := by
    intro m
    induction m with
    | zero => intro L R P h; exact h
    | succ m ih =>
      intro L R P h
      by_cases he : (nums (nxt L).1 wRow lo4 hi4 z).2.2 = 0
      · rw [rowsGo_ok he]; exact ih _ _ _ h.nxt
      · rw [rowsGo_bad he]; exact OfRows.nil
  by_cases he : (tq L z).2.2 = 0
  · by_cases hg : (tg L z).2.2.2.2 = 0
    · rw [takeP_o he hg]
      split
      · exact OfRows.nil
      · split
        · exact OfRows.nil
        · exact hrows _ _ _ _ hL.nxt
    · rw [takeP_g he hg]; exact OfRows.nil
  · rw [takeP_q he]; exact OfRows.nil
theorem takeP_badR {L : List (List Tok3)} {z : Int} (h : (takeP L z).2.2.2 ≠ 0) : (takeP L z).2.1 = [] := by
  by_cases he : (tq L z).2.2 = 0
  · by_cases hg : (tg L z).2.2.2.2 = 0
    · rw [takeP_o he hg] at h ⊢
      split
      · rfl
      · rename_i c1
        rw [if_neg c1] at h
        split
        · rfl
        · rename_i c2
          rw [if_neg c2] at h
          exact absurd rfl h
    · rw [takeP_g he hg]
  · rw [takeP_q he]
def RwSm (r : Rw) : Prop := (0 ≤ r.s ∧ r.s ≤ 1000000) ∧ (0 ≤ r.k ∧ r.k ≤ 1000000) ∧ (0 ≤ r.n ∧ r.n ≤ 1000000) ∧ (0 ≤ r.r ∧ r.r ≤ 1000000)
theorem rowsGo_sm {z : Int} : ∀ (m : Nat) (L : List (List Tok3)) (R : List Rw) (P : List Int), (rowsGo z m L R P).2.2.2.2 = 0 → (∀ r ∈ R, RwSm r) → m ≤ L.length ∧ ∀ r ∈ (rowsGo z m L R P).1, RwSm r
  | 0, L, R, P, _, hR => ⟨Nat.zero_le _, hR⟩
  | m + 1, L, R, P, h, hR => by
    by_cases he : (nums (nxt L).1 wRow lo4 hi4 z).2.2 = 0
    · rw [rowsGo_ok he] at h ⊢
      obtain ⟨k1, _, _, k4⟩ := nums_ok he
      have hn := nxt_lt L k1
      obtain ⟨h1, h2⟩ := rowsGo_sm m _ _ _ h (fun r hr => by
        rcases List.mem_append.1 hr with hr | hr
        · exact hR r hr
        · rw [List.mem_singleton] at hr; subst hr; exact ⟨k4 0, k4 1, k4 2, k4 3⟩)
      exact ⟨by omega, h2⟩
    · rw [rowsGo_bad he] at h; exact absurd h he
theorem takeP_sm {L : List (List Tok3)} {z : Int} (h : (takeP L z).2.2.2 = 0) : obE (takeP L z).1 = 0 ∧ (0 ≤ (takeP L z).1.S ∧ (takeP L z).1.S ≤ 1000000) ∧ (0 ≤ (takeP L z).1.K ∧ (takeP L z).1.K ≤ 1000000) ∧ (0 ≤ (takeP L z).1.I ∧ (takeP L z).1.I ≤ 1000000) ∧ (takeP L z).1.R.length + 1 ≤ L.length ∧ ∀ r ∈ (takeP L z).1.R, RwSm r := by
  by_cases he : (tq L z).2.2 = 0
  · by_cases hg : (tg L z).2.2.2.2 = 0
    · have ho := takeP_o he hg
      by_cases c1 : obE (tob L z) = 2
      · rw [if_pos c1] at ho; rw [ho] at h; cases h
      · by_cases c2 : obE (tob L z) = 0
        · rw [if_neg c1, if_neg (by simpa using c2)] at ho
          rw [ho]
          obtain ⟨k1, _, _, k4⟩ := nums_ok he
          have hn := nxt_lt L k1
          obtain ⟨g1, g2⟩ := rowsGo_sm _ _ _ _ hg (by simp)
          have g3 := (rowsGo_said _ _ _ _ hg).2
          refine ⟨c2, k4 0, k4 1, k4 2, ?_, g2⟩
          show (tg L z).1.length + 1 ≤ _
          have : (tg L z).1.length = _ := g3
          rw [this, List.length_nil]; omega
        · rw [if_neg c1, if_pos c2] at ho; rw [ho] at h; exact absurd h c2
    · rw [takeP_g he hg] at h; exact absurd h hg
  · rw [takeP_q he] at h; exact absurd h he
theorem takeP_len {L : List (List Tok3)} {z : Int} (hL : LsOK L) : (takeP L z).1.R.length ≤ 100000 := by
  by_cases h : (takeP L z).2.2.2 = 0
  · have := (takeP_sm h).2.2.2.2.1; have := hL.len; omega
  · rw [takeP_bad h]; simp [ob0]
theorem opr_len {l : List UInt8} (hl : l.length ≤ 100000) : (opr l).1.R.length ≤ 100000 := by
  have ht := takeP_len (z := (l.length : Int)) (lnsT_ok hl)
  unfold opr
  by_cases h : (takeP (lnsT l) l.length).2.2.2 = 0
  · rw [oprs_ok h]
    split
    · simp [ob0]
    · exact ht
  · rw [oprs_bad h]; simp [ob0]
theorem nxt_pos {L : List (List Tok3)} (h : (nxt L).1.length ≠ 0) : 0 < (said L).length := by
  rcases Nat.eq_zero_or_pos (said L).length with h0 | h0
  · have := (nxt_said L).1
    rw [List.length_eq_zero_iff.1 h0] at this
    rw [← this] at h; exact absurd rfl h
  · exact h0
theorem rowsGo_cnt {z : Int} : ∀ (m : Nat) (L : List (List Tok3)) (R : List Rw) (P : List Int), (rowsGo z m L R P).2.2.2.2 = 0 → m ≤ (said L).length
  | 0, L, R, P, _ => Nat.zero_le _
  | m + 1, L, R, P, h => by
    by_cases he : (nums (nxt L).1 wRow lo4 hi4 z).2.2 = 0
    · rw [rowsGo_ok he] at h
      have h0 := nxt_pos (nums_ok he).1
      have h1 := rowsGo_cnt m _ _ _ h
      rw [(nxt_said L).2, List.length_drop] at h1
      omega
    · rw [rowsGo_bad he] at h; exact absurd h he
theorem takeP_cnt {L : List (List Tok3)} {z : Int} (h : (takeP L z).2.2.2 = 0) : (takeP L z).1.R.length + 1 ≤ (said L).length := by
  by_cases he : (tq L z).2.2 = 0
  · by_cases hg : (tg L z).2.2.2.2 = 0
    · have ho := takeP_o he hg
      by_cases c1 : obE (tob L z) = 2
      · rw [if_pos c1] at ho; rw [ho] at h; cases h
      · by_cases c2 : obE (tob L z) = 0
        · rw [if_neg c1, if_neg (by simpa using c2)] at ho
          rw [ho]
          have h0 := nxt_pos (nums_ok he).1
          have h1 := rowsGo_cnt _ _ _ _ hg
          rw [(nxt_said L).2, List.length_drop] at h1
          have g3 : (tg L z).1.length = _ := (rowsGo_said _ _ _ _ hg).2
          show (tg L z).1.length + 1 ≤ _
          rw [g3, List.length_nil]; omega
        · rw [if_neg c1, if_pos c2] at ho; rw [ho] at h; exact absurd h c2
    · rw [takeP_g he hg] at h; exact absurd h hg
  · rw [takeP_q he] at h; exact absurd h he
end Go.Proofs.YtpamcgpdmphfhaaDoor
namespace Go.Proofs.YtpamcgpdmphfhaaDoor
open Go.RowKit
set_option linter.unusedVariables false
set_option linter.unusedSimpArgs false
set_option maxRecDepth 100000 in
set_option maxHeartbeats 1000000 in
theorem pf_sameI24 (xs ys : List Int) (hx : xs.length ≤ 1000000) (hy : ys.length ≤ 1000000) : PF Tryd.prog 23 [.iv (iInts xs), .iv (iInts ys)] fun r H' => r = lt (.bool (decide (xs = ys))) ∧ H' = [] := by
  refine SF.forgetAll ?_
  (refine SF_of_bodyX (aload tt) (aload_ok tyOK) Tryd.func23 rfl (by kernel_rfl) ?_; simp only [Tryd.ntmps23, List.length_cons, List.length_nil, Nat.reduceAdd, Nat.reduceSub, List.replicate_succ, List.replicate_zero, List.cons_append, List.nil_append])
  unfold iInts
  by_cases hl : xs.length = ys.length
  · (repeat (first | (first | (with_reducible first | refine AX_block ?_ | refine AX_skip ?_ | refine AX_exit ?_ | refine AX_ret ?_ | refine AX_ift ?_ | refine AX_iff ?_ | refine AX_seq_k (fun K hK => ?_) | refine ContX.use (by assumption) ?_) | simp only [thenX, inBlockX, if_true, if_false, reduceCtorEq]) | (first | ((first | (with_reducible refine XRes_op tyOK ?_ ?_) | ((with_reducible first | refine ADF_op tyOK ?_ ?_ ?_ | refine ADX_op tyOK ?_ ?_ ?_); (focus rfl)) | (with_reducible refine ADR_alloc1 tyOK ?_ ?_) | ((with_reducible refine ADR_free1 tyOK ?_ ?_ ?_); (focus rfl)) | ((with_reducible refine ADR_free0 tyOK ?_ ?_ ?_); (focus rfl)) | ((with_reducible refine ADR_read1 tyOK ?_ ?_ ?_); (focus rfl)) | (with_reducible refine ADR_chg1 tyOK ?_ ?_)); (focus (first | (with_reducible rfl) | ((simp (disch := omega) only [go_sem]); done))); simp (disch := omega) only [go_sem , List.length_nil]; (first | (with_reducible refine XRes_id ?_) | (with_reducible refine ADF_id ?_) | (with_reducible refine ADR_id1 ?_) | (with_reducible refine ADX_id ?_))) | ((first | (with_reducible refine XRes_skip ?_ ?_) | (with_reducible refine ADF_skip (b := true) ?_ ?_) | (with_reducible refine ADX_skip ?_ ?_) | ((with_reducible refine ADR_skip1 ?_ ?_ ?_); (focus rfl))); (focus (first | rfl | ((simp (disch := omega) only [go_sem]); done))); (simp only [putL, List.set_cons_succ, List.set_cons_zero]))) | ((first | (with_reducible refine XRes_nil ?_) | (with_reducible refine ADF_nil ?_) | (with_reducible refine ADR_nil ?_) | (with_reducible refine ADX_nil ?_)); (first | refine hK _ ?_ | refine hK _ _ ?_); clear hK K) | ((first | (with_reducible refine AX_reg0 fun K hK => ?_) | (refine AX_drawG1 tyOK (by kernel_rfl) (by rfl) (by kernel_rfl) fun K hK => ?_) | (refine AX_drawT tyOK (by kernel_rfl) (by decide +kernel) fun K hK => ?_) | (refine AX_drawM1 (by kernel_rfl) (by rfl) (by decide +kernel) fun K hK => ?_) | (refine AX_drawA tyOK (by kernel_rfl) (by decide +kernel) fun K hK => ?_)); (first | simp only [go_sem, preN, effOp, runF, alM, mapOp, alD2, kdOf2, Bool.not_false, Bool.not_true, reduceCtorEq] | simp only [go_sem, preN, effOp, runF, alM, mapOp, Bool.not_false, Bool.not_true, reduceCtorEq] | simp only [go_sem, preN, effOp, runF, alD2, kdOf2, Bool.not_false, Bool.not_true, reduceCtorEq] | simp only [go_sem, alD2, kdOf2, Bool.not_false, Bool.not_true, reduceCtorEq] | simp only [go_sem, preN, effOp, runF, Bool.not_false, Bool.not_true, reduceCtorEq] | simp only [go_sem])) | ((first | (first | (refine XRes_eqA (us := [_, _]) (vs2 := [_, _]) rfl (by first | exact .inl rfl | exact .inr rfl) rfl rfl rfl rfl (by kernel_rfl) ?_) | (refine XRes_eqA (us := [_, _, _]) (vs2 := [_, _, _]) rfl (by first | exact .inl rfl | exact .inr rfl) rfl rfl rfl rfl (by kernel_rfl) ?_) | (refine XRes_eqA (us := [_, _, _, _, _]) (vs2 := [_, _, _, _, _]) rfl (by first | exact .inl rfl | exact .inr rfl) rfl rfl rfl rfl (by kernel_rfl) ?_)) | (first | (refine ADF_eqA (us := [_, _]) (vs2 := [_, _]) rfl (by first | exact .inl rfl | exact .inr rfl) rfl rfl rfl rfl (by kernel_rfl) ?_) | (refine ADF_eqA (us := [_, _, _]) (vs2 := [_, _, _]) rfl (by first | exact .inl rfl | exact .inr rfl) rfl rfl rfl rfl (by kernel_rfl) ?_) | (refine ADF_eqA (us := [_, _, _, _, _]) (vs2 := [_, _, _, _, _]) rfl (by first | exact .inl rfl | exact .inr rfl) rfl rfl rfl rfl (by kernel_rfl) ?_))); (simp only [putL, List.set_cons_succ, List.set_cons_zero]))))
    (refine AWH (σ := Nat) [11, 12, 13, 14, 17, 18, 19, 20, 21, 22, 23, 24, 25, 4, 15, 16] (fun k => [(5, lint k)]) (fun k => []) (fun k => []) (fun k => k ≤ xs.length ∧ ∀ i, i < k → xs.getD i 0 = ys.getD i 0) (fun k => xs.length - k) 0 (by first | exact ⟨Nat.zero_le _, fun i h => absurd h (by omega)⟩) ?_; rintro k d fr hfr ⟨hk, hp⟩; simp only [updS, deadS, List.set_cons_succ, List.set_cons_zero, lint] at hfr; subst hfr; (try dsimp only))
    (repeat' (first | (first | (with_reducible first | refine AX_block ?_ | refine AX_skip ?_ | refine AX_exit ?_ | refine AX_ret ?_ | refine AX_ift ?_ | refine AX_iff ?_ | refine AX_seq_k (fun K hK => ?_) | refine ContX.use (by assumption) ?_) | simp only [thenX, inBlockX, if_true, if_false, reduceCtorEq]) | (first | ((first | (with_reducible refine XRes_op tyOK ?_ ?_) | ((with_reducible first | refine ADF_op tyOK ?_ ?_ ?_ | refine ADX_op tyOK ?_ ?_ ?_); (focus rfl)) | (with_reducible refine ADR_alloc1 tyOK ?_ ?_) | ((with_reducible refine ADR_free1 tyOK ?_ ?_ ?_); (focus rfl)) | ((with_reducible refine ADR_free0 tyOK ?_ ?_ ?_); (focus rfl)) | ((with_reducible refine ADR_read1 tyOK ?_ ?_ ?_); (focus rfl)) | (with_reducible refine ADR_chg1 tyOK ?_ ?_)); (focus (first | (with_reducible rfl) | ((simp (disch := omega) only [go_sem]); done))); simp (disch := omega) only [go_sem , List.length_nil]; (first | (with_reducible refine XRes_id ?_) | (with_reducible refine ADF_id ?_) | (with_reducible refine ADR_id1 ?_) | (with_reducible refine ADX_id ?_))) | ((first | (with_reducible refine XRes_skip ?_ ?_) | (with_reducible refine ADF_skip (b := true) ?_ ?_) | (with_reducible refine ADX_skip ?_ ?_) | ((with_reducible refine ADR_skip1 ?_ ?_ ?_); (focus rfl))); (focus (first | rfl | ((simp (disch := omega) only [go_sem]); done))); (simp only [putL, List.set_cons_succ, List.set_cons_zero]))) | ((first | (with_reducible refine XRes_nil ?_) | (with_reducible refine ADF_nil ?_) | (with_reducible refine ADR_nil ?_) | (with_reducible refine ADX_nil ?_)); (first | refine hK _ ?_ | refine hK _ _ ?_); clear hK K) | ((first | (with_reducible refine AX_reg0 fun K hK => ?_) | (refine AX_drawG1 tyOK (by kernel_rfl) (by rfl) (by kernel_rfl) fun K hK => ?_) | (refine AX_drawT tyOK (by kernel_rfl) (by decide +kernel) fun K hK => ?_) | (refine AX_drawM1 (by kernel_rfl) (by rfl) (by decide +kernel) fun K hK => ?_) | (refine AX_drawA tyOK (by kernel_rfl) (by decide +kernel) fun K hK => ?_)); (first | simp only [go_sem, preN, effOp, runF, alM, mapOp, alD2, kdOf2, Bool.not_false, Bool.not_true, reduceCtorEq] | simp only [go_sem, preN, effOp, runF, alM, mapOp, Bool.not_false, Bool.not_true, reduceCtorEq] | simp only [go_sem, preN, effOp, runF, alD2, kdOf2, Bool.not_false, Bool.not_true, reduceCtorEq] | simp only [go_sem, alD2, kdOf2, Bool.not_false, Bool.not_true, reduceCtorEq] | simp only [go_sem, preN, effOp, runF, Bool.not_false, Bool.not_true, reduceCtorEq] | simp only [go_sem])) | ((first | (first | (refine XRes_eqA (us := [_, _]) (vs2 := [_, _]) rfl (by first | exact .inl rfl | exact .inr rfl) rfl rfl rfl rfl (by kernel_rfl) ?_) | (refine XRes_eqA (us := [_, _, _]) (vs2 := [_, _, _]) rfl (by first | exact .inl rfl | exact .inr rfl) rfl rfl rfl rfl (by kernel_rfl) ?_) | (refine XRes_eqA (us := [_, _, _, _, _]) (vs2 := [_, _, _, _, _]) rfl (by first | exact .inl rfl | exact .inr rfl) rfl rfl rfl rfl (by kernel_rfl) ?_)) | (first | (refine ADF_eqA (us := [_, _]) (vs2 := [_, _]) rfl (by first | exact .inl rfl | exact .inr rfl) rfl rfl rfl rfl (by kernel_rfl) ?_) | (refine ADF_eqA (us := [_, _, _]) (vs2 := [_, _, _]) rfl (by first | exact .inl rfl | exact .inr rfl) rfl rfl rfl rfl (by kernel_rfl) ?_) | (refine ADF_eqA (us := [_, _, _, _, _]) (vs2 := [_, _, _, _, _]) rfl (by first | exact .inl rfl | exact .inr rfl) rfl rfl rfl rfl (by kernel_rfl) ?_))); (simp only [putL, List.set_cons_succ, List.set_cons_zero])) | ((first | (refine XRes_splitG (by rfl) (fun hc => ?_) (fun hc => ?_)) | (refine ADF_splitG (by rfl) (fun hc => ?_) (fun hc => ?_))) <;> (try simp only [eqRes, List.cons_beq_cons, Bool.and_eq_true, Bool.not_eq_true, Bool.and_eq_false_iff, decide_eq_true_eq, decide_eq_false_iff_not, bne_iff_ne, beq_iff_eq, bne_eq_false_iff_eq, beq_eq_false_iff_ne, Bool.not_eq_true', Bool.not_eq_false', ne_eq, Int.not_lt, Int.not_le, Decidable.not_not] at hc) <;> simp only [List.set_cons_succ, List.set_cons_zero]) | (first | ((with_reducible refine AX_if_t ?_ ?_); focus (simp (disch := omega) only [go_sem , List.length_nil]; done)) | ((with_reducible refine AX_if_f ?_ ?_); focus (simp (disch := omega) only [go_sem , List.length_nil]; done)) | (refine AX_cond _ (by rfl) (fun hc => ?_) (fun hc => ?_) <;> (try simp only [eqRes, List.cons_beq_cons, Bool.and_eq_true, Bool.not_eq_true, Bool.and_eq_false_iff, decide_eq_true_eq, decide_eq_false_iff_not, bne_iff_ne, beq_iff_eq, bne_eq_false_iff_eq, beq_eq_false_iff_ne, Bool.not_eq_true', Bool.not_eq_false', ne_eq, Int.not_lt, Int.not_le, Decidable.not_not] at hc)))))
    · (simp only [bodyX]; refine ⟨_, by simp only [aresults, aresult, XS.as, Tryd.results23, aload, go_sem, Option.bind_some]; rfl, ?_⟩)
      exact ⟨.iv _, (by rw [decide_eq_false]; intro e; subst e; exact hc rfl), trivial⟩
    · exact whx_end (k + 1) ⟨by omega, fun i hi => by
        rcases Nat.lt_or_ge i k with h | h
        · exact hp i h
        · rw [show i = k by omega]; exact hc⟩ (by (first | omega | (dsimp only; omega) | (simp only; omega))) rfl (by first | rfl | (simp (disch := omega) only [go_sem, lint])) (fun d => by first | ((simp only [deadS, updS, List.set_cons_succ, List.set_cons_zero, lint, List.length_nil, List.length_cons]); done) | ((simp only [deadS, updS, List.set_cons_succ, List.set_cons_zero, lint, List.length_nil, List.length_cons]); rfl) | rfl)
    · (simp only [bodyX]; refine ⟨_, by simp only [aresults, aresult, XS.as, Tryd.results23, aload, go_sem, Option.bind_some]; rfl, ?_⟩)
      refine ⟨.iv _, (by
        rw [decide_eq_true]
        apply List.ext_getElem hl
        intro i h1 h2
        have := hp i (by omega)
        simpa [List.getD, h1, h2] using this), trivial⟩
  · (repeat' (first | (first | (with_reducible first | refine AX_block ?_ | refine AX_skip ?_ | refine AX_exit ?_ | refine AX_ret ?_ | refine AX_ift ?_ | refine AX_iff ?_ | refine AX_seq_k (fun K hK => ?_) | refine ContX.use (by assumption) ?_) | simp only [thenX, inBlockX, if_true, if_false, reduceCtorEq]) | (first | ((first | (with_reducible refine XRes_op tyOK ?_ ?_) | ((with_reducible first | refine ADF_op tyOK ?_ ?_ ?_ | refine ADX_op tyOK ?_ ?_ ?_); (focus rfl)) | (with_reducible refine ADR_alloc1 tyOK ?_ ?_) | ((with_reducible refine ADR_free1 tyOK ?_ ?_ ?_); (focus rfl)) | ((with_reducible refine ADR_free0 tyOK ?_ ?_ ?_); (focus rfl)) | ((with_reducible refine ADR_read1 tyOK ?_ ?_ ?_); (focus rfl)) | (with_reducible refine ADR_chg1 tyOK ?_ ?_)); (focus (first | (with_reducible rfl) | ((simp (disch := omega) only [go_sem]); done))); simp (disch := omega) only [go_sem , List.length_nil]; (first | (with_reducible refine XRes_id ?_) | (with_reducible refine ADF_id ?_) | (with_reducible refine ADR_id1 ?_) | (with_reducible refine ADX_id ?_))) | ((first | (with_reducible refine XRes_skip ?_ ?_) | (with_reducible refine ADF_skip (b := true) ?_ ?_) | (with_reducible refine ADX_skip ?_ ?_) | ((with_reducible refine ADR_skip1 ?_ ?_ ?_); (focus rfl))); (focus (first | rfl | ((simp (disch := omega) only [go_sem]); done))); (simp only [putL, List.set_cons_succ, List.set_cons_zero]))) | ((first | (with_reducible refine XRes_nil ?_) | (with_reducible refine ADF_nil ?_) | (with_reducible refine ADR_nil ?_) | (with_reducible refine ADX_nil ?_)); (first | refine hK _ ?_ | refine hK _ _ ?_); clear hK K) | ((first | (with_reducible refine AX_reg0 fun K hK => ?_) | (refine AX_drawG1 tyOK (by kernel_rfl) (by rfl) (by kernel_rfl) fun K hK => ?_) | (refine AX_drawT tyOK (by kernel_rfl) (by decide +kernel) fun K hK => ?_) | (refine AX_drawM1 (by kernel_rfl) (by rfl) (by decide +kernel) fun K hK => ?_) | (refine AX_drawA tyOK (by kernel_rfl) (by decide +kernel) fun K hK => ?_)); (first | simp only [go_sem, preN, effOp, runF, alM, mapOp, alD2, kdOf2, Bool.not_false, Bool.not_true, reduceCtorEq] | simp only [go_sem, preN, effOp, runF, alM, mapOp, Bool.not_false, Bool.not_true, reduceCtorEq] | simp only [go_sem, preN, effOp, runF, alD2, kdOf2, Bool.not_false, Bool.not_true, reduceCtorEq] | simp only [go_sem, alD2, kdOf2, Bool.not_false, Bool.not_true, reduceCtorEq] | simp only [go_sem, preN, effOp, runF, Bool.not_false, Bool.not_true, reduceCtorEq] | simp only [go_sem])) | ((first | (first | (refine XRes_eqA (us := [_, _]) (vs2 := [_, _]) rfl (by first | exact .inl rfl | exact .inr rfl) rfl rfl rfl rfl (by kernel_rfl) ?_) | (refine XRes_eqA (us := [_, _, _]) (vs2 := [_, _, _]) rfl (by first | exact .inl rfl | exact .inr rfl) rfl rfl rfl rfl (by kernel_rfl) ?_) | (refine XRes_eqA (us := [_, _, _, _, _]) (vs2 := [_, _, _, _, _]) rfl (by first | exact .inl rfl | exact .inr rfl) rfl rfl rfl rfl (by kernel_rfl) ?_)) | (first | (refine ADF_eqA (us := [_, _]) (vs2 := [_, _]) rfl (by first | exact .inl rfl | exact .inr rfl) rfl rfl rfl rfl (by kernel_rfl) ?_) | (refine ADF_eqA (us := [_, _, _]) (vs2 := [_, _, _]) rfl (by first | exact .inl rfl | exact .inr rfl) rfl rfl rfl rfl (by kernel_rfl) ?_) | (refine ADF_eqA (us := [_, _, _, _, _]) (vs2 := [_, _, _, _, _]) rfl (by first | exact .inl rfl | exact .inr rfl) rfl rfl rfl rfl (by kernel_rfl) ?_))); (simp only [putL, List.set_cons_succ, List.set_cons_zero])) | ((first | (refine XRes_splitG (by rfl) (fun hc => ?_) (fun hc => ?_)) | (refine ADF_splitG (by rfl) (fun hc => ?_) (fun hc => ?_))) <;> (try simp only [eqRes, List.cons_beq_cons, Bool.and_eq_true, Bool.not_eq_true, Bool.and_eq_false_iff, decide_eq_true_eq, decide_eq_false_iff_not, bne_iff_ne, beq_iff_eq, bne_eq_false_iff_eq, beq_eq_false_iff_ne, Bool.not_eq_true', Bool.not_eq_false', ne_eq, Int.not_lt, Int.not_le, Decidable.not_not] at hc) <;> simp only [List.set_cons_succ, List.set_cons_zero]) | (first | ((with_reducible refine AX_if_t ?_ ?_); focus (simp (disch := omega) only [go_sem , List.length_nil]; done)) | ((with_reducible refine AX_if_f ?_ ?_); focus (simp (disch := omega) only [go_sem , List.length_nil]; done)) | (refine AX_cond _ (by rfl) (fun hc => ?_) (fun hc => ?_) <;> (try simp only [eqRes, List.cons_beq_cons, Bool.and_eq_true, Bool.not_eq_true, Bool.and_eq_false_iff, decide_eq_true_eq, decide_eq_false_iff_not, bne_iff_ne, beq_iff_eq, bne_eq_false_iff_eq, beq_eq_false_iff_ne, Bool.not_eq_true', Bool.not_eq_false', ne_eq, Int.not_lt, Int.not_le, Decidable.not_not] at hc)))))
    (simp only [bodyX]; refine ⟨_, by simp only [aresults, aresult, XS.as, Tryd.results23, aload, go_sem, Option.bind_some]; rfl, ?_⟩)
    exact ⟨.iv _, (by rw [decide_eq_false]; intro e; subst e; exact hl rfl), trivial⟩
end Go.Proofs.YtpamcgpdmphfhaaDoor
namespace Go.Proofs.YtpamcgpdmphfhaaDoor
open Go.RowKit Go.Lib
set_option linter.unusedVariables false
set_option linter.unusedSimpArgs false
def tq1 : List UInt8 := [111, 98, 106, 101, 99, 116, 32, 49, 32, 49, 32, 48, 32, 49, 10, 114, 111, 119, 32, 48, 32, 48, 32, 48, 32, 55, 10]
theorem lns_q1 : lns 1 0 tq1 = [(1, 0, [(0, [111, 98, 106, 101, 99, 116]), (7, [49]), (9, [49]), (11, [48]), (13, [49])]), (2, 15, [(0, [114, 111, 119]), (4, [48]), (6, [48]), (8, [48]), (10, [55])])] := by
  unfold tq1
  simp [lns, lnLen, noNl, lineTk, remark, hasPrefix, tk, isSp, noSp, List.takeWhile, List.dropWhile]
def tq2 : List UInt8 := [111, 98, 106, 101, 99, 116, 32, 49, 32, 49, 32, 48, 32, 49, 10, 114, 111, 119, 32, 49, 32, 48, 32, 48, 32, 55]
theorem lns_q2 : lns 1 0 tq2 = [(1, 0, [(0, [111, 98, 106, 101, 99, 116]), (7, [49]), (9, [49]), (11, [48]), (13, [49])]), (2, 15, [(0, [114, 111, 119]), (4, [49]), (6, [48]), (8, [48]), (10, [55])])] := by
  unfold tq2
  simp [lns, lnLen, noNl, lineTk, remark, hasPrefix, tk, isSp, noSp, List.takeWhile, List.dropWhile]
def tq3 : List UInt8 := [111, 98, 106, 101, 99, 116, 32, 49, 32, 49, 32, 48, 32, 49, 10, 114, 111, 119, 32, 48, 32, 48, 32, 48]
theorem lns_q3 : lns 1 0 tq3 = [(1, 0, [(0, [111, 98, 106, 101, 99, 116]), (7, [49]), (9, [49]), (11, [48]), (13, [49])]), (2, 15, [(0, [114, 111, 119]), (4, [48]), (6, [48]), (8, [48])])] := by
  unfold tq3
  simp [lns, lnLen, noNl, lineTk, remark, hasPrefix, tk, isSp, noSp, List.takeWhile, List.dropWhile]
def tq4 : List UInt8 := [111, 98, 106, 101, 99, 116, 32, 49, 32, 49, 32, 48, 32, 48, 10, 114, 101, 115, 116]
theorem lns_q4 : lns 1 0 tq4 = [(1, 0, [(0, [111, 98, 106, 101, 99, 116]), (7, [49]), (9, [49]), (11, [48]), (13, [48])]), (2, 15, [(0, [114, 101, 115, 116])])] := by
  unfold tq4
  simp [lns, lnLen, noNl, lineTk, remark, hasPrefix, tk, isSp, noSp, List.takeWhile, List.dropWhile]
deriving instance DecidableEq for Ob
instance : DecidableEq Tok3 := inferInstanceAs (DecidableEq (_ × _ × _))
def o24 : Ob := ⟨1, 1, 0, [⟨0, 0, 0, 7⟩]⟩
theorem opr_q1 : opr tq1 = (o24, 27, 0) := by unfold opr lnsT; rw [lns_q1]; decide +kernel
theorem opr_q2 : opr tq2 = (ob0, 15, 30) := by unfold opr lnsT; rw [lns_q2]; decide +kernel
theorem opr_q3 : opr tq3 = (ob0, 24, 4) := by unfold opr lnsT; rw [lns_q3]; decide +kernel
theorem takeP_q4 : takeP (lnsT tq4) 19 = (⟨1, 1, 0, []⟩, [[(2, 15, [114, 101, 115, 116])]], 19, 0) := by unfold lnsT; rw [lns_q4]; decide +kernel
theorem obB_q1 : obB o24 = tq1 := by decide +kernel
def t24 : List Tok3 := [(0, 0, [120]), (0, 2, [53])]
theorem nums_q : nums t24 [120] [0] [9] 3 = ([5], 3, 0) := by decide +kernel
theorem t24_ok : TokOK t24 := ⟨by decide, fun j => by
  match j with
  | 0 => decide
  | 1 => decide
  | j + 2 => exact Nat.zero_le _, fun j => by
  match j with
  | 0 => decide
  | 1 => decide
  | j + 2 => exact ⟨Int.le_refl _, by show (0 : Int) ≤ _; decide⟩⟩
theorem o24_sm : ObSm o24 := ⟨by decide, by decide, by decide, by decide, fun i hi => by
  obtain rfl : i = 0 := by have : o24.R.length = 1 := rfl; omega
  decide⟩
section
variable {P : Program} {tt : TT} {m : Nat} {Q : Exit → XS → Prop} {fr : List AV} {H : AHeap} {M : MS} {l : List Oper}
theorem snapC_tokL {H : AHeap} {o : Nat} {t : TypeId} {T : List Tok3} (h : H[o]? = some (some ⟨t, (tokL T).map lt⟩)) : SnapC H (.osl o 0 T.length 3) (iTokL T) :=
  .osl o 0 T.length 3 _ _ (fun j => lt ((tokL T).getD j undef)) (by decide) h (fun j hj => by
    have hj' : j < (tokL T).length := by rw [tokL_len]; exact hj
    rw [Nat.zero_add]
    show ((tokL T).map lt)[j]? = _
    rw [List.getElem?_map, List.getElem?_eq_getElem hj']
    simp [List.getD_eq_getElem?_getD, List.getElem?_eq_getElem hj']) fun j _ => .iv _
theorem XRes_litTk (hT : TyOK P tt) (T : List Tok3) {d : Option Tmp} {t n : Nat} {ps : Array (Nat × Operand)} {ty : TypeId} {pos : String} {after : Array Edge} {g : Option (Nat × Bool)} (hw : wantedS fr ⟨d, .buildSlice t n ps, ty, pos, after, g⟩ = some true)
    {e : TypeId} (ha : abuildSlice tt [] t n (ps.toList.map fun p => (p.1, AS.ev ⟨fr, H⟩ p.2)) = some (.osl 0 0 T.length 3, [some ⟨e, (tokL T).map lt⟩]))
    (h : XRes P m Q (l, ⟨putL fr d (.iv (iTokL T)), H, M⟩)) : XRes P m Q (⟨d, .buildSlice t n ps, ty, pos, after, g⟩ :: l, ⟨fr, H, M⟩) := by
  obtain ⟨len', sz', e1, e2⟩ := abuildSlice_at ha
  cases e1
  exact XRes_lit hT (iTokL T) hw (x := .osl H.length 0 T.length 3) (obj := ⟨e, (tokL T).map lt⟩) (by simp only [aop]; exact e2 H) (snapC_tokL (t := e) (only_mk (by simp) (by simp))) h
end
theorem q24_P1 : PF Tryd.prog 8 [lt (.string (ba tq1))] fun r H' => r = .tup [obA o24, lt (.int .i64 27), lt (.int .i64 0)] ∧ H' = [] := by
  have h := pf_oParse tq1 (by decide)
  rw [opr_q1] at h; exact h
theorem q24_P2 : PF Tryd.prog 8 [lt (.string (ba tq2))] fun r H' => r = .tup [obA ob0, lt (.int .i64 15), lt (.int .i64 30)] ∧ H' = [] := by
  have h := pf_oParse tq2 (by decide)
  rw [opr_q2] at h; exact h
theorem q24_P3 : PF Tryd.prog 8 [lt (.string (ba tq3))] fun r H' => r = .tup [obA ob0, lt (.int .i64 24), lt (.int .i64 4)] ∧ H' = [] := by
  have h := pf_oParse tq3 (by decide)
  rw [opr_q3] at h; exact h
theorem q24_L : PF Tryd.prog 12 [lt (.string (ba tq4))] fun r H' => r = .iv (iLs (lnsT tq4)) ∧ H' = [] := pf_LinesT tq4 (by decide)
theorem q24_T : PF Tryd.prog 11 [.iv (iLs (lnsT tq4)), lt (.int .i64 19)] fun r H' => r = .tup [obA ⟨1, 1, 0, []⟩, .iv (iLs [[(2, 15, [114, 101, 115, 116])]]), lt (.int .i64 19), lt (.int .i64 0)] ∧ H' = [] := by
  have h := pf_Take (lnsT tq4) 19 (lnsT_ok (by decide))
  rw [takeP_q4] at h; exact h
theorem q24_N : PF Tryd.prog 21 [.iv (iTokL t24), lt (.string (ba [120])), .iv (iInts [0]), .iv (iInts [9]), lt (.int .i64 3)] fun r H' => r = .tup [.iv (iInts [5]), lt (.int .i64 3), lt (.int .i64 0)] ∧ H' = [] := by
  have h := pf_nums t24 [120] [0] [9] 3 t24_ok (by decide) (by decide)
  rw [nums_q] at h; exact h
theorem q24_Pr : PF Tryd.prog 19 [obA o24] fun r H' => r = .tup [lt (.string (ba tq1)), lt (.int .i64 0)] ∧ H' = [] := by
  have hk := pf_obCheck o24 (by decide) ⟨by decide, by decide, by decide⟩
  rw [show obE o24 = 0 by decide +kernel] at hk
  have h := pf_oPrint 1 1 0 [⟨0, 0, 0, 7⟩] _ o24_sm hk
  rw [show (⟨1, 1, 0, [⟨0, 0, 0, 7⟩]⟩ : Ob) = o24 from rfl, obB_q1] at h; exact h
theorem q24_S : PF Tryd.prog 10 [obA o24, obA o24] fun r H' => r = lt (.bool true) ∧ H' = [] := by
  have h := pf_rObSame o24 o24 (by decide) (by decide)
  rwa [show obSm o24 o24 = true by decide +kernel] at h
theorem q24_SI : PF Tryd.prog 23 [.iv (iInts [5]), .iv (iInts [5])] fun r H' => r = lt (.bool true) ∧ H' = [] := by
  have h := pf_sameI24 [5] [5] (by decide) (by decide)
  rwa [show decide (([5] : List Int) = [5]) = true by decide] at h
set_option maxRecDepth 100000 in
set_option maxHeartbeats 4000000 in
theorem pf_awake24 : PF Tryd.prog 7 [] fun r H' => r = lt (.bool true) ∧ H' = [] := by
  refine SF.forgetAll ?_
  have hs3 := trivial; have hs4 := trivial
  have hs2 := trivial
  have hs1 : (⟨#[111, 98, 106, 101, 99, 116, 32, 49, 32, 49, 32, 48, 32, 49, 10, 114, 111, 119, 32, 48, 32, 48, 32, 48, 32, 55, 10]⟩ : ByteArray).toList = tq1 := ba_toList tq1
  have hP1 := q24_P1
  have hP2 := q24_P2
  have hP3 := q24_P3
  have hPr := q24_Pr
  have hN := q24_N
  have hS := q24_S
  have hL := q24_L
  have hT := q24_T
  have hSI := q24_SI
  rw [show iLs [[(2, 15, [114, 101, 115, 116])]] = .sl (fun j => iTokL (([[(2, 15, [114, 101, 115, 116])]] : List (List Tok3)).getD j [])) 1 1 from rfl] at hT
  unfold obA at hP1 hP2 hP3 hPr hS hT
  dsimp only [o24, ob0] at hP1 hP2 hP3 hPr hS hT
  (refine SF_of_bodyX (aload tt) (aload_ok tyOK) Tryd.func7 rfl (by kernel_rfl) ?_; simp only [Tryd.ntmps7, List.length_cons, List.length_nil, Nat.reduceAdd, Nat.reduceSub, List.replicate_succ, List.replicate_zero, List.cons_append, List.nil_append])
  repeat (first | (first | (with_reducible first | refine AX_block ?_ | refine AX_skip ?_ | refine AX_exit ?_ | refine AX_ret ?_ | refine AX_ift ?_ | refine AX_iff ?_ | refine AX_seq_k (fun K hK => ?_) | refine ContX.use (by assumption) ?_) | simp only [thenX, inBlockX, if_true, if_false, reduceCtorEq]) | ((first | (refine XRes_litTk tyOK t24 (by rfl) rfl ?_) | (refine XRes_litF tyOK (by rfl) rfl (by decide) rfl rfl ?_) | (refine ADF_litF tyOK (by rfl) rfl (by decide) rfl rfl ?_)); (try (simp only [List.map_cons, List.map_nil, intOf, putL, List.set_cons_succ, List.set_cons_zero]))) | (first | ((first | (with_reducible refine XRes_op tyOK ?_ ?_) | ((with_reducible first | refine ADF_op tyOK ?_ ?_ ?_ | refine ADX_op tyOK ?_ ?_ ?_); (focus rfl)) | (with_reducible refine ADR_alloc1 tyOK ?_ ?_) | ((with_reducible refine ADR_free1 tyOK ?_ ?_ ?_); (focus rfl)) | ((with_reducible refine ADR_free0 tyOK ?_ ?_ ?_); (focus rfl)) | ((with_reducible refine ADR_read1 tyOK ?_ ?_ ?_); (focus rfl)) | (with_reducible refine ADR_chg1 tyOK ?_ ?_)); (focus (first | (with_reducible rfl) | ((simp (disch := omega) only [go_sem]); done))); simp (disch := omega) only [go_sem , hs1, hs2, hs3, hs4, Int.toNat_zero, Int.toNat_one, List.length_nil, beq_self_eq_true, ba_toList, iFlat, intOf]; (first | (with_reducible refine XRes_id ?_) | (with_reducible refine ADF_id ?_) | (with_reducible refine ADR_id1 ?_) | (with_reducible refine ADX_id ?_))) | ((first | (with_reducible refine XRes_skip ?_ ?_) | (with_reducible refine ADF_skip (b := true) ?_ ?_) | (with_reducible refine ADX_skip ?_ ?_) | ((with_reducible refine ADR_skip1 ?_ ?_ ?_); (focus rfl))); (focus (first | rfl | ((simp (disch := omega) only [go_sem]); done))); (simp only [putL, List.set_cons_succ, List.set_cons_zero]))) | ((first | (with_reducible refine XRes_nil ?_) | (with_reducible refine ADF_nil ?_) | (with_reducible refine ADR_nil ?_) | (with_reducible refine ADX_nil ?_)); (first | refine hK _ ?_ | refine hK _ _ ?_); clear hK K) | ((first | (with_reducible refine AX_reg0 fun K hK => ?_) | (refine AX_drawG1 tyOK (by kernel_rfl) (by rfl) (by kernel_rfl) fun K hK => ?_) | (refine AX_drawT tyOK (by kernel_rfl) (by decide +kernel) fun K hK => ?_) | (refine AX_drawM1 (by kernel_rfl) (by rfl) (by decide +kernel) fun K hK => ?_) | (refine AX_drawA tyOK (by kernel_rfl) (by decide +kernel) fun K hK => ?_)); (first | simp only [go_sem, preN, effOp, runF, alM, mapOp, alD2, kdOf2, Bool.not_false, Bool.not_true, reduceCtorEq] | simp only [go_sem, preN, effOp, runF, alM, mapOp, Bool.not_false, Bool.not_true, reduceCtorEq] | simp only [go_sem, preN, effOp, runF, alD2, kdOf2, Bool.not_false, Bool.not_true, reduceCtorEq] | simp only [go_sem, alD2, kdOf2, Bool.not_false, Bool.not_true, reduceCtorEq] | simp only [go_sem, preN, effOp, runF, Bool.not_false, Bool.not_true, reduceCtorEq] | simp only [go_sem])) | (first | (first | refine XTL (by rfl) hP1 ?_ | refine ATL tyOK (by rfl) hP1 ?_ | refine XTL (by rfl) hP2 ?_ | refine ATL tyOK (by rfl) hP2 ?_ | refine XTL (by rfl) hP3 ?_ | refine ATL tyOK (by rfl) hP3 ?_ | refine XTL (by rfl) hPr ?_ | refine ATL tyOK (by rfl) hPr ?_ | refine XTL (by rfl) hN ?_ | refine ATL tyOK (by rfl) hN ?_ | refine XTL (by rfl) hS ?_ | refine ATL tyOK (by rfl) hS ?_ | refine XTL (by rfl) hL ?_ | refine ATL tyOK (by rfl) hL ?_ | refine XTL (by rfl) hT ?_ | refine ATL tyOK (by rfl) hT ?_ | refine XTL (by rfl) hSI ?_ | refine ATL tyOK (by rfl) hSI ?_)))
  (simp only [bodyX]; refine ⟨_, by simp only [aresults, aresult, XS.as, Tryd.results7, aload, go_sem, Option.bind_some]; rfl, ?_⟩)
  exact ⟨ids_idB rfl, rfl, trivial⟩
end Go.Proofs.YtpamcgpdmphfhaaDoor
