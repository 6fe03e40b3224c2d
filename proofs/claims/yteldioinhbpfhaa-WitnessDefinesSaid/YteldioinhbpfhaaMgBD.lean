import Derived.Test.YteldioinhbpfhaaMgBB
import Derived.Test.YteldioinhbpfhaaMgBA
import Derived.Test.YteldioinhbpfhaaMgBC
namespace Go.Proofs.Yteldioinhbpfhaa
open Go.RowKit
set_option linter.unusedVariables false
set_option linter.unusedSimpArgs false
theorem We69ea {A B : Prop} (h9 : B) (w : B → A := by (intro h9; (repeat intro K hK); refine ⟨?_⟩; (repeat (first | (first | (with_reducible first | refine AX_block ?_ | refine AX_skip ?_ | refine AX_exit ?_ | refine AX_ret ?_ | refine AX_ift ?_ | refine AX_iff ?_ | refine AX_seq_k (fun K hK => ?_) | refine ContX.use (by assumption) ?_) | simp only [thenX, inBlockX, if_true, if_false, reduceCtorEq]) | (first | ((first | (with_reducible refine XRes_op tyOK ?_ ?_) | ((with_reducible first | refine ADF_op tyOK ?_ ?_ ?_ | refine ADX_op tyOK ?_ ?_ ?_); (focus rfl)) | (with_reducible refine ADR_alloc1 tyOK ?_ ?_) | ((with_reducible refine ADR_free1 tyOK ?_ ?_ ?_); (focus rfl)) | ((with_reducible refine ADR_free0 tyOK ?_ ?_ ?_); (focus rfl)) | ((with_reducible refine ADR_read1 tyOK ?_ ?_ ?_); (focus rfl)) | (with_reducible refine ADR_chg1 tyOK ?_ ?_)); (focus (first | (with_reducible rfl) | ((simp (disch := omega) only [go_sem]); done))); simp (disch := omega) only [go_sem , flatO_p, flatO_k, flatO_s, flatO_e, flatO_r, flatP_o, flatP_r, flatR_s, flatR_k, flatR_n, flatR_r, hs1, hs2, hs3, hs4, hs5, hs6, List.length_nil, Int.toNat_zero, Int.toNat_one]; (first | (with_reducible refine XRes_id ?_) | (with_reducible refine ADF_id ?_) | (with_reducible refine ADR_id1 ?_) | (with_reducible refine ADX_id ?_))) | ((first | (with_reducible refine XRes_skip ?_ ?_) | (with_reducible refine ADF_skip (b := true) ?_ ?_) | (with_reducible refine ADX_skip ?_ ?_) | ((with_reducible refine ADR_skip1 ?_ ?_ ?_); (focus rfl))); (focus (first | rfl | ((simp (disch := omega) only [go_sem]); done))); (simp only [putL, List.set_cons_succ, List.set_cons_zero]))) | ((first | (with_reducible refine XRes_nil ?_) | (with_reducible refine ADF_nil ?_) | (with_reducible refine ADR_nil ?_) | (with_reducible refine ADX_nil ?_)); (first | refine hK _ ?_ | refine hK _ _ ?_); clear hK K) | ((first | (with_reducible refine AX_reg0 fun K hK => ?_) | (refine AX_drawG1 tyOK (by kernel_rfl) (by rfl) (by kernel_rfl) fun K hK => ?_) | (refine AX_drawT tyOK (by kernel_rfl) (by decide +kernel) fun K hK => ?_) | (refine AX_drawM1 (by kernel_rfl) (by rfl) (by decide +kernel) fun K hK => ?_) | (refine AX_drawA tyOK (by kernel_rfl) (by decide +kernel) fun K hK => ?_)); (first | simp only [go_sem, preN, effOp, runF, alM, mapOp, alD2, kdOf2, Bool.not_false, Bool.not_true, reduceCtorEq] | simp only [go_sem, preN, effOp, runF, alM, mapOp, Bool.not_false, Bool.not_true, reduceCtorEq] | simp only [go_sem, preN, effOp, runF, alD2, kdOf2, Bool.not_false, Bool.not_true, reduceCtorEq] | simp only [go_sem, alD2, kdOf2, Bool.not_false, Bool.not_true, reduceCtorEq] | simp only [go_sem, preN, effOp, runF, Bool.not_false, Bool.not_true, reduceCtorEq] | simp only [go_sem])) | (first | (first | refine XTL (by rfl) h1 ?_ | refine ATL tyOK (by rfl) h1 ?_ | refine XTL (by rfl) h2 ?_ | refine ATL tyOK (by rfl) h2 ?_ | refine XTL (by rfl) hC ?_ | refine ATL tyOK (by rfl) hC ?_ | refine XTL (by rfl) hA ?_ | refine ATL tyOK (by rfl) hA ?_)))); refine Wk.o ?_; (repeat revert hK K); exact h9)) : A := w h9
set_option maxRecDepth 100000 in
set_option maxHeartbeats 2000000 in
theorem pf_rPlace (ps : List Pk) (x : Int) (hn : ps.length ≤ 1000000) : PF Try.prog 11 [.iv (iPks ps), lt (.int .i64 x)] fun r H' => r = lt (.int .i64 (wPl ps x)) ∧ H' = [] := by
  refine SF.forgetAll ?_
  have hs1 := trivial; have hs2 := trivial; have hs3 := trivial; have hs4 := trivial; have hs5 := trivial; have hs6 := trivial; have hC := trivial
  have h1 := trivial; have h2 := trivial
  (refine SF_of_bodyX (aload tt) (aload_ok tyOK) Try.func11 rfl (by kernel_rfl) ?_; simp only [Try.ntmps11, List.length_cons, List.length_nil, Nat.reduceAdd, Nat.reduceSub, List.replicate_succ, List.replicate_zero, List.cons_append, List.nil_append])
  (refine Wk.o ?_; (repeat revert hK K); refine We69ea ?_; (repeat intro K hK); refine ⟨?_⟩)
  (refine AWH (σ := Nat) [6, 7, 8, 9, 12, 13, 14, 15, 16, 17, 18, 19, 4, 10, 11] (fun i => [(5, lint i)]) (fun i => []) (fun i => []) (fun i => i ≤ ps.length ∧ ∀ j, j < i → (pkAt ps j).o ≠ x) (fun i => ps.length - i) 0 (by first | exact ⟨Nat.zero_le _, fun j h => absurd h (by omega)⟩) ?_; rintro i d fr hfr ⟨hi, hp⟩; simp only [updS, deadS, List.set_cons_succ, List.set_cons_zero, lint] at hfr; subst hfr; (try dsimp only))
  by_cases hlt : i < ps.length
  · by_cases he : (pkAt ps i).o = x
    · have hw : wPl ps x = i := by
        rcases wPl_or ps x with ⟨_, e2⟩ | ⟨y, e1, e2, e3, e4⟩
        · exact absurd he (e2 i hlt)
        · rcases Nat.lt_trichotomy i y with h | h | h
          · exact absurd he (e4 i h)
          · rw [e3, h]
          · exact absurd e2 (hp y h)
      (refine Wk.o ?_; (repeat revert hK K); refine We69ea ?_; (repeat intro K hK); refine ⟨?_⟩)
      (simp only [bodyX]; refine ⟨_, by simp only [aresults, aresult, XS.as, Try.results11, aload, go_sem, Option.bind_some]; rfl, ?_⟩)
      exact ⟨.iv _, by rw [hw], trivial⟩
    · (refine Wk.o ?_; (repeat revert hK K); refine We69ea ?_; (repeat intro K hK); refine ⟨?_⟩)
      exact whx_end (i + 1) ⟨by omega, fun j hj => by
        rcases Nat.lt_or_ge j i with h | h
        · exact hp j h
        · rw [show j = i by omega]; exact he⟩ (by (first | omega | (dsimp only; omega) | (simp only; omega))) rfl (by first | rfl | (simp (disch := omega) only [go_sem, lint])) (fun d => by first | ((simp only [deadS, updS, List.set_cons_succ, List.set_cons_zero, lint, List.length_nil, List.length_cons]); done) | ((simp only [deadS, updS, List.set_cons_succ, List.set_cons_zero, lint, List.length_nil, List.length_cons]); rfl) | rfl)
  · obtain rfl : i = ps.length := by omega
    have hw : wPl ps x = -1 := by
      rcases wPl_or ps x with ⟨e1, _⟩ | ⟨y, e1, e2, e3, e4⟩
      · exact e1
      · exact absurd e2 (hp y e1)
    (refine Wk.o ?_; (repeat revert hK K); refine We69ea ?_; (repeat intro K hK); refine ⟨?_⟩)
    (simp only [bodyX]; refine ⟨_, by simp only [aresults, aresult, XS.as, Try.results11, aload, go_sem, Option.bind_some]; rfl, ?_⟩)
    exact ⟨.iv _, by rw [hw], trivial⟩
theorem wPl_bd (ps : List Pk) (x : Int) : -1 ≤ wPl ps x ∧ wPl ps x < ps.length := by
  rcases wPl_or ps x with ⟨h, _⟩ | ⟨k, h1, _, h3, _⟩ <;> omega
def wLinAt (l : List Op5) (ps : List Pk) (i k : Nat) : Prop := oAhead (oAt l i) (oAt l k) = true ∧ 0 ≤ wPl ps k ∧ (wPl ps i < 0 ∨ wPl ps k < wPl ps i)
set_option maxRecDepth 100000 in
set_option maxHeartbeats 4000000 in
theorem pf_rLin (o : Ob) (l : List Op5) (ps : List Pk) (hr : o.R.length ≤ 100000) (ho : o.Ok) (hl : l.length ≤ 100000) (hn : ps.length ≤ 100000) : PF Try.prog 14 [obA o, .iv (iOps l), .iv (iPks ps)] fun r H' => (∃ b : Bool, r = lt (.bool b) ∧ (b = true ↔ rErr o l o.I ps = 0 ∧ wLin l ps)) ∧ H' = [] := by
  refine SF.forgetAll ?_
  have hs1 := trivial; have hs2 := trivial; have hs3 := trivial; have hs4 := trivial; have hs5 := trivial; have hs6 := trivial; have hC := trivial
  have h1 := trivial; have h2 := trivial
  have hC := pf_rFrom o l o.I ps hr ho (by omega) (by omega)
  by_cases e3 : rErr o l o.I ps = 0
  · rw [e3] at hC ⊢
    (refine SF_of_bodyX (aload tt) (aload_ok tyOK) Try.func14 rfl (by kernel_rfl) ?_; simp only [Try.ntmps14, List.length_cons, List.length_nil, Nat.reduceAdd, Nat.reduceSub, List.replicate_succ, List.replicate_zero, List.cons_append, List.nil_append])
    unfold iOps iFlat at *
    (refine Wk.o ?_; (repeat revert hK K); refine We69ea ?_; (repeat intro K hK); refine ⟨?_⟩)
    refine AX_wh (σ := Nat) [26, 27, 28, 29, 32, 33, 34, 35, 36, 37, 38, 39, 40, 41, 42, 43, 6, 11, 44, 45, 46, 47, 50, 51, 52, 53, 54, 55, 12, 13, 56, 57, 58, 59, 60, 61, 62, 63, 64, 65, 66, 67, 68, 69, 70, 71, 72, 73, 74, 75, 76, 77, 48, 49, 30, 31] (fun i => [(10, lint i)]) (fun _ => [some ⟨24, [lt (.int .i64 o.S), lt (.int .i64 o.K), lt (.int .i64 o.I), .iv (iRws o.R)]⟩]) (fun _ => []) (fun i => i ≤ l.length ∧ ∀ j, j < i → ¬ ((oAt l j).e ≠ -1 ∧ wPl ps j < 0) ∧ ∀ k, k < l.length → ¬ wLinAt l ps j k) (fun i => l.length - i) 0 (fun d => by first | ((simp only [deadS, updS, List.set_cons_succ, List.set_cons_zero, lint, List.length_nil, List.length_cons]); done) | ((simp only [deadS, updS, List.set_cons_succ, List.set_cons_zero, lint, List.length_nil, List.length_cons]); rfl) | rfl) rfl rfl ⟨Nat.zero_le _, fun j h => by omega⟩ ?_
    rintro i d fr hfr ⟨hi, hp⟩
    simp only [updS, deadS, List.set_cons_succ, List.set_cons_zero, lint] at hfr
    subst hfr
    (try dsimp only)
    by_cases hlt : i < l.length
    · have h1 := pf_rPlace ps (i : Int) (by omega)
      have hb := wPl_bd ps (i : Int)
      have hbad : ∀ k, k < l.length → wLinAt l ps i k → ¬ wLin l ps := fun k hk h hw => (hw i hlt).2 k hk h
      have hpi : ∀ z : Int, wPl ps (i : Int) = z → z < 0 → (oAt l i).e ≠ -1 → ¬ wLin l ps := fun z hz h0 he hw => (hw i hlt).1 ⟨he, by omega⟩
      by_cases hx : (oAt l i).e ≠ -1 ∧ wPl ps i < 0
      · have hno : ¬ wLin l ps := fun hw => (hw i hlt).1 hx
        obtain ⟨hx1, hx2⟩ := hx
        generalize wPl ps (i : Int) = pi at *
        (refine Wk.o ?_; (repeat revert hK K); refine We69ea ?_; (repeat intro K hK); refine ⟨?_⟩)
        (simp only [bodyX]; refine ⟨_, by simp only [aresults, aresult, XS.as, Try.results14, aload, go_sem, Option.bind_some]; rfl, ?_⟩)
        exact ⟨.iv _, ⟨false, rfl, fun h => (by cases h), fun h => absurd h.2 hno⟩, trivial⟩
      · have hLA : ∀ k, wLinAt l ps i k ↔ oAhead (oAt l i) (oAt l k) = true ∧ 0 ≤ wPl ps k ∧ (wPl ps i < 0 ∨ wPl ps k < wPl ps i) := fun k => Iff.rfl
        have hfin : (∀ k, k < l.length → ¬ wLinAt l ps i k) → ∀ j, j < i + 1 → ¬ ((oAt l j).e ≠ -1 ∧ wPl ps j < 0) ∧ ∀ k, k < l.length → ¬ wLinAt l ps j k := fun hk j hj => by
          rcases Nat.lt_or_ge j i with h | h
          · exact hp j h
          · obtain rfl : j = i := by omega
            exact ⟨hx, hk⟩
        generalize hpi2 : wPl ps (i : Int) = pi at *
        by_cases he : (oAt l i).e = -1
        · (refine Wk.o ?_; (repeat revert hK K); refine We69ea ?_; (repeat intro K hK); refine ⟨?_⟩)
          refine AX_wh (σ := Nat) [44, 45, 46, 47, 50, 51, 52, 53, 54, 55, 12, 13, 56, 57, 58, 59, 60, 61, 62, 63, 64, 65, 66, 67, 68, 69, 70, 71, 72, 73, 74, 75, 76, 77, 6, 48, 49] (fun k => [(11, lint k)]) (fun _ => [some ⟨24, [lt (.int .i64 o.S), lt (.int .i64 o.K), lt (.int .i64 o.I), .iv (iRws o.R)]⟩]) (fun _ => []) (fun k => k ≤ l.length ∧ ∀ j, j < k → ¬ wLinAt l ps i j) (fun k => l.length - k) 0 (fun d => by first | ((simp only [deadS, updS, List.set_cons_succ, List.set_cons_zero, lint, List.length_nil, List.length_cons]); done) | ((simp only [deadS, updS, List.set_cons_succ, List.set_cons_zero, lint, List.length_nil, List.length_cons]); rfl) | rfl) rfl rfl ⟨Nat.zero_le _, fun j h => by omega⟩ ?_
          rintro k d3 fr hfr ⟨hk, hq⟩
          simp only [updS, deadS, List.set_cons_succ, List.set_cons_zero, lint] at hfr
          subst hfr
          (try dsimp only)
          by_cases hlt2 : k < l.length
          · have h2 := pf_rPlace ps (k : Int) (by omega)
            have hA := pf_rAhead (oAt l i) (oAt l k)
            have hlk := hLA k
            have hb2 := wPl_bd ps (k : Int)
            have hfin2 : ¬ wLinAt l ps i k → ∀ j, j < k + 1 → ¬ wLinAt l ps i j := fun h j hj => by
              rcases Nat.lt_or_ge j k with h3 | h3
              · exact hq j h3
              · rw [show j = k by omega]; exact h
            have hbk := hbad k hlt2
            generalize wPl ps (k : Int) = pk at *
            generalize oAhead (oAt l i) (oAt l k) = b at *
            generalize wLinAt l ps i k = W at *
            cases b with
            | false =>
              (refine Wk.o ?_; (repeat revert hK K); refine We69ea ?_; (repeat intro K hK); refine ⟨?_⟩)
              exact WEND (k + 1) ⟨by omega, hfin2 fun h => by have := (hlk.1 h).1; cases this⟩ (by (first | omega | (dsimp only; omega) | (simp only; omega)))
            | true =>
              by_cases c1 : 0 ≤ pk
              · by_cases c2 : pi < 0
                · have hW := hbk (hlk.2 ⟨rfl, c1, .inl c2⟩)
                  (refine Wk.o ?_; (repeat revert hK K); refine We69ea ?_; (repeat intro K hK); refine ⟨?_⟩)
                  (simp only [bodyX]; refine ⟨_, by simp only [aresults, aresult, XS.as, Try.results14, aload, go_sem, Option.bind_some]; rfl, ?_⟩)
                  exact ⟨.iv _, ⟨false, rfl, fun h => (by cases h), fun h => absurd h.2 hW⟩, trivial⟩
                · by_cases c3 : pk < pi
                  · have hW := hbk (hlk.2 ⟨rfl, c1, .inr c3⟩)
                    (refine Wk.o ?_; (repeat revert hK K); refine We69ea ?_; (repeat intro K hK); refine ⟨?_⟩)
                    (simp only [bodyX]; refine ⟨_, by simp only [aresults, aresult, XS.as, Try.results14, aload, go_sem, Option.bind_some]; rfl, ?_⟩)
                    exact ⟨.iv _, ⟨false, rfl, fun h => (by cases h), fun h => absurd h.2 hW⟩, trivial⟩
                  · (refine Wk.o ?_; (repeat revert hK K); refine We69ea ?_; (repeat intro K hK); refine ⟨?_⟩)
                    exact WEND (k + 1) ⟨by omega, hfin2 fun h => by have := (hlk.1 h).2.2; omega⟩ (by (first | omega | (dsimp only; omega) | (simp only; omega)))
              · (refine Wk.o ?_; (repeat revert hK K); refine We69ea ?_; (repeat intro K hK); refine ⟨?_⟩)
                exact WEND (k + 1) ⟨by omega, hfin2 fun h => by have := (hlk.1 h).2.1; omega⟩ (by (first | omega | (dsimp only; omega) | (simp only; omega)))
          · obtain rfl : k = l.length := by omega
            (refine Wk.o ?_; (repeat revert hK K); refine We69ea ?_; (repeat intro K hK); refine ⟨?_⟩)
            exact WEND (i + 1) ⟨by omega, hfin hq⟩ (by (first | omega | (dsimp only; omega) | (simp only; omega)))
        · have hp0 : 0 ≤ pi := by omega
          (refine Wk.o ?_; (repeat revert hK K); refine We69ea ?_; (repeat intro K hK); refine ⟨?_⟩)
          clear hp0 hx he hpi
          refine AX_wh (σ := Nat) [44, 45, 46, 47, 50, 51, 52, 53, 54, 55, 12, 13, 56, 57, 58, 59, 60, 61, 62, 63, 64, 65, 66, 67, 68, 69, 70, 71, 72, 73, 74, 75, 76, 77, 6, 48, 49] (fun k => [(11, lint k)]) (fun _ => [some ⟨24, [lt (.int .i64 o.S), lt (.int .i64 o.K), lt (.int .i64 o.I), .iv (iRws o.R)]⟩]) (fun _ => []) (fun k => k ≤ l.length ∧ ∀ j, j < k → ¬ wLinAt l ps i j) (fun k => l.length - k) 0 (fun d => by first | ((simp only [deadS, updS, List.set_cons_succ, List.set_cons_zero, lint, List.length_nil, List.length_cons]); done) | ((simp only [deadS, updS, List.set_cons_succ, List.set_cons_zero, lint, List.length_nil, List.length_cons]); rfl) | rfl) rfl rfl ⟨Nat.zero_le _, fun j h => by omega⟩ ?_
          rintro k d3 fr hfr ⟨hk, hq⟩
          simp only [updS, deadS, List.set_cons_succ, List.set_cons_zero, lint] at hfr
          subst hfr
          (try dsimp only)
          by_cases hlt2 : k < l.length
          · have h2 := pf_rPlace ps (k : Int) (by omega)
            have hA := pf_rAhead (oAt l i) (oAt l k)
            have hlk := hLA k
            have hb2 := wPl_bd ps (k : Int)
            have hfin2 : ¬ wLinAt l ps i k → ∀ j, j < k + 1 → ¬ wLinAt l ps i j := fun h j hj => by
              rcases Nat.lt_or_ge j k with h3 | h3
              · exact hq j h3
              · rw [show j = k by omega]; exact h
            have hbk := hbad k hlt2
            generalize wPl ps (k : Int) = pk at *
            generalize oAhead (oAt l i) (oAt l k) = b at *
            generalize wLinAt l ps i k = W at *
            cases b with
            | false =>
              (refine Wk.o ?_; (repeat revert hK K); refine We69ea ?_; (repeat intro K hK); refine ⟨?_⟩)
              exact WEND (k + 1) ⟨by omega, hfin2 fun h => by have := (hlk.1 h).1; cases this⟩ (by (first | omega | (dsimp only; omega) | (simp only; omega)))
            | true =>
              by_cases c1 : 0 ≤ pk
              · by_cases c2 : pi < 0
                · have hW := hbk (hlk.2 ⟨rfl, c1, .inl c2⟩)
                  (refine Wk.o ?_; (repeat revert hK K); refine We69ea ?_; (repeat intro K hK); refine ⟨?_⟩)
                  (simp only [bodyX]; refine ⟨_, by simp only [aresults, aresult, XS.as, Try.results14, aload, go_sem, Option.bind_some]; rfl, ?_⟩)
                  exact ⟨.iv _, ⟨false, rfl, fun h => (by cases h), fun h => absurd h.2 hW⟩, trivial⟩
                · by_cases c3 : pk < pi
                  · have hW := hbk (hlk.2 ⟨rfl, c1, .inr c3⟩)
                    (refine Wk.o ?_; (repeat revert hK K); refine We69ea ?_; (repeat intro K hK); refine ⟨?_⟩)
                    (simp only [bodyX]; refine ⟨_, by simp only [aresults, aresult, XS.as, Try.results14, aload, go_sem, Option.bind_some]; rfl, ?_⟩)
                    exact ⟨.iv _, ⟨false, rfl, fun h => (by cases h), fun h => absurd h.2 hW⟩, trivial⟩
                  · (refine Wk.o ?_; (repeat revert hK K); refine We69ea ?_; (repeat intro K hK); refine ⟨?_⟩)
                    exact WEND (k + 1) ⟨by omega, hfin2 fun h => by have := (hlk.1 h).2.2; omega⟩ (by (first | omega | (dsimp only; omega) | (simp only; omega)))
              · (refine Wk.o ?_; (repeat revert hK K); refine We69ea ?_; (repeat intro K hK); refine ⟨?_⟩)
                exact WEND (k + 1) ⟨by omega, hfin2 fun h => by have := (hlk.1 h).2.1; omega⟩ (by (first | omega | (dsimp only; omega) | (simp only; omega)))
          · obtain rfl : k = l.length := by omega
            (refine Wk.o ?_; (repeat revert hK K); refine We69ea ?_; (repeat intro K hK); refine ⟨?_⟩)
            exact WEND (i + 1) ⟨by omega, hfin hq⟩ (by (first | omega | (dsimp only; omega) | (simp only; omega)))
    · obtain rfl : i = l.length := by omega
      have hyes : wLin l ps := fun j hj => ⟨(hp j hj).1, fun k hk h => (hp j hj).2 k hk h⟩
      (refine Wk.o ?_; (repeat revert hK K); refine We69ea ?_; (repeat intro K hK); refine ⟨?_⟩)
      (simp only [bodyX]; refine ⟨_, by simp only [aresults, aresult, XS.as, Try.results14, aload, go_sem, Option.bind_some]; rfl, ?_⟩)
      exact ⟨.iv _, ⟨true, rfl, fun _ => ⟨by trivial, hyes⟩, fun _ => rfl⟩, trivial⟩
  · generalize rErr o l o.I ps = w at *
    (refine SF_of_bodyX (aload tt) (aload_ok tyOK) Try.func14 rfl (by kernel_rfl) ?_; simp only [Try.ntmps14, List.length_cons, List.length_nil, Nat.reduceAdd, Nat.reduceSub, List.replicate_succ, List.replicate_zero, List.cons_append, List.nil_append])
    unfold iOps iFlat at *
    (refine Wk.o ?_; (repeat revert hK K); refine We69ea ?_; (repeat intro K hK); refine ⟨?_⟩)
    (simp only [bodyX]; refine ⟨_, by simp only [aresults, aresult, XS.as, Try.results14, aload, go_sem, Option.bind_some]; rfl, ?_⟩)
    exact ⟨.iv _, ⟨false, rfl, fun h => (by cases h), fun h => absurd h.1 e3⟩, trivial⟩
end Go.Proofs.Yteldioinhbpfhaa
namespace Go.Proofs.Yteldioinhbpfhaa
open Go.RowKit
set_option linter.unusedVariables false
set_option linter.unusedSimpArgs false
instance (l : List Op5) (ps : List Pk) : Decidable (wLin l ps) := by unfold wLin; infer_instance
theorem pf_rLinD (o : Ob) (l : List Op5) (ps : List Pk) (hr : o.R.length ≤ 100000) (ho : o.Ok) (hl : l.length ≤ 100000) (hn : ps.length ≤ 100000) : PF Try.prog 14 [obA o, .iv (iOps l), .iv (iPks ps)] fun r H' => r = lt (.bool (decide (rErr o l o.I ps = 0 ∧ wLin l ps))) ∧ H' = [] :=
  SF.mono (pf_rLin o l ps hr ho hl hn) fun r H' ⟨⟨b, h1, h2⟩, h3⟩ => ⟨by rw [h1]; congr 3; rw [Bool.eq_iff_iff, h2, decide_eq_true_iff], h3⟩
theorem Wd81ea {A B : Prop} (h9 : B) (w : B → A := by (intro h9; (repeat intro K hK); refine ⟨?_⟩; (repeat (first | (first | (with_reducible first | refine AX_block ?_ | refine AX_skip ?_ | refine AX_exit ?_ | refine AX_ret ?_ | refine AX_ift ?_ | refine AX_iff ?_ | refine AX_seq_k (fun K hK => ?_) | refine ContX.use (by assumption) ?_) | simp only [thenX, inBlockX, if_true, if_false, reduceCtorEq]) | (first | ((first | (with_reducible refine XRes_op tyOK ?_ ?_) | ((with_reducible first | refine ADF_op tyOK ?_ ?_ ?_ | refine ADX_op tyOK ?_ ?_ ?_); (focus rfl)) | (with_reducible refine ADR_alloc1 tyOK ?_ ?_) | ((with_reducible refine ADR_free1 tyOK ?_ ?_ ?_); (focus rfl)) | ((with_reducible refine ADR_free0 tyOK ?_ ?_ ?_); (focus rfl)) | ((with_reducible refine ADR_read1 tyOK ?_ ?_ ?_); (focus rfl)) | (with_reducible refine ADR_chg1 tyOK ?_ ?_)); (focus (first | (with_reducible rfl) | ((simp (disch := omega) only [go_sem]); done))); simp (disch := omega) only [go_sem , iFlat, hs1, hs2, hs3, Int.toNat_zero, Int.toNat_one]; (first | (with_reducible refine XRes_id ?_) | (with_reducible refine ADF_id ?_) | (with_reducible refine ADR_id1 ?_) | (with_reducible refine ADX_id ?_))) | ((first | (with_reducible refine XRes_skip ?_ ?_) | (with_reducible refine ADF_skip (b := true) ?_ ?_) | (with_reducible refine ADX_skip ?_ ?_) | ((with_reducible refine ADR_skip1 ?_ ?_ ?_); (focus rfl))); (focus (first | rfl | ((simp (disch := omega) only [go_sem]); done))); (simp only [putL, List.set_cons_succ, List.set_cons_zero]))) | ((first | (with_reducible refine XRes_nil ?_) | (with_reducible refine ADF_nil ?_) | (with_reducible refine ADR_nil ?_) | (with_reducible refine ADX_nil ?_)); (first | refine hK _ ?_ | refine hK _ _ ?_); clear hK K) | ((first | (with_reducible refine AX_reg0 fun K hK => ?_) | (refine AX_drawG1 tyOK (by kernel_rfl) (by rfl) (by kernel_rfl) fun K hK => ?_) | (refine AX_drawT tyOK (by kernel_rfl) (by decide +kernel) fun K hK => ?_) | (refine AX_drawM1 (by kernel_rfl) (by rfl) (by decide +kernel) fun K hK => ?_) | (refine AX_drawA tyOK (by kernel_rfl) (by decide +kernel) fun K hK => ?_)); (first | simp only [go_sem, preN, effOp, runF, alM, mapOp, alD2, kdOf2, Bool.not_false, Bool.not_true, reduceCtorEq] | simp only [go_sem, preN, effOp, runF, alM, mapOp, Bool.not_false, Bool.not_true, reduceCtorEq] | simp only [go_sem, preN, effOp, runF, alD2, kdOf2, Bool.not_false, Bool.not_true, reduceCtorEq] | simp only [go_sem, alD2, kdOf2, Bool.not_false, Bool.not_true, reduceCtorEq] | simp only [go_sem, preN, effOp, runF, Bool.not_false, Bool.not_true, reduceCtorEq] | simp only [go_sem])) | (first | (first | refine XTL (by rfl) hF ?_ | refine ATL tyOK (by rfl) hF ?_ | refine XTL (by rfl) hAw ?_ | refine ATL tyOK (by rfl) hAw ?_ | refine XTL (by rfl) h1 ?_ | refine ATL tyOK (by rfl) h1 ?_ | refine XTL (by rfl) h2 ?_ | refine ATL tyOK (by rfl) h2 ?_ | refine XTL (by rfl) hI ?_ | refine ATL tyOK (by rfl) hI ?_ | refine XTL (by rfl) hL ?_ | refine ATL tyOK (by rfl) hL ?_)))); refine Wk.o ?_; (repeat revert hK K); exact h9)) : A := w h9
set_option maxRecDepth 100000 in
set_option maxHeartbeats 1000000 in
theorem pf_few29 (o : Ob) (hr : o.R.length ≤ 9223372036854775807) : PF Try.prog 5 [obA o] fun r H' => r = lt (.bool (decide (o.R.length ≤ 300))) ∧ H' = [] := by
  refine SF.forgetAll ?_
  have hF := trivial; have hAw := trivial
  have hs1 := trivial; have hs2 := trivial; have hs3 := trivial; have hI := trivial; have hL := trivial; have h1 := trivial; have h2 := trivial
  by_cases h : o.R.length ≤ 300
  · rw [decide_eq_true h]
    (refine SF_of_bodyX (aload tt) (aload_ok tyOK) Try.func5 rfl (by kernel_rfl) ?_; simp only [Try.ntmps5, List.length_cons, List.length_nil, Nat.reduceAdd, Nat.reduceSub, List.replicate_succ, List.replicate_zero, List.cons_append, List.nil_append])
    (refine Wk.o ?_; (repeat revert hK K); refine Wd81ea ?_; (repeat intro K hK); refine ⟨?_⟩)
    (simp only [bodyX]; refine ⟨_, by simp only [aresults, aresult, XS.as, Try.results5, aload, go_sem, Option.bind_some]; rfl, ?_⟩)
    exact ⟨.iv _, rfl, trivial⟩
  · rw [decide_eq_false h]
    (refine SF_of_bodyX (aload tt) (aload_ok tyOK) Try.func5 rfl (by kernel_rfl) ?_; simp only [Try.ntmps5, List.length_cons, List.length_nil, Nat.reduceAdd, Nat.reduceSub, List.replicate_succ, List.replicate_zero, List.cons_append, List.nil_append])
    (refine Wk.o ?_; (repeat revert hK K); refine Wd81ea ?_; (repeat intro K hK); refine ⟨?_⟩)
    (simp only [bodyX]; refine ⟨_, by simp only [aresults, aresult, XS.as, Try.results5, aload, go_sem, Option.bind_some]; rfl, ?_⟩)
    exact ⟨.iv _, rfl, trivial⟩
set_option maxRecDepth 100000 in
set_option maxHeartbeats 4000000 in
theorem pf_WitnessDefines (o : Ob) (l : List Op5) (ps : List Pk) (ho : o.Ok) (hs : okS l) (hrl : o.R.length ≤ 9223372036854775807) (hll : l.length ≤ 9223372036854775807) (hpl : ps.length ≤ 9223372036854775807) (hq : ∀ i, -9223372036854775808 ≤ (pkAt ps i).o ∧ (pkAt ps i).o ≤ 9223372036854775807) : PF Try.prog 4 [obA o, .iv (iOps l), .iv (iPks ps)] fun r H' => r = lt (.bool true) ∧ H' = [] := by
  refine SF.forgetAll ?_
  have hs1 := trivial; have hs2 := trivial; have hs3 := trivial; have hI := trivial; have hL := trivial; have h1 := trivial; have h2 := trivial
  have hAw := pf_awake29
  have hF := pf_few29 o hrl
  by_cases b1 : o.R.length ≤ 300
  · rw [decide_eq_true b1] at hF
    by_cases b2 : l.length ≤ 40
    · by_cases b3 : ps.length ≤ 40
      · have h1 := pf_obCheck o (by omega) ho
        have h2 := pf_oChk l (by omega) hs
        have hI := pf_wIs o l ps (by omega) ho (by omega) hs (by omega) hq
        by_cases e1 : obE o = 0
        · rw [e1] at h1
          by_cases e2 : oCE l = 0
          · rw [e2] at h2
            obtain ⟨hG1, hG⟩ := oCE_good e2
            have hL := pf_rLinD o l ps (by omega) ho (by omega) (by omega)
            have hw : decide (rErr o l o.I ps = 0 ∧ wLin l ps) = decide (wE o l ps = 0) := by
              rw [decide_eq_decide, wE_zero, rErr_zero]
              constructor
              · rintro ⟨a, b⟩; exact ⟨e2, a, (wLin_iff hG a).2 b⟩
              · rintro ⟨_, a, b⟩; exact ⟨a, (wLin_iff hG a).1 b⟩
            rw [hw] at hL
            generalize decide (wE o l ps = 0) = B at *
            cases B with
            | true =>
              skip
              (refine SF_of_bodyX (aload tt) (aload_ok tyOK) Try.func4 rfl (by kernel_rfl) ?_; simp only [Try.ntmps4, List.length_cons, List.length_nil, Nat.reduceAdd, Nat.reduceSub, List.replicate_succ, List.replicate_zero, List.cons_append, List.nil_append])
              unfold iOps iFlat at *
              (refine Wk.o ?_; (repeat revert hK K); refine Wd81ea ?_; (repeat intro K hK); refine ⟨?_⟩)
              (simp only [bodyX]; refine ⟨_, by simp only [aresults, aresult, XS.as, Try.results4, aload, go_sem, Option.bind_some]; rfl, ?_⟩)
              exact ⟨.iv _, rfl, trivial⟩
            | false =>
              skip
              (refine SF_of_bodyX (aload tt) (aload_ok tyOK) Try.func4 rfl (by kernel_rfl) ?_; simp only [Try.ntmps4, List.length_cons, List.length_nil, Nat.reduceAdd, Nat.reduceSub, List.replicate_succ, List.replicate_zero, List.cons_append, List.nil_append])
              unfold iOps iFlat at *
              (refine Wk.o ?_; (repeat revert hK K); refine Wd81ea ?_; (repeat intro K hK); refine ⟨?_⟩)
              (simp only [bodyX]; refine ⟨_, by simp only [aresults, aresult, XS.as, Try.results4, aload, go_sem, Option.bind_some]; rfl, ?_⟩)
              exact ⟨.iv _, rfl, trivial⟩
          · have hw : decide (wE o l ps = 0) = false := decide_eq_false fun h => e2 (wE_zero.1 h).1
            rw [hw] at hI
            generalize oCE l = c at *
            (refine SF_of_bodyX (aload tt) (aload_ok tyOK) Try.func4 rfl (by kernel_rfl) ?_; simp only [Try.ntmps4, List.length_cons, List.length_nil, Nat.reduceAdd, Nat.reduceSub, List.replicate_succ, List.replicate_zero, List.cons_append, List.nil_append])
            unfold iOps iFlat at *
            (refine Wk.o ?_; (repeat revert hK K); refine Wd81ea ?_; (repeat intro K hK); refine ⟨?_⟩)
            (simp only [bodyX]; refine ⟨_, by simp only [aresults, aresult, XS.as, Try.results4, aload, go_sem, Option.bind_some]; rfl, ?_⟩)
            exact ⟨.iv _, rfl, trivial⟩
        · have hw : decide (wE o l ps = 0) = false := decide_eq_false fun h => e1 (wE_zero.1 h).2.1.1
          rw [hw] at hI
          generalize obE o = c at *
          (refine SF_of_bodyX (aload tt) (aload_ok tyOK) Try.func4 rfl (by kernel_rfl) ?_; simp only [Try.ntmps4, List.length_cons, List.length_nil, Nat.reduceAdd, Nat.reduceSub, List.replicate_succ, List.replicate_zero, List.cons_append, List.nil_append])
          unfold iOps iFlat at *
          (refine Wk.o ?_; (repeat revert hK K); refine Wd81ea ?_; (repeat intro K hK); refine ⟨?_⟩)
          (simp only [bodyX]; refine ⟨_, by simp only [aresults, aresult, XS.as, Try.results4, aload, go_sem, Option.bind_some]; rfl, ?_⟩)
          exact ⟨.iv _, rfl, trivial⟩
      · skip
        (refine SF_of_bodyX (aload tt) (aload_ok tyOK) Try.func4 rfl (by kernel_rfl) ?_; simp only [Try.ntmps4, List.length_cons, List.length_nil, Nat.reduceAdd, Nat.reduceSub, List.replicate_succ, List.replicate_zero, List.cons_append, List.nil_append])
        unfold iOps iFlat at *
        (refine Wk.o ?_; (repeat revert hK K); refine Wd81ea ?_; (repeat intro K hK); refine ⟨?_⟩)
        (simp only [bodyX]; refine ⟨_, by simp only [aresults, aresult, XS.as, Try.results4, aload, go_sem, Option.bind_some]; rfl, ?_⟩)
        exact ⟨.iv _, rfl, trivial⟩
    · skip
      (refine SF_of_bodyX (aload tt) (aload_ok tyOK) Try.func4 rfl (by kernel_rfl) ?_; simp only [Try.ntmps4, List.length_cons, List.length_nil, Nat.reduceAdd, Nat.reduceSub, List.replicate_succ, List.replicate_zero, List.cons_append, List.nil_append])
      unfold iOps iFlat at *
      (refine Wk.o ?_; (repeat revert hK K); refine Wd81ea ?_; (repeat intro K hK); refine ⟨?_⟩)
      (simp only [bodyX]; refine ⟨_, by simp only [aresults, aresult, XS.as, Try.results4, aload, go_sem, Option.bind_some]; rfl, ?_⟩)
      exact ⟨.iv _, rfl, trivial⟩
  · rw [decide_eq_false b1] at hF
    (refine SF_of_bodyX (aload tt) (aload_ok tyOK) Try.func4 rfl (by kernel_rfl) ?_; simp only [Try.ntmps4, List.length_cons, List.length_nil, Nat.reduceAdd, Nat.reduceSub, List.replicate_succ, List.replicate_zero, List.cons_append, List.nil_append])
    unfold iOps iFlat at *
    (refine Wk.o ?_; (repeat revert hK K); refine Wd81ea ?_; (repeat intro K hK); refine ⟨?_⟩)
    (simp only [bodyX]; refine ⟨_, by simp only [aresults, aresult, XS.as, Try.results4, aload, go_sem, Option.bind_some]; rfl, ?_⟩)
    exact ⟨.iv _, rfl, trivial⟩
end Go.Proofs.Yteldioinhbpfhaa
namespace Go.Proofs.Yteldioinhbpfhaa
open Go.RowKit
set_option linter.unusedVariables false
set_option linter.unusedSimpArgs false
def cN (f : Nat → Bool) : Nat → Nat
  | 0 => 0
  | n + 1 => cN f n + (if f n = true then 1 else 0)
theorem cN_all (f : Nat → Bool) (h : ∀ x, f x = true) : ∀ n, cN f n = n
  | 0 => rfl
  | n + 1 => by show cN f n + _ = _; rw [cN_all f h n, if_pos (h n)]
theorem cN_two (f g k : Nat → Bool) (h : ∀ x, (f x = true ∧ g x = false ∧ k x = true) ∨ (f x = false ∧ g x = true ∧ k x = true) ∨ (f x = false ∧ g x = false ∧ k x = false)) : ∀ n, cN f n + cN g n = cN k n
  | 0 => rfl
  | n + 1 => by
    have ih := cN_two f g k h n
    show cN f n + _ + (cN g n + _) = cN k n + _
    rcases h n with ⟨a, b, c⟩ | ⟨a, b, c⟩ | ⟨a, b, c⟩ <;> rw [a, b, c] <;> simp <;> omega
theorem cN_less (f g : Nat → Bool) (p : Nat) (hf : f p = true) (hg : g p = false) (h : ∀ x, x ≠ p → g x = f x) : ∀ n, cN g n + (if p < n then 1 else 0) = cN f n
  | 0 => by simp [cN]
  | n + 1 => by
    have ih := cN_less f g p hf hg h n
    show cN g n + _ + _ = cN f n + _
    by_cases e : n = p
    · subst e
      rw [hf, hg, if_neg (by decide), if_pos (by omega), if_pos rfl]
      rw [if_neg (Nat.lt_irrefl _)] at ih
      omega
    · rw [h n e]
      by_cases hlt : p < n
      · rw [if_pos hlt] at ih; rw [if_pos (by omega : p < n + 1)]; omega
      · rw [if_neg hlt] at ih; rw [if_neg (by omega : ¬ p < n + 1)]; omega
def wFr (qs : List Pk) (x : Nat) : Bool := decide (¬ pkDup qs qs.length (x : Int))
theorem wMs_cN (l : List Op5) (qs : List Pk) (f : Op5 → Bool) : ∀ n, (wMs l qs f n).length = cN (fun x => wFr qs x && f (oAt l x)) n
  | 0 => rfl
  | n + 1 => by
    have ih := wMs_cN l qs f n
    show (wMs l qs f (n + 1)).length = cN _ n + _
    unfold wMs wFr
    by_cases h : ¬ pkDup qs qs.length (n : Int) ∧ f (oAt l n) = true
    · rw [if_pos h, List.length_append, ih, if_pos (by dsimp only; rw [decide_eq_true h.1, h.2]; rfl)]; rfl
    · rw [if_neg h, ih, if_neg]
      · rfl
      · intro hh
        dsimp only at hh
        rw [Bool.and_eq_true, decide_eq_true_iff] at hh
        exact h hh
theorem part_dup {ps : List Pk} {i : Nat} (hi : i ≤ ps.length) (x : Int) : pkDup (pkPart ps 0 i) (pkPart ps 0 i).length x ↔ pkDup ps i x := by
  rw [pkPart_len (by omega)]
  constructor
  · rintro ⟨k, h1, h2⟩; rw [pkPart_at h1, Nat.zero_add] at h2; exact ⟨k, h1, h2⟩
  · rintro ⟨k, h1, h2⟩; exact ⟨k, h1, by rw [pkPart_at h1, Nat.zero_add]; exact h2⟩
theorem free_cnt {o : Ob} {l : List Op5} {st : Int} {ps : List Pk} (hr : rOk o l st ps) : ∀ i, i ≤ ps.length → cN (wFr (pkPart ps 0 i)) l.length + i = l.length
  | 0, h => by
    rw [cN_all (wFr (pkPart ps 0 0)) (fun x => by
      unfold wFr
      exact decide_eq_true (fun hd => by obtain ⟨k, hk, _⟩ := (part_dup h _).1 hd; omega)) l.length]
    rfl
  | i + 1, h => by
    have ih := free_cnt hr i (by omega)
    obtain ⟨hin, hnd⟩ := rOk_pick hr (by omega : i < ps.length)
    unfold pkIn at hin
    obtain ⟨p, hp⟩ : ∃ p : Nat, (pkAt ps i).o = p := ⟨(pkAt ps i).o.toNat, by omega⟩
    have h1 := cN_less (wFr (pkPart ps 0 i)) (wFr (pkPart ps 0 (i + 1))) p (by
      unfold wFr; exact decide_eq_true fun hd => hnd (by rw [hp]; exact (part_dup (by omega) _).1 hd)) (by
      unfold wFr; exact decide_eq_false fun hd => hd ((part_dup h _).2 ⟨i, by omega, hp⟩)) (fun x hx => by
      unfold wFr
      rw [decide_eq_decide, part_dup h, part_dup (by omega : i ≤ ps.length)]
      refine not_congr ⟨?_, ?_⟩
      · rintro ⟨k, h1, h2⟩
        rcases Nat.lt_or_ge k i with h3 | h3
        · exact ⟨k, h3, h2⟩
        · rw [show k = i by omega, hp] at h2; omega
      · rintro ⟨k, h1, h2⟩; exact ⟨k, by omega, h2⟩) l.length
    rw [if_pos (by omega)] at h1
    omega
theorem head_cnt {o : Ob} {l : List Op5} {st : Int} {ps : List Pk} (hr : rOk o l st ps) {i : Nat} (hi : i ≤ ps.length) : (wMs l (pkPart ps 0 i) endD l.length).length + (wMs l (pkPart ps 0 i) pendD l.length).length + i = l.length := by
  rw [wMs_cN, wMs_cN, cN_two _ _ (wFr (pkPart ps 0 i))]
  · exact free_cnt hr i hi
  · intro x
    unfold endD pendD
    by_cases h : (oAt l x).e = -1 <;> cases wFr (pkPart ps 0 i) x <;> simp [h]
theorem head_ord {l : List Op5} {ps : List Pk} (h : ∀ i, i < ps.length → ¬ wLate l ps i) {i : Nat} (hi : i ≤ ps.length) : wOrd l (pkPart ps 0 i) = -1 := by
  refine wOrd_no fun j hj hl => ?_
  rw [pkPart_len (by omega)] at hj
  have e : ∀ k, k ≤ j → pkAt (pkPart ps 0 i) k = pkAt ps k := fun k hk => by rw [pkPart_at (by omega), Nat.zero_add]
  unfold wLate at hl
  rw [e j (Nat.le_refl _)] at hl
  obtain ⟨h1, k, h2, h3, h4⟩ := hl
  refine h j (by omega) ⟨h1, k, h2, h3, fun hd => h4 ?_⟩
  obtain ⟨q, h5, h6⟩ := hd
  exact ⟨q, h5, by rw [e q (by omega)]; exact h6⟩
theorem head_rest {l : List Op5} {ps : List Pk} (h : ∀ i : Nat, i < l.length → (oAt l i).e ≠ -1 → pkDup ps ps.length (i : Int)) {i : Nat} (hi : i ≤ ps.length) {x : Int} (hx : x ∈ wMs l (pkPart ps 0 i) endD l.length) : 0 ≤ wPl (pkPart ps i (ps.length - i)) x := by
  obtain ⟨y, h1, rfl, h2, h3⟩ := wMs_mem.1 hx
  obtain ⟨k, h4, h5⟩ := h y h1 (of_decide_eq_true h3)
  rw [wPl_dup, pkPart_len (by omega)]
  have hk : i ≤ k := by
    rcases Nat.lt_or_ge k i with hh | hh
    · exact absurd ((part_dup hi _).2 ⟨k, hh, h5⟩) h2
    · exact hh
  exact ⟨k - i, by omega, by rw [pkPart_at (by omega), show i + (k - i) = k by omega]; exact h5⟩
theorem RL.last2 {n : Nat} {G : Gh} {x u u' : AV} {vs : List Value} (h : RL n G [x, u] vs) (he : ∀ v, RA n G u v → RA n G u' v) : RL n G [x, u'] vs := by
  obtain ⟨v1, t1, rfl, a1, r1⟩ := h.uncons
  obtain ⟨v2, t2, rfl, a2, r2⟩ := r1.uncons
  exact RL.cons a1 (RL.cons (he _ a2) r2)
theorem RL.first2 {n : Nat} {G : Gh} {x u u' : AV} {vs : List Value} (h : RL n G [u, x] vs) (he : ∀ v, RA n G u v → RA n G u' v) : RL n G [u', x] vs := by
  obtain ⟨v1, t1, rfl, a1, r1⟩ := h.uncons
  exact RL.cons (he _ a1) r1
section
variable (l : List Op5) (ps : List Pk) (hl : l.length ≤ 100000) (hn : ps.length ≤ 100000)
include hl hn
theorem pf_MissingP (off len : Nat) (hb : off + len ≤ ps.length) (get : Nat → IV) (hg : ∀ j, get j = .lit (.int .i64 ((flatP ps).getD (off * 2 + j) 0))) : PF Try.prog 8 [.iv (iOps l), .iv (.sl get len 2)] fun r H' => r = .iv (iInts (wMs l (pkPart ps off len) endD l.length)) ∧ H' = [] := by
  have h := pf_Missing l (pkPart ps off len) hl (by rw [pkPart_len hb]; omega)
  unfold iPks at h
  rw [pkPart_len hb] at h
  exact SF.args h fun G vs hv => RL.last2 hv fun v hx => RA.congr hx fun j hj => by rw [hg, pkPart_get hj]
theorem pf_LeftP (off len : Nat) (hb : off + len ≤ ps.length) (get : Nat → IV) (hg : ∀ j, get j = .lit (.int .i64 ((flatP ps).getD (off * 2 + j) 0))) : PF Try.prog 10 [.iv (iOps l), .iv (.sl get len 2)] fun r H' => r = .iv (iInts (wMs l (pkPart ps off len) pendD l.length)) ∧ H' = [] := by
  have h := pf_Left l (pkPart ps off len) hl (by rw [pkPart_len hb]; omega)
  unfold iPks at h
  rw [pkPart_len hb] at h
  exact SF.args h fun G vs hv => RL.last2 hv fun v hx => RA.congr hx fun j hj => by rw [hg, pkPart_get hj]
theorem pf_OrderP (hd : endsOk l) (hq : ∀ i, -9223372036854775808 ≤ (pkAt ps i).o ∧ (pkAt ps i).o ≤ 9223372036854775807) (off len : Nat) (hb : off + len ≤ ps.length) (get : Nat → IV) (hg : ∀ j, get j = .lit (.int .i64 ((flatP ps).getD (off * 2 + j) 0))) : PF Try.prog 9 [.iv (iOps l), .iv (.sl get len 2)] fun r H' => r = lt (.int .i64 (wOrd l (pkPart ps off len))) ∧ H' = [] := by
  have h := pf_Order l (pkPart ps off len) hl (by rw [pkPart_len hb]; omega) hd (fun i => by
    rcases Nat.lt_or_ge i len with hi | hi
    · rw [pkPart_at hi]; exact hq _
    · unfold pkAt; rw [List.getD_eq_getElem?_getD, List.getElem?_eq_none (by rw [pkPart_len hb]; exact hi)]; decide)
  unfold iPks at h
  rw [pkPart_len hb] at h
  exact SF.args h fun G vs hv => RL.last2 hv fun v hx => RA.congr hx fun j hj => by rw [hg, pkPart_get hj]
omit hl in
theorem pf_rPlaceP (x : Int) (off len : Nat) (hb : off + len ≤ ps.length) (get : Nat → IV) (hg : ∀ j, get j = .lit (.int .i64 ((flatP ps).getD (off * 2 + j) 0))) : PF Try.prog 11 [.iv (.sl get len 2), lt (.int .i64 x)] fun r H' => r = lt (.int .i64 (wPl (pkPart ps off len) x)) ∧ H' = [] := by
  have h := pf_rPlace (pkPart ps off len) x (by rw [pkPart_len hb]; omega)
  unfold iPks at h
  rw [pkPart_len hb] at h
  exact SF.args h fun G vs hv => RL.first2 hv fun v hx => RA.congr hx fun j hj => by rw [hg, pkPart_get hj]
end
theorem Wc584a {A B : Prop} (h9 : B) (w : B → A := by (intro h9; (repeat intro K hK); refine ⟨?_⟩; (repeat (first | (first | (with_reducible first | refine AX_block ?_ | refine AX_skip ?_ | refine AX_exit ?_ | refine AX_ret ?_ | refine AX_ift ?_ | refine AX_iff ?_ | refine AX_seq_k (fun K hK => ?_) | refine ContX.use (by assumption) ?_) | simp only [thenX, inBlockX, if_true, if_false, reduceCtorEq]) | (first | ((first | (with_reducible refine XRes_op tyOK ?_ ?_) | ((with_reducible first | refine ADF_op tyOK ?_ ?_ ?_ | refine ADX_op tyOK ?_ ?_ ?_); (focus rfl)) | (with_reducible refine ADR_alloc1 tyOK ?_ ?_) | ((with_reducible refine ADR_free1 tyOK ?_ ?_ ?_); (focus rfl)) | ((with_reducible refine ADR_free0 tyOK ?_ ?_ ?_); (focus rfl)) | ((with_reducible refine ADR_read1 tyOK ?_ ?_ ?_); (focus rfl)) | (with_reducible refine ADR_chg1 tyOK ?_ ?_)); (focus (first | (with_reducible rfl) | ((simp (disch := omega) only [go_sem]); done))); simp (disch := omega) only [go_sem , iFlat, hs1, hs2, hs3, Int.toNat_zero, Int.toNat_one, List.length_nil]; (first | (with_reducible refine XRes_id ?_) | (with_reducible refine ADF_id ?_) | (with_reducible refine ADR_id1 ?_) | (with_reducible refine ADX_id ?_))) | ((first | (with_reducible refine XRes_skip ?_ ?_) | (with_reducible refine ADF_skip (b := true) ?_ ?_) | (with_reducible refine ADX_skip ?_ ?_) | ((with_reducible refine ADR_skip1 ?_ ?_ ?_); (focus rfl))); (focus (first | rfl | ((simp (disch := omega) only [go_sem]); done))); (simp only [putL, List.set_cons_succ, List.set_cons_zero]))) | ((first | (with_reducible refine XRes_nil ?_) | (with_reducible refine ADF_nil ?_) | (with_reducible refine ADR_nil ?_) | (with_reducible refine ADX_nil ?_)); (first | refine hK _ ?_ | refine hK _ _ ?_); clear hK K) | ((first | (with_reducible refine AX_reg0 fun K hK => ?_) | (refine AX_drawG1 tyOK (by kernel_rfl) (by rfl) (by kernel_rfl) fun K hK => ?_) | (refine AX_drawT tyOK (by kernel_rfl) (by decide +kernel) fun K hK => ?_) | (refine AX_drawM1 (by kernel_rfl) (by rfl) (by decide +kernel) fun K hK => ?_) | (refine AX_drawA tyOK (by kernel_rfl) (by decide +kernel) fun K hK => ?_)); (first | simp only [go_sem, preN, effOp, runF, alM, mapOp, alD2, kdOf2, Bool.not_false, Bool.not_true, reduceCtorEq] | simp only [go_sem, preN, effOp, runF, alM, mapOp, Bool.not_false, Bool.not_true, reduceCtorEq] | simp only [go_sem, preN, effOp, runF, alD2, kdOf2, Bool.not_false, Bool.not_true, reduceCtorEq] | simp only [go_sem, alD2, kdOf2, Bool.not_false, Bool.not_true, reduceCtorEq] | simp only [go_sem, preN, effOp, runF, Bool.not_false, Bool.not_true, reduceCtorEq] | simp only [go_sem])) | (first | (first | refine XTL (by rfl) hF ?_ | refine ATL tyOK (by rfl) hF ?_ | refine XTL (by rfl) hAw ?_ | refine ATL tyOK (by rfl) hAw ?_ | refine XTL (by rfl) hI ?_ | refine ATL tyOK (by rfl) hI ?_ | refine XTL (by rfl) (hM _ (fun j => by first | rfl | simp)) ?_ | refine ATL tyOK (by rfl) (hM _ (fun j => by first | rfl | simp)) ?_ | refine XTL (by rfl) (hO _ (fun j => by first | rfl | simp)) ?_ | refine ATL tyOK (by rfl) (hO _ (fun j => by first | rfl | simp)) ?_ | refine XTL (by rfl) (hL _ (fun j => by first | rfl | simp)) ?_ | refine ATL tyOK (by rfl) (hL _ (fun j => by first | rfl | simp)) ?_ | refine XTL (by rfl) (hP _ (fun j => by first | rfl | simp)) ?_ | refine ATL tyOK (by rfl) (hP _ (fun j => by first | rfl | simp)) ?_)))); refine Wk.o ?_; (repeat revert hK K); exact h9)) : A := w h9
set_option maxRecDepth 100000 in
set_option maxHeartbeats 4000000 in
theorem pf_WitnessOrder (o : Ob) (l : List Op5) (ps : List Pk) (ho : o.Ok) (hs : okS l) (hrl : o.R.length ≤ 9223372036854775807) (hll : l.length ≤ 9223372036854775807) (hpl : ps.length ≤ 9223372036854775807) (hq : ∀ i, -9223372036854775808 ≤ (pkAt ps i).o ∧ (pkAt ps i).o ≤ 9223372036854775807) : PF Try.prog 3 [obA o, .iv (iOps l), .iv (iPks ps)] fun r H' => r = lt (.bool true) ∧ H' = [] := by
  refine SF.forgetAll ?_
  have hs1 := trivial; have hs2 := trivial; have hs3 := trivial; have hI := trivial; have hL := trivial; have hM := trivial; have hO := trivial; have hP := trivial
  have hAw := pf_awake29
  have hF := pf_few29 o hrl
  by_cases b1 : o.R.length ≤ 300
  · rw [decide_eq_true b1] at hF
    by_cases b2 : l.length ≤ 40
    · by_cases b3 : ps.length ≤ 40
      · have hI := pf_wIs o l ps (by omega) ho (by omega) hs (by omega) hq
        by_cases e1 : wE o l ps = 0
        · obtain ⟨g1, g2, g3, g4⟩ := wE_zero.1 e1
          have hG := endsOk_good (oCE_good g1).2
          rw [decide_eq_true e1] at hI
          (refine SF_of_bodyX (aload tt) (aload_ok tyOK) Try.func3 rfl (by kernel_rfl) ?_; simp only [Try.ntmps3, List.length_cons, List.length_nil, Nat.reduceAdd, Nat.reduceSub, List.replicate_succ, List.replicate_zero, List.cons_append, List.nil_append])
          unfold iOps iFlat at hI
          unfold iOps iFlat
          (refine Wk.o ?_; (repeat revert hK K); refine Wc584a ?_; (repeat intro K hK); refine ⟨?_⟩)
          refine AX_wh (σ := Nat) [32, 33, 34, 35, 38, 39, 40, 8, 41, 42, 43, 9, 44, 45, 46, 47, 48, 49, 50, 51, 52, 53, 54, 55, 56, 57, 58, 59, 60, 61, 6, 10, 62, 63, 64, 65, 68, 69, 70, 71, 72, 73, 74, 75, 76, 66, 67, 36, 37] (fun i => [(7, lint i)]) (fun _ => [some ⟨24, [lt (.int .i64 o.S), lt (.int .i64 o.K), lt (.int .i64 o.I), .iv (iRws o.R)]⟩]) (fun _ => []) (fun i => i ≤ ps.length + 1) (fun i => ps.length + 1 - i) 0 (fun d => by first | ((simp only [deadS, updS, List.set_cons_succ, List.set_cons_zero, lint, List.length_nil, List.length_cons]); done) | ((simp only [deadS, updS, List.set_cons_succ, List.set_cons_zero, lint, List.length_nil, List.length_cons]); rfl) | rfl) rfl rfl (Nat.zero_le _) ?_
          rintro i d fr hfr hi
          simp only [updS, deadS, List.set_cons_succ, List.set_cons_zero, lint] at hfr
          subst hfr
          (try dsimp only)
          by_cases hlt : i ≤ ps.length
          · have hM := pf_MissingP l ps (by omega) (by omega) 0 i (by omega)
            have hL := pf_LeftP l ps (by omega) (by omega) 0 i (by omega)
            have hO := pf_OrderP l ps (by omega) (by omega) hG hq 0 i (by omega)
            have hct := head_cnt g2 hlt
            rw [head_ord g3 hlt] at hO
            have hrest := fun x => head_rest (x := x) g4 hlt
            have hm1 := wMs_len l (pkPart ps 0 i) endD l.length
            have hm2 := wMs_len l (pkPart ps 0 i) pendD l.length
            generalize wMs l (pkPart ps 0 i) endD l.length = M at *
            generalize wMs l (pkPart ps 0 i) pendD l.length = M2 at *
            unfold iOps iFlat iInts at hM hL
            unfold iOps iFlat at hO
            (refine Wk.o ?_; (repeat revert hK K); refine Wc584a ?_; (repeat intro K hK); refine ⟨?_⟩)
            refine AX_wh (σ := Nat) [62, 63, 64, 65, 68, 69, 70, 71, 72, 73, 74, 75, 76, 6, 66, 67] (fun k => [(10, lint k)]) (fun _ => [some ⟨24, [lt (.int .i64 o.S), lt (.int .i64 o.K), lt (.int .i64 o.I), .iv (iRws o.R)]⟩]) (fun _ => []) (fun k => k ≤ M.length) (fun k => M.length - k) 0 (fun d => by first | ((simp only [deadS, updS, List.set_cons_succ, List.set_cons_zero, lint, List.length_nil, List.length_cons]); done) | ((simp only [deadS, updS, List.set_cons_succ, List.set_cons_zero, lint, List.length_nil, List.length_cons]); rfl) | rfl) rfl rfl (Nat.zero_le _) ?_
            rintro k d2 fr hfr hk
            simp only [updS, deadS, List.set_cons_succ, List.set_cons_zero, lint] at hfr
            subst hfr
            (try dsimp only)
            by_cases hlt2 : k < M.length
            · have hP := pf_rPlaceP ps (by omega) (M.getD k 0) i (ps.length - i) (by omega)
              have hp0 := hrest (M.getD k 0) (getD_mem.2 ⟨k, hlt2, rfl⟩)
              have hpb := wPl_bd (pkPart ps i (ps.length - i)) (M.getD k 0)
              rw [pkPart_len (by omega)] at hpb
              generalize wPl (pkPart ps i (ps.length - i)) (M.getD k 0) = w at *
              (refine Wk.o ?_; (repeat revert hK K); refine Wc584a ?_; (repeat intro K hK); refine ⟨?_⟩)
              exact WEND (k + 1) (show k + 1 ≤ M.length by omega) (by (first | omega | (dsimp only; omega) | (simp only; omega)))
            · obtain rfl : k = M.length := by omega
              (refine Wk.o ?_; (repeat revert hK K); refine Wc584a ?_; (repeat intro K hK); refine ⟨?_⟩)
              exact WEND (i + 1) (show i + 1 ≤ ps.length + 1 by omega) (by (first | omega | (dsimp only; omega) | (simp only; omega)))
          · obtain rfl : i = ps.length + 1 := by omega
            (refine Wk.o ?_; (repeat revert hK K); refine Wc584a ?_; (repeat intro K hK); refine ⟨?_⟩)
            (simp only [bodyX]; refine ⟨_, by simp only [aresults, aresult, XS.as, Try.results3, aload, go_sem, Option.bind_some]; rfl, ?_⟩)
            exact ⟨.iv _, rfl, trivial⟩
        · rw [decide_eq_false e1] at hI
          (refine SF_of_bodyX (aload tt) (aload_ok tyOK) Try.func3 rfl (by kernel_rfl) ?_; simp only [Try.ntmps3, List.length_cons, List.length_nil, Nat.reduceAdd, Nat.reduceSub, List.replicate_succ, List.replicate_zero, List.cons_append, List.nil_append])
          unfold iOps iFlat at *
          (refine Wk.o ?_; (repeat revert hK K); refine Wc584a ?_; (repeat intro K hK); refine ⟨?_⟩)
          (simp only [bodyX]; refine ⟨_, by simp only [aresults, aresult, XS.as, Try.results3, aload, go_sem, Option.bind_some]; rfl, ?_⟩)
          exact ⟨.iv _, rfl, trivial⟩
      · skip
        (refine SF_of_bodyX (aload tt) (aload_ok tyOK) Try.func3 rfl (by kernel_rfl) ?_; simp only [Try.ntmps3, List.length_cons, List.length_nil, Nat.reduceAdd, Nat.reduceSub, List.replicate_succ, List.replicate_zero, List.cons_append, List.nil_append])
        unfold iOps iFlat at *
        (refine Wk.o ?_; (repeat revert hK K); refine Wc584a ?_; (repeat intro K hK); refine ⟨?_⟩)
        (simp only [bodyX]; refine ⟨_, by simp only [aresults, aresult, XS.as, Try.results3, aload, go_sem, Option.bind_some]; rfl, ?_⟩)
        exact ⟨.iv _, rfl, trivial⟩
    · skip
      (refine SF_of_bodyX (aload tt) (aload_ok tyOK) Try.func3 rfl (by kernel_rfl) ?_; simp only [Try.ntmps3, List.length_cons, List.length_nil, Nat.reduceAdd, Nat.reduceSub, List.replicate_succ, List.replicate_zero, List.cons_append, List.nil_append])
      unfold iOps iFlat at *
      (refine Wk.o ?_; (repeat revert hK K); refine Wc584a ?_; (repeat intro K hK); refine ⟨?_⟩)
      (simp only [bodyX]; refine ⟨_, by simp only [aresults, aresult, XS.as, Try.results3, aload, go_sem, Option.bind_some]; rfl, ?_⟩)
      exact ⟨.iv _, rfl, trivial⟩
  · rw [decide_eq_false b1] at hF
    (refine SF_of_bodyX (aload tt) (aload_ok tyOK) Try.func3 rfl (by kernel_rfl) ?_; simp only [Try.ntmps3, List.length_cons, List.length_nil, Nat.reduceAdd, Nat.reduceSub, List.replicate_succ, List.replicate_zero, List.cons_append, List.nil_append])
    unfold iOps iFlat at *
    (refine Wk.o ?_; (repeat revert hK K); refine Wc584a ?_; (repeat intro K hK); refine ⟨?_⟩)
    (simp only [bodyX]; refine ⟨_, by simp only [aresults, aresult, XS.as, Try.results3, aload, go_sem, Option.bind_some]; rfl, ?_⟩)
    exact ⟨.iv _, rfl, trivial⟩
end Go.Proofs.Yteldioinhbpfhaa
