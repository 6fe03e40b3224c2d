import Derived.Test.YthfjnlapelkbnaaDoorMgAU
import Derived.Test.YthfjnlapelkbnaaDoorMgAB
import Derived.Test.YthfjnlapelkbnaaDoorMgAV
import Derived.Test.YthfjnlapelkbnaaDoorMgAR
import Derived.Test.YthfjnlapelkbnaaDoorMgAT
namespace Go.Proofs.YthfjnlapelkbnaaDoor
open Go.RowKit Go.Lib
set_option linter.unusedVariables false
set_option linter.unusedSimpArgs false
def pz : Bool → AV
  | true => .xptr 0 2
  | false => lt (.pointer none)
theorem tkL_at {a b : Int} {ts : List (Nat × List UInt8)} {k : Nat} (h : k < ts.length) : (tkL a b ts).getD (k * 3) undef = .int .i64 a ∧ (tkL a b ts).getD (k * 3 + 1) undef = .int .i64 (b + (ts.getD k (0, [])).1) ∧ (tkL a b ts).getD (k * 3 + 2) undef = .string (ba (ts.getD k (0, [])).2) := by
  induction ts generalizing k with
  | nil => simp at h
  | cons t ts ih =>
    cases k with
    | zero => exact ⟨rfl, rfl, rfl⟩
    | succ k =>
      have := ih (k := k) (by simpa using h)
      have e : ∀ j, (tkL a b (t :: ts)).getD ((k + 1) * 3 + j) undef = (tkL a b ts).getD (k * 3 + j) undef := fun j => by
        rw [show (k + 1) * 3 + j = (k * 3 + j) + 3 by omega]; rfl
      exact ⟨(e 0).trans this.1, (e 1).trans this.2.1, (e 2).trans this.2.2⟩
theorem rnL_u8C (r : Nat → Nat) (l : List UInt8) : rnL r (u8C l) = u8C l := by unfold u8C; rw [rnL_map, List.map_map]; rfl
theorem idL_u8C (p : Nat → Bool) (l : List UInt8) : idL p (u8C l) = true := by unfold u8C; rw [idL_all, List.all_map, List.all_eq_true]; exact fun _ _ => rfl
attribute [go_sem] rnL_u8C idL_u8C
theorem W3feba {A B : Prop} (h9 : B) (w : B → A := by (intro h9; (repeat intro K hK); refine ⟨?_⟩; (repeat (first | (first | (with_reducible first | refine AX_block ?_ | refine AX_skip ?_ | refine AX_exit ?_ | refine AX_ret ?_ | refine AX_ift ?_ | refine AX_iff ?_ | refine AX_seq_k (fun K hK => ?_) | refine ContX.use (by assumption) ?_) | simp only [thenX, inBlockX, if_true, if_false, reduceCtorEq]) | (first | ((with_reducible refine XOP tyOK ?_); simp (disch := omega) only [go_sem , pz, List.length_append, hs1, hs2, hs3, hs4, hs5, hs6, hs7, hs8, u8C_len, List.length_set]; (with_reducible refine XRes_id ?_)) | (with_reducible refine XSK ?_)) | ((with_reducible refine XRes_nil ?_); refine hK _ ?_; clear hK K) | ((with_reducible refine AX_reg0 fun K hK => ?_); simp only [go_sem]) | (first | (first | refine XTL (by rfl) hC ?_ | refine XTL (by rfl) hI ?_)))); refine Wk.o ?_; (repeat revert hK K); exact h9)) : A := w h9
set_option maxRecDepth 100000 in
set_option maxHeartbeats 4000000 in
theorem pf_Join1 (rs : List (Nat × Nat × List (Nat × List UInt8))) (h0 : rs ≠ []) (hJ : (joinB rs).length ≤ 1000000) (hR : rs.length ≤ 1000000) (hT : ∀ r ∈ rs, r.2.2.length ≤ 1000000) : PF Tryd.prog 14 [.iv (iLn rs)] fun r H' => r = lt (.string (ba (joinB rs))) ∧ H' = [] := by
  refine SF.forgetAll ?_
  have hs1 := trivial; have hs2 := trivial; have hs3 := trivial; have hs4 := trivial; have hs5 := trivial; have hs6 := trivial; have hs7 := trivial; have hs8 := trivial; have hC := trivial; have hI := trivial
  unfold iLn
  (refine SF_of_bodyX (aload tt) (aload_ok tyOK) Tryd.func14 rfl (by kernel_rfl) ?_; simp only [Tryd.ntmps14, List.length_cons, List.length_nil, Nat.reduceAdd, Nat.reduceSub, List.replicate_succ, List.replicate_zero, List.cons_append, List.nil_append])
  (repeat (first | (first | (with_reducible first | refine AX_block ?_ | refine AX_skip ?_ | refine AX_exit ?_ | refine AX_ret ?_ | refine AX_ift ?_ | refine AX_iff ?_ | refine AX_seq_k (fun K hK => ?_) | refine ContX.use (by assumption) ?_) | simp only [thenX, inBlockX, if_true, if_false, reduceCtorEq]) | ((refine XRes_allocX tyOK (e := bT) (by rfl) (by rfl) (by rfl) ?_); (simp only [putL, List.set_cons_succ, List.set_cons_zero])) | (first | ((with_reducible refine XOP tyOK ?_); simp (disch := omega) only [go_sem , pz, List.length_append, hs1, hs2, hs3, hs4, hs5, hs6, hs7, hs8, u8C_len, List.length_set]; (with_reducible refine XRes_id ?_)) | (with_reducible refine XSK ?_)) | ((with_reducible refine XRes_nil ?_); refine hK _ ?_; clear hK K) | ((with_reducible refine AX_reg0 fun K hK => ?_); simp only [go_sem]) | (first | (first | refine XTL (by rfl) hC ?_ | refine XTL (by rfl) hI ?_))))
  refine AX_cellNew 0 5 1 1 _ rfl rfl ?_
  (simp only [putL, List.set_cons_succ, List.set_cons_zero])
  (refine AX_wh (σ := Nat × Bool) [11, 12, 13, 5, 14, 15, 16, 17, 18, 19, 20, 7, 6, 21, 22, 23, 24, 25, 26, 27, 28, 29] (fun (k, b) => [(10, lint k)]) (fun (k, b) => [some ⟨bT, [pz b, .osl 1 0 (joinB (rs.take k)).length 1]⟩, some ⟨5, u8C (joinB (rs.take k))⟩]) (fun (k, b) => []) (fun (k, b) => k ≤ rs.length) (fun (k, b) => rs.length - k) (0, false) (fun d => by first | ((simp only [deadS, updS, List.set_cons_succ, List.set_cons_zero, lint, List.length_nil, List.length_cons]); done) | ((simp only [deadS, updS, List.set_cons_succ, List.set_cons_zero, lint, List.length_nil, List.length_cons]); rfl) | rfl) (by first | (with_reducible rfl) | (simp only [hinit]; done) | rfl) (by first | (with_reducible rfl) | rfl) (by first | exact Nat.zero_le _) ?_; rintro ⟨k, b⟩ d fr hfr hk; simp only [updS, deadS, List.set_cons_succ, List.set_cons_zero, lint] at hfr; subst hfr; (try dsimp only))
  by_cases hlt : k < rs.length
  · rcases hr : rs.getD k (0, 0, []) with ⟨a, c, ts⟩
    have hle := joinB_le hlt
    have hst := joinB_step hlt
    rw [hr] at hle hst
    dsimp only at hle hst
    have hs1 : rowIV (rs.getD k (0, 0, [])) = .sl (fun j => .lit ((tkL a c ts).getD j undef)) ts.length 3 := by rw [hr]; rfl
    have hs2 : decide ((k : Int) < (rs.length : Int)) = true := decide_eq_true (by omega)
    have hTl : ts.length ≤ 1000000 := by
      have := hT (rs.getD k (0, 0, [])) (by rw [List.getD_eq_getElem?_getD, List.getElem?_eq_getElem hlt]; exact List.getElem_mem hlt)
      rw [hr] at this; exact this
    have hinit : joinB (rs.take k) ++ rowB (ts.take 0) = joinB (rs.take k) := by simp [rowB]
    generalize hJk : joinB (rs.take k) = Jk at *
    (refine Wk.o ?_; (repeat revert hK K); refine W3feba ?_; (repeat intro K hK); refine ⟨?_⟩)
    rw [← hinit]
    (refine AX_wh (σ := Nat × Bool) [17, 18, 19, 20, 7, 6, 21, 22, 23, 24, 25, 26, 27] (fun (j, b2) => [(16, lint j)]) (fun (j, b2) => [some ⟨bT, [pz b2, .osl 1 0 (Jk ++ rowB (ts.take j)).length 1]⟩, some ⟨5, u8C (Jk ++ rowB (ts.take j))⟩]) (fun (j, b2) => []) (fun (j, b2) => j ≤ ts.length ∧ (j ≠ 0 → b2 = true)) (fun (j, b2) => ts.length - j) (0, b) (fun d => by first | ((simp only [deadS, updS, List.set_cons_succ, List.set_cons_zero, lint, List.length_nil, List.length_cons]); done) | ((simp only [deadS, updS, List.set_cons_succ, List.set_cons_zero, lint, List.length_nil, List.length_cons]); rfl) | rfl) (by first | (with_reducible rfl) | (simp only [hinit]; done) | rfl) (by first | (with_reducible rfl) | rfl) (by first | exact ⟨Nat.zero_le _, fun h => absurd rfl h⟩) ?_; rintro ⟨j, b2⟩ d fr hfr ⟨hj, hb⟩; simp only [updS, deadS, List.set_cons_succ, List.set_cons_zero, lint] at hfr; subst hfr; (try dsimp only))
    by_cases hj2 : j < ts.length
    · obtain ⟨e1, e2, e3⟩ := tkL_at (a := a) (b := c) hj2
      have hrl := rowB_le hj2
      have hrs := rowB_step hj2
      have hs3 : decide ((j : Int) < (ts.length : Int)) = true := decide_eq_true (by omega)
      generalize (ts.getD j (0, [])).2 = tx at *
      generalize (ts.getD j (0, [])).1 = ta at *
      have hs5 := e1
      have hs6 := e2
      have hs7 := e3
      by_cases h0j : j = 0
      · rw [if_pos h0j] at hrl hrs
        have hs4 : decide ((0 : Int) < (j : Int)) = false := decide_eq_false (by omega)
        have hNx : Jk ++ rowB (ts.take (j + 1)) = (Jk ++ rowB (ts.take j)) ++ tx := by rw [hrs]; simp
        have hLl : (Jk ++ rowB (ts.take j)).length + tx.length ≤ 1000000 := by rw [List.length_append]; omega
        have hI2 : j + 1 ≤ ts.length ∧ (j + 1 ≠ 0 → true = true) := ⟨by omega, fun _ => rfl⟩
        generalize hL : Jk ++ rowB (ts.take j) = L at *
        cases b2
        · (refine Wk.o ?_; (repeat revert hK K); refine W3feba ?_; (repeat intro K hK); refine ⟨?_⟩)
          refine XRes_fn (by rfl) (sf_bws (o := 0) (q := 1) (l := L) (by rfl) (.inl rfl) (by rfl) (by decide) (by omega) tx (by omega)) ?_
          rintro r H1 ⟨rfl, rfl⟩
          (simp only [putL, List.set_cons_succ, List.set_cons_zero])
          (refine Wk.o ?_; (repeat revert hK K); refine W3feba ?_; (repeat intro K hK); refine ⟨?_⟩)
          have hs8 := hNx
          exact whx_ren [0, 3] (j + 1, true) hI2 (by (first | omega | (dsimp only; omega) | (simp only; omega))) rfl (by decide) (by decide) (by (simp (disch := omega) only [go_sem, lint , pz, List.length_append, hs1, hs2, hs3, hs4, hs5, hs6, hs7, hs8, u8C_len, List.length_set])) (by (simp (disch := omega) only [go_sem, lint , pz, List.length_append, hs1, hs2, hs3, hs4, hs5, hs6, hs7, hs8, u8C_len, List.length_set])) (by (simp (disch := omega) only [go_sem, lint , pz, List.length_append, hs1, hs2, hs3, hs4, hs5, hs6, hs7, hs8, u8C_len, List.length_set])) (fun d => by first | ((simp (disch := omega) only [go_sem, lint , pz, List.length_append, hs1, hs2, hs3, hs4, hs5, hs6, hs7, hs8, u8C_len, List.length_set]); done) | ((simp (disch := omega) only [go_sem, lint , pz, List.length_append, hs1, hs2, hs3, hs4, hs5, hs6, hs7, hs8, u8C_len, List.length_set]); rfl))
        · (refine Wk.o ?_; (repeat revert hK K); refine W3feba ?_; (repeat intro K hK); refine ⟨?_⟩)
          refine XRes_fn (by rfl) (sf_bws (o := 0) (q := 1) (l := L) (by rfl) (.inr rfl) (by rfl) (by decide) (by omega) tx (by omega)) ?_
          rintro r H1 ⟨rfl, rfl⟩
          (simp only [putL, List.set_cons_succ, List.set_cons_zero])
          (refine Wk.o ?_; (repeat revert hK K); refine W3feba ?_; (repeat intro K hK); refine ⟨?_⟩)
          have hs8 := hNx
          exact whx_ren [0, 3] (j + 1, true) hI2 (by (first | omega | (dsimp only; omega) | (simp only; omega))) rfl (by decide) (by decide) (by (simp (disch := omega) only [go_sem, lint , pz, List.length_append, hs1, hs2, hs3, hs4, hs5, hs6, hs7, hs8, u8C_len, List.length_set])) (by (simp (disch := omega) only [go_sem, lint , pz, List.length_append, hs1, hs2, hs3, hs4, hs5, hs6, hs7, hs8, u8C_len, List.length_set])) (by (simp (disch := omega) only [go_sem, lint , pz, List.length_append, hs1, hs2, hs3, hs4, hs5, hs6, hs7, hs8, u8C_len, List.length_set])) (fun d => by first | ((simp (disch := omega) only [go_sem, lint , pz, List.length_append, hs1, hs2, hs3, hs4, hs5, hs6, hs7, hs8, u8C_len, List.length_set]); done) | ((simp (disch := omega) only [go_sem, lint , pz, List.length_append, hs1, hs2, hs3, hs4, hs5, hs6, hs7, hs8, u8C_len, List.length_set]); rfl))
      · rw [if_neg h0j] at hrl hrs
        have hb2 := hb h0j
        subst hb2
        have hs4 : decide ((0 : Int) < (j : Int)) = true := decide_eq_true (by omega)
        have hNx : Jk ++ rowB (ts.take (j + 1)) = ((Jk ++ rowB (ts.take j)) ++ [32]) ++ tx := by rw [hrs]; simp
        have hLl : (Jk ++ rowB (ts.take j)).length + (1 + tx.length) ≤ 1000000 := by rw [List.length_append]; omega
        have hI2 : j + 1 ≤ ts.length ∧ (j + 1 ≠ 0 → true = true) := ⟨by omega, fun _ => rfl⟩
        generalize hL : Jk ++ rowB (ts.take j) = L at *
        (refine Wk.o ?_; (repeat revert hK K); refine W3feba ?_; (repeat intro K hK); refine ⟨?_⟩)
        refine XRes_fn (by rfl) (sf_bwb (o := 0) (q := 1) (l := L) (by rfl) (.inr rfl) (by rfl) (by decide) (by omega) 32) ?_
        rintro r H1 ⟨rfl, rfl⟩
        (simp only [putL, List.set_cons_succ, List.set_cons_zero])
        (refine Wk.o ?_; (repeat revert hK K); refine W3feba ?_; (repeat intro K hK); refine ⟨?_⟩)
        refine XRes_fn (by rfl) (sf_bws (o := 0) (q := 4) (l := L ++ [32]) (by first | rfl | (rw [List.length_append]; rfl)) (.inr rfl) (by rfl) (by decide) (by rw [List.length_append]; show _ + 1 ≤ _; omega) tx (by omega)) ?_
        rintro r H1 ⟨rfl, rfl⟩
        (simp only [putL, List.set_cons_succ, List.set_cons_zero])
        (refine Wk.o ?_; (repeat revert hK K); refine W3feba ?_; (repeat intro K hK); refine ⟨?_⟩)
        have hs8 := hNx
        exact whx_ren [0, 5] (j + 1, true) hI2 (by (first | omega | (dsimp only; omega) | (simp only; omega))) rfl (by decide) (by decide) (by (simp (disch := omega) only [go_sem, lint , pz, List.length_append, hs1, hs2, hs3, hs4, hs5, hs6, hs7, hs8, u8C_len, List.length_set])) (by (simp (disch := omega) only [go_sem, lint , pz, List.length_append, hs1, hs2, hs3, hs4, hs5, hs6, hs7, hs8, u8C_len, List.length_set])) (by (simp (disch := omega) only [go_sem, lint , pz, List.length_append, hs1, hs2, hs3, hs4, hs5, hs6, hs7, hs8, u8C_len, List.length_set])) (fun d => by first | ((simp (disch := omega) only [go_sem, lint , pz, List.length_append, hs1, hs2, hs3, hs4, hs5, hs6, hs7, hs8, u8C_len, List.length_set]); done) | ((simp (disch := omega) only [go_sem, lint , pz, List.length_append, hs1, hs2, hs3, hs4, hs5, hs6, hs7, hs8, u8C_len, List.length_set]); rfl))
    · have hs3 : decide ((j : Int) < (ts.length : Int)) = false := decide_eq_false (by omega)
      have hjt : ts.take j = ts := List.take_of_length_le (by omega)
      rw [hjt]
      have hNx : joinB (rs.take (k + 1)) = (Jk ++ rowB ts) ++ [10] := by rw [hst, List.append_assoc]
      have hLl : (Jk ++ rowB ts).length + 1 ≤ 1000000 := by rw [List.length_append]; omega
      generalize hL : Jk ++ rowB ts = L at *
      cases b2
      · (refine Wk.o ?_; (repeat revert hK K); refine W3feba ?_; (repeat intro K hK); refine ⟨?_⟩)
        refine XRes_fn (by rfl) (sf_bwb (o := 0) (q := 1) (l := L) (by rfl) (.inl rfl) (by rfl) (by decide) (by omega) 10) ?_
        rintro r H1 ⟨rfl, rfl⟩
        (simp only [putL, List.set_cons_succ, List.set_cons_zero])
        (refine Wk.o ?_; (repeat revert hK K); refine W3feba ?_; (repeat intro K hK); refine ⟨?_⟩)
        have hs8 := hNx
        exact whx_ren [0, 3] (k + 1, true) (show k + 1 ≤ rs.length by omega) (by (first | omega | (dsimp only; omega) | (simp only; omega))) rfl (by decide) (by decide) (by (simp (disch := omega) only [go_sem, lint , pz, List.length_append, hs1, hs2, hs3, hs4, hs5, hs6, hs7, hs8, u8C_len, List.length_set])) (by (simp (disch := omega) only [go_sem, lint , pz, List.length_append, hs1, hs2, hs3, hs4, hs5, hs6, hs7, hs8, u8C_len, List.length_set])) (by (simp (disch := omega) only [go_sem, lint , pz, List.length_append, hs1, hs2, hs3, hs4, hs5, hs6, hs7, hs8, u8C_len, List.length_set])) (fun d => by first | ((simp (disch := omega) only [go_sem, lint , pz, List.length_append, hs1, hs2, hs3, hs4, hs5, hs6, hs7, hs8, u8C_len, List.length_set]); done) | ((simp (disch := omega) only [go_sem, lint , pz, List.length_append, hs1, hs2, hs3, hs4, hs5, hs6, hs7, hs8, u8C_len, List.length_set]); rfl))
      · (refine Wk.o ?_; (repeat revert hK K); refine W3feba ?_; (repeat intro K hK); refine ⟨?_⟩)
        refine XRes_fn (by rfl) (sf_bwb (o := 0) (q := 1) (l := L) (by rfl) (.inr rfl) (by rfl) (by decide) (by omega) 10) ?_
        rintro r H1 ⟨rfl, rfl⟩
        (simp only [putL, List.set_cons_succ, List.set_cons_zero])
        (refine Wk.o ?_; (repeat revert hK K); refine W3feba ?_; (repeat intro K hK); refine ⟨?_⟩)
        have hs8 := hNx
        exact whx_ren [0, 3] (k + 1, true) (show k + 1 ≤ rs.length by omega) (by (first | omega | (dsimp only; omega) | (simp only; omega))) rfl (by decide) (by decide) (by (simp (disch := omega) only [go_sem, lint , pz, List.length_append, hs1, hs2, hs3, hs4, hs5, hs6, hs7, hs8, u8C_len, List.length_set])) (by (simp (disch := omega) only [go_sem, lint , pz, List.length_append, hs1, hs2, hs3, hs4, hs5, hs6, hs7, hs8, u8C_len, List.length_set])) (by (simp (disch := omega) only [go_sem, lint , pz, List.length_append, hs1, hs2, hs3, hs4, hs5, hs6, hs7, hs8, u8C_len, List.length_set])) (fun d => by first | ((simp (disch := omega) only [go_sem, lint , pz, List.length_append, hs1, hs2, hs3, hs4, hs5, hs6, hs7, hs8, u8C_len, List.length_set]); done) | ((simp (disch := omega) only [go_sem, lint , pz, List.length_append, hs1, hs2, hs3, hs4, hs5, hs6, hs7, hs8, u8C_len, List.length_set]); rfl))
  · have hd : rs.take k = rs := List.take_of_length_le (by omega)
    have hs1 : decide ((k : Int) < (rs.length : Int)) = false := decide_eq_false (by omega)
    rw [hd]
    (refine Wk.o ?_; (repeat revert hK K); refine W3feba ?_; (repeat intro K hK); refine ⟨?_⟩)
    refine XRes_fn (by rfl) (sf_bstr (o := 0) (q := 1) (l := joinB rs) (by rfl) (by rfl) (joinB_ne h0) (by omega)) ?_
    rintro r H1 ⟨rfl, rfl⟩
    (simp only [putL, List.set_cons_succ, List.set_cons_zero])
    (refine Wk.o ?_; (repeat revert hK K); refine W3feba ?_; (repeat intro K hK); refine ⟨?_⟩)
    (simp only [bodyX]; refine ⟨_, by simp only [aresults, aresult, XS.as, Tryd.results14, aload, go_sem, Option.bind_some]; rfl, ?_⟩)
    exact ⟨ids_idB rfl, rfl, trivial⟩
end Go.Proofs.YthfjnlapelkbnaaDoor
namespace Go.Proofs.YthfjnlapelkbnaaDoor
open Go.RowKit
set_option linter.unusedVariables false
set_option linter.unusedSimpArgs false
def plainV (P : Program) (t : TypeId) (v : Value) : Bool := P.plainKey t && match P.underlying t, v with
  | some (.int .i64), .int .i64 _ => true
  | some .string, .string _ => true
  | some .bool, .bool _ => true
  | _, _ => false
def eqV : Value → Value → Bool
  | .int .i64 a, .int .i64 b => a == b
  | .string a, .string b => a.toList == b.toList
  | .bool a, .bool b => a == b
  | _, _ => false
def eqL : List Value → List Value → Bool
  | u :: us, v :: vs => eqV u v && eqL us vs
  | _, _ => true
def mixF (P : Program) : Nat → List Field → List Value → List Value → Bool
  | _, [], [], [] => true
  | k, f :: fs, u :: us, v :: vs => f.name != "_" && f.offset == k && plainV P f.type u && plainV P f.type v && mixF P (k + 1) fs us vs
  | _, _, _, _ => false
def eqMix (P : Program) (t : Nat) (us vs : List Value) : Bool := !P.eqGuardType P.depth t && match P.underlying t with
  | some (.struct fs) => mixF P 0 fs.toList us vs && !P.stoodInHeld t
  | _ => false
section
variable {P : Program}
theorem plain_part {t : TypeId} {v : Value} (h : plainV P t v = true) {xs : Array Value} {i : Nat} (hx : xs[i]? = some v) (w : World) : (part t xs i).run P w = .ok v w := by
  unfold plainV at h; rw [Bool.and_eq_true] at h
  exact run_part_plain w h.1 hx
theorem plain_eq {t : TypeId} {u v : Value} (h : plainV P t u = true) (h' : plainV P t v = true) (d : Nat) (w : World) : (Op.equalIn (d + 1) t u v).run P w = .ok (eqV u v) w := by
  unfold plainV at h h'; rw [Bool.and_eq_true] at h h'
  have h1 := h.2
  have h2 := h'.2
  split at h1
  · rename_i hu; rw [hu] at h2
    cases v with
    | int k b => cases k <;> first | exact run_equalIn_int w d t .i64 .i64 _ b hu | (simp at h2)
    | _ => simp at h2
  · rename_i hu; rw [hu] at h2
    cases v with
    | string b => exact run_equalIn_string w d t _ b hu
    | _ => simp at h2
  · rename_i hu; rw [hu] at h2
    cases v with
    | bool b => exact run_equalIn_bool w d t _ b hu
    | _ => simp at h2
  · cases h1
theorem eqFields_mix (d : Nat) (xs ys : Array Value) (w : World) : ∀ (fs : List Field) (k : Nat) (us vs : List Value), mixF P k fs us vs = true → xs.toList.drop k = us → ys.toList.drop k = vs →
    (Op.eqFields (d + 1) xs ys fs).run P w = .ok (eqL us vs) w
  | [], k, [], [], _, _, _ => by simp [Op.eqFields, eqL]
  | [], k, [], v :: vs, h, _, _ => by simp [mixF] at h
  | [], k, u :: us, vs, h, _, _ => by simp [mixF] at h
  | f :: fs, k, [], vs, h, _, _ => by simp [mixF] at h
  | f :: fs, k, u :: us, [], h, _, _ => by simp [mixF] at h
  | f :: fs, k, u :: us, v :: vs, h, hx, hy => by
    unfold mixF at h
    simp only [Bool.and_eq_true, bne_iff_ne, beq_iff_eq] at h
    obtain ⟨⟨⟨⟨n1, n2⟩, n3⟩, n4⟩, n5⟩ := h
    obtain ⟨x1, x2⟩ := drop_cons hx
    obtain ⟨y1, y2⟩ := drop_cons hy
    rw [Array.getElem?_toList] at x1 y1
    have ih := eqFields_mix d xs ys w fs (k + 1) us vs n5 x2 y2
    simp only [Op.eqFields, n1, ne_eq, not_false_eq_true, if_true, Sem.run_bind, n2, plain_part n3 x1, plain_part n4 y1, plain_eq n3 n4, Result.andThen_ok]
    by_cases hab : eqV u v = true
    · simp [hab, eqL, ih]
    · have hab' : eqV u v = false := by simpa using hab
      simp [hab', eqL]
theorem eq_mix {t : Nat} {us vs : List Value} (h : eqMix P t us vs = true) (w : World) : (Op.equalIn 10000 t (.agg us.toArray) (.agg vs.toArray)).run P w = .ok (eqL us vs) w := by
  unfold eqMix at h
  rw [Bool.and_eq_true] at h
  have h := h.2
  split at h
  · rename_i fs hu
    simp only [Bool.and_eq_true, beq_iff_eq, Bool.not_eq_true'] at h
    obtain ⟨f1, f3⟩ := h
    have hf : P.fieldsOf t = fs := by unfold Program.fieldsOf; rw [hu]
    rw [show (10000 : Nat) = 9998 + 1 + 1 from rfl, run_equalIn_struct w _ t _ _ (by rw [hf]; exact hu) f3, hf]
    exact eqFields_mix 9998 _ _ w fs.toList 0 us vs f1 (by simp) (by simp)
  · cases h
theorem mix_guard {t : Nat} {us vs : List Value} (h : eqMix P t us vs = true) (op : BinOp) (x y : Operand) (xs ys : Array Value) (w : World) : (eqGuard op t x y (.agg xs) (.agg ys)).run P w = .ok () w := by
  unfold eqMix at h
  simp only [Bool.and_eq_true, Bool.not_eq_true'] at h
  exact run_eqGuard_agg w op t x y xs ys h.1
theorem eqM_run {t : Nat} {us vs : List Value} (h : eqMix P t us vs = true) {op : BinOp} (hop : op = .eql ∨ op = .neq) {x y : Operand} {d : Option Tmp} {t2 ty : TypeId} {pos : String} {after : Array Edge} {g : Option (Nat × Bool)} {ρ : Operand → Value} (hx : ρ x = .agg us.toArray) (hy : ρ y = .agg vs.toArray) (w : World) :
    (execOp ρ ⟨d, .binOp op t x y t2, ty, pos, after, g⟩).run P w = .ok (.value (.bool (eqRes op (eqL us vs)))) w := by
  rcases hop with rfl | rfl
  · simp [execOp, hx, hy, mix_guard h, run_eql_struct, eq_mix h, Result.andThen, eqRes]
  · simp [execOp, hx, hy, mix_guard h, run_neq_struct, eq_mix h, Result.andThen, eqRes]
variable {m : Nat} {Q : Exit → XS → Prop} {fr : List AV} {H : AHeap} {M : MS} {l : List Oper} {d : Option Tmp} {t2 ty : TypeId} {pos : String} {after : Array Edge} {g : Option (Nat × Bool)}
theorem XRes_eqM {t : Nat} {op : BinOp} {x y : Operand} (us vs : List Value) (hw : wantedS fr ⟨d, .binOp op t x y t2, ty, pos, after, g⟩ = some true) (hop : op = .eql ∨ op = .neq) (hx : AS.ev ⟨fr, H⟩ x = .agg (us.map lt)) (hy : AS.ev ⟨fr, H⟩ y = .agg (vs.map lt)) (h : eqMix P t us vs = true)
    (k : XRes P m Q (l, ⟨putL fr d (lt (.bool (eqRes op (eqL us vs)))), H, M⟩)) : XRes P m Q (⟨d, .binOp op t x y t2, ty, pos, after, g⟩ :: l, ⟨fr, H, M⟩) :=
  XRes_gives hw (fun G a w hr => ⟨G, _, w, .inl (eqM_run h hop (ra_lits (hx ▸ hr.ev x)) (ra_lits (hy ▸ hr.ev y)) w), Gh.le.refl _ _, Nat.le_refl _, hr.inv, .iv _ _ (.lit _)⟩) k
end
end Go.Proofs.YthfjnlapelkbnaaDoor
namespace Go.Proofs.YthfjnlapelkbnaaDoor
open Go.RowKit Go.Lib
set_option linter.unusedVariables false
set_option linter.unusedSimpArgs false
def tA1 : List Value := [.int .i64 1, .int .i64 0, .string ⟨#[112]⟩, .int .i64 1, .int .i64 2, .string ⟨#[49, 50]⟩]
def tA3 : List Value := [.int .i64 3, .int .i64 11, .string ⟨#[120]⟩]
def gA (j : Nat) : IV := match j with
  | 0 => .sl (fun j => .lit (tA1.getD j undef)) 2 3
  | 1 => .sl (fun j => .lit (([] : List Value).getD j undef)) 0 3
  | 2 => .sl (fun j => .lit (tA3.getD j undef)) 1 3
  | _ => .sl (fun j => .lit (([] : List Value).getD j undef)) 0 3
theorem iLn_A : iLn rsA = .sl gA 3 1 := by
  unfold iLn
  show IV.sl _ _ _ = _
  congr 1
  funext j
  match j with
  | 0 => rfl
  | 1 => rfl
  | 2 => rfl
  | j + 3 => rfl
theorem gA_0 : gA 0 = .sl (fun j => .lit (tA1.getD j undef)) 2 3 := rfl
theorem gA_1 : gA 1 = .sl (fun j => .lit (([] : List Value).getD j undef)) 0 3 := rfl
theorem gA_2 : gA 2 = .sl (fun j => .lit (tA3.getD j undef)) 1 3 := rfl
theorem toNat_2 : (2 : Int).toNat = 2 := rfl
set_option maxRecDepth 100000 in
set_option maxHeartbeats 4000000 in
theorem pf_awake05 : PF Tryd.prog 7 [] fun r H' => r = lt (.bool true) ∧ H' = [] := by
  refine SF.forgetAll ?_
  have hL : PF Tryd.prog 8 [lt (.string ⟨#[112, 32, 49, 50, 10, 99, 32, 110, 111, 10, 9, 120, 13]⟩)] fun r H' => r = .iv (.sl gA 3 1) ∧ H' = [] := by
    have := pf_Lines txA (by decide)
    rw [lns_A, iLn_A] at this; exact this
  have hN1 : PF Tryd.prog 16 [lt (.string ⟨#[45, 49, 50]⟩), lt (.int .i64 (-20)), lt (.int .i64 20)] fun r H' => r = .tup [lt (.int .i64 (-12)), lt (.int .i64 0)] ∧ H' = [] := by
    have := pf_Number [45, 49, 50] (-20) 20 (by decide)
    rw [num_A1] at this; exact this
  have hN2 : PF Tryd.prog 16 [lt (.string ⟨#[48, 48, 55]⟩), lt (.int .i64 0), lt (.int .i64 9)] fun r H' => r = .tup [lt (.int .i64 0), lt (.int .i64 5)] ∧ H' = [] := by
    have := pf_Number [48, 48, 55] 0 9 (by decide)
    rw [num_A2] at this; exact this
  have hN3 : PF Tryd.prog 16 [lt (.string ⟨#[57, 57, 57, 57, 57, 57, 57, 57, 57, 57, 57, 57, 57, 57, 57, 57, 57, 57, 57, 57, 57, 57, 57]⟩), lt (.int .i64 0), lt (.int .i64 9)] fun r H' => r = .tup [lt (.int .i64 0), lt (.int .i64 7)] ∧ H' = [] := by
    have := pf_Number [57, 57, 57, 57, 57, 57, 57, 57, 57, 57, 57, 57, 57, 57, 57, 57, 57, 57, 57, 57, 57, 57, 57] 0 9 (by decide)
    rw [num_A3] at this; exact this
  have hN4 : PF Tryd.prog 16 [lt (.string ⟨#[50, 49]⟩), lt (.int .i64 (-20)), lt (.int .i64 20)] fun r H' => r = .tup [lt (.int .i64 0), lt (.int .i64 7)] ∧ H' = [] := by
    have := pf_Number [50, 49] (-20) 20 (by decide)
    rw [num_A4] at this; exact this
  have hD : PF Tryd.prog 18 [lt (.int .i64 (-7))] fun r H' => r = lt (.string ⟨#[45, 55]⟩) ∧ H' = [] := by
    have := pf_Digits (-7) (by decide) (by decide)
    rw [dig_A] at this; exact this
  have hW1 : PF Tryd.prog 12 [lt (.string ⟨#[120]⟩)] fun r H' => r = lt (.bool true) ∧ H' = [] := by
    have := pf_WordA [120] (by decide) (by decide)
    rw [word_A1] at this; exact this
  have hW2 : PF Tryd.prog 12 [lt (.string ⟨#[120, 32, 121]⟩)] fun r H' => r = lt (.bool false) ∧ H' = [] := by
    have := pf_WordA [120, 32, 121] (by decide) (by decide)
    rw [word_A2] at this; exact this
  have hJ : PF Tryd.prog 14 [.iv (.sl gA 3 1)] fun r H' => r = lt (.string ⟨#[112, 32, 49, 50, 10, 10, 120, 10]⟩) ∧ H' = [] := by
    have := pf_Join1 rsA (by decide) (by decide) (by decide) (by decide)
    rw [join_A, iLn_A] at this; exact this
  have hs1 : (⟨#[45, 55]⟩ : ByteArray).toList = [45, 55] := ba_toList [45, 55]
  have hs2 : (⟨#[112, 32, 49, 50, 10, 10, 120, 10]⟩ : ByteArray).toList = [112, 32, 49, 50, 10, 10, 120, 10] := ba_toList [112, 32, 49, 50, 10, 10, 120, 10]
  have hs3 : (⟨#[120]⟩ : ByteArray).toList = [120] := ba_toList [120]
  have hs4 : (⟨#[49, 50]⟩ : ByteArray).toList = [49, 50] := ba_toList [49, 50]
  have hs5 : eqRes .eql (eqL [.int .i64 1, .int .i64 2, .string ⟨#[49, 50]⟩] [.int .i64 1, .int .i64 2, .string ⟨#[49, 50]⟩]) = true := by simp [eqRes, eqL, eqV]
  have hs6 : eqRes .eql (eqL [.int .i64 3, .int .i64 11, .string ⟨#[120]⟩] [.int .i64 3, .int .i64 11, .string ⟨#[120]⟩]) = true := by simp [eqRes, eqL, eqV]
  have hs7 := trivial; have hs8 := trivial
  (refine SF_of_bodyX (aload tt) (aload_ok tyOK) Tryd.func7 rfl (by kernel_rfl) ?_; simp only [Tryd.ntmps7, List.length_cons, List.length_nil, Nat.reduceAdd, Nat.reduceSub, List.replicate_succ, List.replicate_zero, List.cons_append, List.nil_append])
  (repeat (first | (first | (with_reducible first | refine AX_block ?_ | refine AX_skip ?_ | refine AX_exit ?_ | refine AX_ret ?_ | refine AX_ift ?_ | refine AX_iff ?_ | refine AX_seq_k (fun K hK => ?_) | refine ContX.use (by assumption) ?_) | simp only [thenX, inBlockX, if_true, if_false, reduceCtorEq]) | (first | ((with_reducible refine XOP tyOK ?_); simp (disch := omega) only [go_sem , beq_self_eq_true, eq_self, decide_true, gA_0, gA_1, gA_2, Int.toNat_zero, Int.toNat_one, toNat_2, Nat.reduceMul, Nat.reduceAdd, tA1, tA3, List.getD_cons_succ, List.getD_cons_zero, hs1, hs2, hs3, hs4, hs5, hs6, hs7, hs8]; (with_reducible refine XRes_id ?_)) | (with_reducible refine XSK ?_)) | ((with_reducible refine XRes_nil ?_); refine hK _ ?_; clear hK K) | ((with_reducible refine AX_reg0 fun K hK => ?_); simp only [go_sem]) | (first | (first | refine XTL (by rfl) hL ?_ | refine XTL (by rfl) hN1 ?_ | refine XTL (by rfl) hN2 ?_ | refine XTL (by rfl) hN3 ?_ | refine XTL (by rfl) hN4 ?_ | refine XTL (by rfl) hD ?_ | refine XTL (by rfl) hW1 ?_ | refine XTL (by rfl) hW2 ?_ | refine XTL (by rfl) hJ ?_) | ((refine XRes_eqM [_, _, _] [_, _, _] rfl (.inl rfl) rfl rfl (by kernel_rfl) ?_); (simp only [putL, List.set_cons_succ, List.set_cons_zero]); (try rw [hs5]); (try rw [hs6])))))
  (simp only [bodyX]; refine ⟨_, by simp only [aresults, aresult, XS.as, Tryd.results7, aload, go_sem, Option.bind_some]; rfl, ?_⟩)
  exact ⟨ids_idB rfl, rfl, trivial⟩
end Go.Proofs.YthfjnlapelkbnaaDoor
