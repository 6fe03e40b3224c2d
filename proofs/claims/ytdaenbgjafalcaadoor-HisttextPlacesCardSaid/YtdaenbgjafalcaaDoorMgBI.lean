import Derived.Test.YtdaenbgjafalcaaDoorMgBH
import Derived.Test.YtdaenbgjafalcaaDoorMgAT
import Derived.Test.YtdaenbgjafalcaaDoorMgAY
import Derived.Test.YtdaenbgjafalcaaDoorMgBE
namespace Go.Proofs.YtdaenbgjafalcaaDoor
open Go.RowKit Go.Lib
set_option linter.unusedVariables false
set_option linter.unusedSimpArgs false
def taken (q : Ob × List (List Tok3) × Int × Int) : Int := if q.2.2.2 = 0 then (q.1.R.length : Int) + 1 else 0
end Go.Proofs.YtdaenbgjafalcaaDoor
namespace Go.Proofs.YtdaenbgjafalcaaDoor
open Go.RowKit Go.Lib
set_option linter.unusedVariables false
set_option linter.unusedSimpArgs false
theorem rowsGo_said {z : Int} : ∀ (m : Nat) (L : List (List Tok3)) (R : List Rw) (P : List Int), (rowsGo z m L R P).2.2.2.2 = 0 → said (rowsGo z m L R P).2.2.1 = (said L).drop m ∧ (rowsGo z m L R P).1.length = R.length + m
  | 0, L, R, P, _ => ⟨by simp [rowsGo], by simp [rowsGo]⟩
  | m + 1, L, R, P, h => by
    by_cases he : (nums (nxt L).1 wRow lo4 hi4 z).2.2 = 0
    · rw [rowsGo_ok he] at h ⊢
      obtain ⟨h1, h2⟩ := rowsGo_said m _ _ _ h
      rw [h1, h2, (nxt_said L).2, List.drop_drop]
      exact ⟨by congr 1; omega, by simp; omega⟩
    · rw [rowsGo_bad he] at h; exact absurd h he
theorem chain_mem {n : Nat} : ∀ {T : List Tok3} {e : Nat}, ChainT n e T → ∀ t ∈ T, 0 ≤ t.2.1 ∧ t.2.1 ≤ n ∧ t.2.2.length ≤ n
  | [], e, _, t, h => by cases h
  | x :: T, e, ⟨p, h1, h2, h3, h4, h5⟩, t, ht => by
    rcases List.mem_cons.1 ht with rfl | ht
    · rw [h1]; omega
    · exact chain_mem h5 t ht
theorem lnsT_okG {l : List UInt8} (hl : l.length ≤ 1000000) (hn : (lns 1 0 l).length ≤ 100000) : LsOK (lnsT l) := by
  have hs := lns_sum l.length 1 0 l (Nat.le_refl _)
  have hc := chain_rows _ _ _ (lns_rows l)
  refine ⟨by unfold lnsT; rw [List.length_map]; omega, fun T hT => ?_⟩
  unfold lnsT at hT
  obtain ⟨r, hr, rfl⟩ := List.mem_map.1 hT
  have hrl := hs.2.2 r hr
  have hm : ∀ t ∈ rowT r, t ∈ allT (lns 1 0 l) := fun t ht => by unfold allT; exact List.mem_flatMap.2 ⟨r, hr, ht⟩
  have hg : ∀ j, (rowT r).getD j tok0 = tok0 ∨ (rowT r).getD j tok0 ∈ rowT r := fun j => by
    by_cases hj : j < (rowT r).length
    · exact .inr (by rw [List.getD_eq_getElem?_getD, List.getElem?_eq_getElem hj]; exact List.getElem_mem hj)
    · exact .inl (by rw [List.getD_eq_getElem?_getD, List.getElem?_eq_none (by omega)]; rfl)
  refine ⟨by have : (rowT r).length = r.2.2.length := rowT_length r.1 r.2.1 r.2.2; omega, fun j => ?_, fun j => ?_⟩
  · rcases hg j with h | h
    · rw [h]; simp [tok0]
    · have := chain_mem hc _ (hm _ h); omega
  · rcases hg j with h | h
    · rw [h]; simp [tok0]
    · have := chain_mem hc _ (hm _ h); omega
theorem lnsT_ok {l : List UInt8} (hl : l.length ≤ 100000) : LsOK (lnsT l) :=
  lnsT_okG (by omega) (by have hs := lns_sum l.length 1 0 l (Nat.le_refl _); omega)
def opr (l : List UInt8) : Ob × Int × Int := oprs (lnsT l) l.length
theorem takeP_ls {L : List (List Tok3)} {z : Int} (hL : LsOK L) : LsOK (takeP L z).2.1 := by
  have hrows : ∀ (m : Nat) (L : List (List Tok3)) (R : List Rw) (P : List Int), LsOK L → LsOK (rowsGo z m L R P).2.2.1 := by
    intro m
    induction m with
    | zero => intro L R P h; exact h
    | succ m ih =>
      intro L R P h
      by_cases he : (nums (nxt L).1 wRow lo4 hi4 z).2.2 = 0
      · rw [rowsGo_ok he]; exact ih _ _ _ (nxt_ok h).2
      · rw [rowsGo_bad he]; exact LsOK.nil
  by_cases he : (tq L z).2.2 = 0
  · by_cases hg : (tg L z).2.2.2.2 = 0
    · rw [takeP_o he hg]
      split
      · exact LsOK.nil
      · split
        · exact LsOK.nil
        · exact hrows _ _ _ _ (nxt_ok hL).2
    · rw [takeP_g he hg]; exact LsOK.nil
  · rw [takeP_q he]; exact LsOK.nil
end Go.Proofs.YtdaenbgjafalcaaDoor
namespace Go.Proofs.YtdaenbgjafalcaaDoor
open Go.RowKit Go.Lib
set_option linter.unusedVariables false
set_option linter.unusedSimpArgs false
theorem XRes_cellNewO {P : Program} {m : Nat} {Q : Exit → XS → Prop} {l : List Oper} {fr : List AV} {H : AHeap} {M : MS} (o t sz j : Nat) (x : AObj) (ho : H[o]? = some (some x)) (hj : x.cells[j]? = some (lt (.slice none 0 0))) (h : XRes P m Q (l, ⟨fr, H.set o (some ⟨x.t, x.cells.set j (.osl H.length 0 0 sz)⟩) ++ [some ⟨t, []⟩], M⟩)) : XRes P m Q (l, ⟨fr, H, M⟩) := by
  have hol := (List.getElem?_eq_some_iff.1 ho).1
  refine XRes_lead (S := fun s1 => s1 = ⟨fr, H ++ [some ⟨t, []⟩], M⟩) (.of (.more t rfl)) fun s' e _ => ?_
  subst e
  refine XRes_lead (S := fun s1 => s1 = ⟨fr, H.set o (some ⟨x.t, x.cells.set j (.osl H.length 0 0 sz)⟩) ++ [some ⟨t, []⟩], M⟩) (.of (.cellNilAt o H.length sz j x ⟨t, []⟩ (by rw [List.getElem?_append_left hol]; exact ho) hj (by simp) ?_)) fun s' e _ => by rw [e]; exact h
  show (⟨_, _, _⟩ : XS) = _
  rw [List.set_append_left _ _ hol]
def numB (n : Int) : List UInt8 := 32 :: itoa n
def lineB (w : List UInt8) (ns : List Int) : List UInt8 := w ++ ns.flatMap numB ++ [10]
def rowB4 (r : Rw) : List UInt8 := lineB wRow [r.s, r.k, r.n, r.r]
def headB4 (o : Ob) : List UInt8 := lineB wObj [o.S, o.K, o.I, o.R.length]
def obB (o : Ob) : List UInt8 := headB4 o ++ o.R.flatMap rowB4
theorem numB_len {n : Int} (h : Fit n) : (numB n).length ≤ 22 := by
  have := itoa_length_le n h.1 h.2
  unfold numB; rw [List.length_cons]; omega
theorem lineB_len {w : List UInt8} {ns : List Int} (hw : w.length ≤ 100) (h : ∀ x ∈ ns, Fit x) (hn : ns.length ≤ 4) : (lineB w ns).length ≤ 200 := by
  have := flat_mul numB 22 fun x hx => numB_len (h x hx)
  unfold lineB; rw [List.length_append, List.length_append]
  have : ([10] : List UInt8).length = 1 := rfl
  have : ns.length * 22 ≤ 4 * 22 := Nat.mul_le_mul_right _ hn
  omega
attribute [go_sem] rnL_u8C idL_u8C
theorem Wd8c7a {A B : Prop} (h9 : B) (w : B → A := by (intro h9; (repeat intro K hK); refine ⟨?_⟩; (repeat (first | (first | (with_reducible first | refine AX_block ?_ | refine AX_skip ?_ | refine AX_exit ?_ | refine AX_ret ?_ | refine AX_ift ?_ | refine AX_iff ?_ | refine AX_seq_k (fun K hK => ?_) | refine ContX.use (by assumption) ?_) | simp only [thenX, inBlockX, if_true, if_false, reduceCtorEq]) | (first | ((first | (with_reducible refine XRes_op tyOK ?_ ?_) | ((with_reducible first | refine ADF_op tyOK ?_ ?_ ?_ | refine ADX_op tyOK ?_ ?_ ?_); (focus rfl)) | (with_reducible refine ADR_alloc1 tyOK ?_ ?_) | ((with_reducible refine ADR_free1 tyOK ?_ ?_ ?_); (focus rfl)) | ((with_reducible refine ADR_free0 tyOK ?_ ?_ ?_); (focus rfl)) | ((with_reducible refine ADR_read1 tyOK ?_ ?_ ?_); (focus rfl)) | (with_reducible refine ADR_chg1 tyOK ?_ ?_)); (focus (first | (with_reducible rfl) | ((simp (disch := omega) only [go_sem]); done))); simp (disch := omega) only [go_sem , hs1, hs2, hs3, hs4, hs5, hs6, hs7, hs8, hs9, Int.toNat_zero, Int.toNat_one, Int.toNat_natCast, ba_size, ba_app, List.length_append, List.length_nil, List.length_cons, Nat.reduceAdd, u8C_len, List.length_set]; (first | (with_reducible refine XRes_id ?_) | (with_reducible refine ADF_id ?_) | (with_reducible refine ADR_id1 ?_) | (with_reducible refine ADX_id ?_))) | ((first | (with_reducible refine XRes_skip ?_ ?_) | (with_reducible refine ADF_skip (b := true) ?_ ?_) | (with_reducible refine ADX_skip ?_ ?_) | ((with_reducible refine ADR_skip1 ?_ ?_ ?_); (focus rfl))); (focus (first | rfl | ((simp (disch := omega) only [go_sem]); done))); (simp only [putL, List.set_cons_succ, List.set_cons_zero]))) | ((first | (with_reducible refine XRes_nil ?_) | (with_reducible refine ADF_nil ?_) | (with_reducible refine ADR_nil ?_) | (with_reducible refine ADX_nil ?_)); (first | refine hK _ ?_ | refine hK _ _ ?_); clear hK K) | ((first | (with_reducible refine AX_reg0 fun K hK => ?_) | (refine AX_drawG1 tyOK (by kernel_rfl) (by rfl) (by kernel_rfl) fun K hK => ?_) | (refine AX_drawT tyOK (by kernel_rfl) (by decide +kernel) fun K hK => ?_) | (refine AX_drawM1 (by kernel_rfl) (by rfl) (by decide +kernel) fun K hK => ?_) | (refine AX_drawA tyOK (by kernel_rfl) (by decide +kernel) fun K hK => ?_)); (first | simp only [go_sem, preN, effOp, runF, alM, mapOp, alD2, kdOf2, Bool.not_false, Bool.not_true, reduceCtorEq] | simp only [go_sem, preN, effOp, runF, alM, mapOp, Bool.not_false, Bool.not_true, reduceCtorEq] | simp only [go_sem, preN, effOp, runF, alD2, kdOf2, Bool.not_false, Bool.not_true, reduceCtorEq] | simp only [go_sem, alD2, kdOf2, Bool.not_false, Bool.not_true, reduceCtorEq] | simp only [go_sem, preN, effOp, runF, Bool.not_false, Bool.not_true, reduceCtorEq] | simp only [go_sem])) | (first | (first | refine XTL (by rfl) hD ?_ | refine ATL tyOK (by rfl) hD ?_ | refine XTL (by rfl) hL ?_ | refine ATL tyOK (by rfl) hL ?_ | refine XTL (by rfl) hk ?_ | refine ATL tyOK (by rfl) hk ?_ | refine XTL (by rfl) hW ?_ | refine ATL tyOK (by rfl) hW ?_)))); refine Wk.o ?_; (repeat revert hK K); exact h9)) : A := w h9
theorem Wd8c7b {A B : Prop} (h9 : B) (w : B → A := by (intro h9; (repeat intro K hK); refine ⟨?_⟩; (repeat (first | (first | (with_reducible first | refine AX_block ?_ | refine AX_skip ?_ | refine AX_exit ?_ | refine AX_ret ?_ | refine AX_ift ?_ | refine AX_iff ?_ | refine AX_seq_k (fun K hK => ?_) | refine ContX.use (by assumption) ?_) | simp only [thenX, inBlockX, if_true, if_false, reduceCtorEq]) | (first | ((first | (with_reducible refine XRes_op tyOK ?_ ?_) | ((with_reducible first | refine ADF_op tyOK ?_ ?_ ?_ | refine ADX_op tyOK ?_ ?_ ?_); (focus rfl)) | (with_reducible refine ADR_alloc1 tyOK ?_ ?_) | ((with_reducible refine ADR_free1 tyOK ?_ ?_ ?_); (focus rfl)) | ((with_reducible refine ADR_free0 tyOK ?_ ?_ ?_); (focus rfl)) | ((with_reducible refine ADR_read1 tyOK ?_ ?_ ?_); (focus rfl)) | (with_reducible refine ADR_chg1 tyOK ?_ ?_)); (focus (first | (with_reducible rfl) | ((simp (disch := omega) only [go_sem]); done))); simp (disch := omega) only [go_sem , hs1, hs2, hs3, hs4, hs5, hs6, hs7, hs8, hs9, Int.toNat_zero, Int.toNat_one, Int.toNat_natCast, ba_size, ba_app, List.length_append, List.length_nil, List.length_cons, Nat.reduceAdd, u8C_len, List.length_set]; (first | (with_reducible refine XRes_id ?_) | (with_reducible refine ADF_id ?_) | (with_reducible refine ADR_id1 ?_) | (with_reducible refine ADX_id ?_))) | ((first | (with_reducible refine XRes_skip ?_ ?_) | (with_reducible refine ADF_skip (b := true) ?_ ?_) | (with_reducible refine ADX_skip ?_ ?_) | ((with_reducible refine ADR_skip1 ?_ ?_ ?_); (focus rfl))); (focus (first | rfl | ((simp (disch := omega) only [go_sem]); done))); (simp only [putL, List.set_cons_succ, List.set_cons_zero]))) | ((first | (with_reducible refine XRes_nil ?_) | (with_reducible refine ADF_nil ?_) | (with_reducible refine ADR_nil ?_) | (with_reducible refine ADX_nil ?_)); (first | refine hK _ ?_ | refine hK _ _ ?_); clear hK K) | (first | (first | refine XTL (by rfl) hD ?_ | refine ATL tyOK (by rfl) hD ?_ | refine XTL (by rfl) hL ?_ | refine ATL tyOK (by rfl) hL ?_ | refine XTL (by rfl) hk ?_ | refine ATL tyOK (by rfl) hk ?_ | refine XTL (by rfl) hW ?_ | refine ATL tyOK (by rfl) hW ?_)) | ((with_reducible refine AX_reg0 fun K hK => ?_); simp only [go_sem]) | ((refine AX_drawG1 tyOK (by kernel_rfl) (by rfl) (by kernel_rfl) fun K hK => ?_); (first | simp only [go_sem, preN, effOp, runF, alM, mapOp, alD2, kdOf2, Bool.not_false, Bool.not_true, reduceCtorEq] | simp only [go_sem, preN, effOp, runF, alM, mapOp, Bool.not_false, Bool.not_true, reduceCtorEq] | simp only [go_sem, preN, effOp, runF, alD2, kdOf2, Bool.not_false, Bool.not_true, reduceCtorEq] | simp only [go_sem, alD2, kdOf2, Bool.not_false, Bool.not_true, reduceCtorEq] | simp only [go_sem, preN, effOp, runF, Bool.not_false, Bool.not_true, reduceCtorEq] | simp only [go_sem])))); refine Wk.o ?_; (repeat revert hK K); exact h9)) : A := w h9
set_option maxRecDepth 100000 in
set_option maxHeartbeats 4000000 in
theorem pf_oline (w : List UInt8) (ns : List Int) (hw : w.length ≤ 100) (hns : ns.length ≤ 4) (hF : ∀ x ∈ ns, Fit x) : PF Tryd.prog 67 [lt (.string (ba w)), .iv (iInts ns)] fun r H' => r = lt (.string (ba (lineB w ns))) ∧ H' = [] := by
  refine SF.forgetAll ?_
  have hs1 := trivial; have hs2 := trivial; have hs3 := trivial; have hs4 := trivial; have hs5 := trivial; have hs6 := trivial; have hs7 := trivial; have hs8 := trivial; have hs9 := trivial; have hD := trivial; have hL := trivial; have hk := trivial; have hW := trivial
  have hs5 : (⟨#[32]⟩ : ByteArray) = ba [32] := rfl
  have hs6 : (⟨#[10]⟩ : ByteArray) = ba [10] := rfl
  have htot := lineB_len hw hF hns
  unfold lineB at htot
  rw [List.length_append, List.length_append] at htot
  have h1 : ([10] : List UInt8).length = 1 := rfl
  (refine SF_of_bodyX (aload tt) (aload_ok tyOK) Tryd.func67 rfl (by kernel_rfl) ?_; simp only [Tryd.ntmps67, List.length_cons, List.length_nil, Nat.reduceAdd, Nat.reduceSub, List.replicate_succ, List.replicate_zero, List.cons_append, List.nil_append])
  unfold iInts
  (refine Wk.o ?_; (repeat revert hK K); refine Wd8c7a ?_; (repeat intro K hK); refine ⟨?_⟩)
  (refine AWH (σ := Nat × List UInt8) [10, 11, 12, 6, 13, 14, 15, 16, 17, 18] (fun (k, x) => [(9, lint k), (0, lt (.string (ba x)))]) (fun (k, x) => []) (fun (k, x) => []) (fun (k, x) => k ≤ ns.length ∧ x = w ++ (ns.take k).flatMap numB) (fun (k, x) => ns.length - k) (0, w) (by first | exact ⟨Nat.zero_le _, by simp⟩) ?_; rintro ⟨k, x⟩ d fr hfr ⟨hk2, hx0⟩; simp only [updS, deadS, List.set_cons_succ, List.set_cons_zero, lint] at hfr; subst hfr; (try dsimp only))
  by_cases hlt : k < ns.length
  · have hst := flat_step numB 0 hlt
    have hle := flat_lt numB 0 hlt
    have hx : Fit (ns.getD k 0) := hF _ (by rw [List.getD_eq_getElem?_getD, List.getElem?_eq_getElem hlt]; exact List.getElem_mem hlt)
    have hxl : x.length ≤ w.length + (ns.flatMap numB).length := by rw [hx0, List.length_append]; have := flat_le numB ns k; omega
    have hnew : x ++ ([32] ++ itoa (ns.getD k 0)) = w ++ (ns.take (k + 1)).flatMap numB := by rw [hst, hx0, List.append_assoc]; rfl
    have hD := pf_Digits (ns.getD k 0) hx.1 hx.2
    have hil := itoa_length_le (ns.getD k 0) hx.1 hx.2
    (refine Wk.o ?_; (repeat revert hK K); refine Wd8c7b ?_; (repeat intro K hK); refine ⟨?_⟩)
    exact whx_end (k + 1, x ++ ([32] ++ itoa (ns.getD k 0))) ⟨by dsimp only; omega, hnew⟩ (by dsimp only; omega) rfl rfl (fun d => by first | ((simp (disch := omega) only [go_sem, lint , hs1, hs2, hs3, hs4, hs5, hs6, hs7, hs8, hs9, Int.toNat_zero, Int.toNat_one, Int.toNat_natCast, ba_size, ba_app, List.length_append, List.length_nil, List.length_cons, Nat.reduceAdd, u8C_len, List.length_set]); done) | ((simp (disch := omega) only [go_sem, lint , hs1, hs2, hs3, hs4, hs5, hs6, hs7, hs8, hs9, Int.toNat_zero, Int.toNat_one, Int.toNat_natCast, ba_size, ba_app, List.length_append, List.length_nil, List.length_cons, Nat.reduceAdd, u8C_len, List.length_set]); rfl))
  · obtain rfl : k = ns.length := by omega
    rw [List.take_length] at hx0
    have hxl : x.length ≤ 200 := by rw [hx0, List.length_append]; omega
    (refine Wk.o ?_; (repeat revert hK K); refine Wd8c7b ?_; (repeat intro K hK); refine ⟨?_⟩)
    (simp only [bodyX]; refine ⟨_, by simp only [aresults, aresult, XS.as, Tryd.results67, aload, go_sem, Option.bind_some]; rfl, ?_⟩)
    exact ⟨ids_idB rfl, by unfold lineB; rw [hx0], trivial⟩
set_option maxRecDepth 100000 in
set_option maxHeartbeats 4000000 in
theorem pf_rWords (w : List UInt8) (ns : List Int) (hw : w.length ≤ 100) (hns : ns.length ≤ 4) (hF : ∀ x ∈ ns, Fit x) : PF Tryd.prog 31 [lt (.string (ba w)), .iv (iInts ns)] fun r H' => r = lt (.string (ba (lineB w ns))) ∧ H' = [] := by
  refine SF.forgetAll ?_
  have hs1 := trivial; have hs2 := trivial; have hs3 := trivial; have hs4 := trivial; have hs5 := trivial; have hs6 := trivial; have hs7 := trivial; have hs8 := trivial; have hs9 := trivial; have hD := trivial; have hL := trivial; have hk := trivial; have hW := trivial
  have hs5 : (⟨#[32]⟩ : ByteArray) = ba [32] := rfl
  have hs6 : (⟨#[10]⟩ : ByteArray) = ba [10] := rfl
  have htot := lineB_len hw hF hns
  unfold lineB at htot
  rw [List.length_append, List.length_append] at htot
  have h1 : ([10] : List UInt8).length = 1 := rfl
  (refine SF_of_bodyX (aload tt) (aload_ok tyOK) Tryd.func31 rfl (by kernel_rfl) ?_; simp only [Tryd.ntmps31, List.length_cons, List.length_nil, Nat.reduceAdd, Nat.reduceSub, List.replicate_succ, List.replicate_zero, List.cons_append, List.nil_append])
  unfold iInts
  (refine Wk.o ?_; (repeat revert hK K); refine Wd8c7a ?_; (repeat intro K hK); refine ⟨?_⟩)
  (refine AWH (σ := Nat × List UInt8) [6, 7, 8, 9, 12, 13, 14, 15, 16, 17, 18, 19, 10, 11] (fun (k, x) => [(5, lint k), (0, lt (.string (ba x)))]) (fun (k, x) => []) (fun (k, x) => []) (fun (k, x) => k ≤ ns.length ∧ x = w ++ (ns.take k).flatMap numB) (fun (k, x) => ns.length - k) (0, w) (by first | exact ⟨Nat.zero_le _, by simp⟩) ?_; rintro ⟨k, x⟩ d fr hfr ⟨hk2, hx0⟩; simp only [updS, deadS, List.set_cons_succ, List.set_cons_zero, lint] at hfr; subst hfr; (try dsimp only))
  by_cases hlt : k < ns.length
  · have hst := flat_step numB 0 hlt
    have hle := flat_lt numB 0 hlt
    have hx : Fit (ns.getD k 0) := hF _ (by rw [List.getD_eq_getElem?_getD, List.getElem?_eq_getElem hlt]; exact List.getElem_mem hlt)
    have hxl : x.length ≤ w.length + (ns.flatMap numB).length := by rw [hx0, List.length_append]; have := flat_le numB ns k; omega
    have hnew : x ++ [32] ++ itoa (ns.getD k 0) = w ++ (ns.take (k + 1)).flatMap numB := by rw [hst, hx0, List.append_assoc, List.append_assoc]; rfl
    have hD := pf_rDigits (ns.getD k 0) hx.1 hx.2
    have hil := itoa_length_le (ns.getD k 0) hx.1 hx.2
    (refine Wk.o ?_; (repeat revert hK K); refine Wd8c7b ?_; (repeat intro K hK); refine ⟨?_⟩)
    exact whx_end (k + 1, x ++ [32] ++ itoa (ns.getD k 0)) ⟨by dsimp only; omega, hnew⟩ (by dsimp only; omega) rfl rfl (fun d => by first | ((simp (disch := omega) only [go_sem, lint , hs1, hs2, hs3, hs4, hs5, hs6, hs7, hs8, hs9, Int.toNat_zero, Int.toNat_one, Int.toNat_natCast, ba_size, ba_app, List.length_append, List.length_nil, List.length_cons, Nat.reduceAdd, u8C_len, List.length_set]); done) | ((simp (disch := omega) only [go_sem, lint , hs1, hs2, hs3, hs4, hs5, hs6, hs7, hs8, hs9, Int.toNat_zero, Int.toNat_one, Int.toNat_natCast, ba_size, ba_app, List.length_append, List.length_nil, List.length_cons, Nat.reduceAdd, u8C_len, List.length_set]); rfl))
  · obtain rfl : k = ns.length := by omega
    rw [List.take_length] at hx0
    have hxl : x.length ≤ 200 := by rw [hx0, List.length_append]; omega
    (refine Wk.o ?_; (repeat revert hK K); refine Wd8c7b ?_; (repeat intro K hK); refine ⟨?_⟩)
    (simp only [bodyX]; refine ⟨_, by simp only [aresults, aresult, XS.as, Tryd.results31, aload, go_sem, Option.bind_some]; rfl, ?_⟩)
    exact ⟨ids_idB rfl, by unfold lineB; rw [hx0], trivial⟩
theorem fit4 {a b c d : Int} (h1 : Fit a) (h2 : Fit b) (h3 : Fit c) (h4 : Fit d) : ∀ x ∈ [a, b, c, d], Fit x := fun x hx => by
  simp only [List.mem_cons, List.not_mem_nil, or_false] at hx
  rcases hx with rfl | rfl | rfl | rfl <;> assumption
set_option maxRecDepth 100000 in
set_option maxHeartbeats 4000000 in
theorem pf_ohead (S Kn I : Int) (R : List Rw) (hS : Fit S) (hK : Fit Kn) (hI : Fit I) (hR : R.length ≤ 1000000) : PF Tryd.prog 50 [obA ⟨S, Kn, I, R⟩] fun r H' => r = lt (.string (ba (lineB wObj [S, Kn, I, R.length]))) ∧ H' = [] := by
  refine SF.forgetAll ?_
  have hs1 := trivial; have hs2 := trivial; have hs3 := trivial; have hs4 := trivial; have hs5 := trivial; have hs6 := trivial; have hs7 := trivial; have hs8 := trivial; have hs9 := trivial; have hD := trivial; have hL := trivial; have hk := trivial; have hW := trivial
  have hL := pf_oline wObj [S, Kn, I, R.length] (by decide) (Nat.le_refl 4) (fit4 hS hK hI ⟨by omega, by omega⟩)
  (refine SF_of_bodyX (aload tt) (aload_ok tyOK) Tryd.func50 rfl (by kernel_rfl) ?_; simp only [Tryd.ntmps50, List.length_cons, List.length_nil, Nat.reduceAdd, Nat.reduceSub, List.replicate_succ, List.replicate_zero, List.cons_append, List.nil_append])
  repeat (first | (first | (with_reducible first | refine AX_block ?_ | refine AX_skip ?_ | refine AX_exit ?_ | refine AX_ret ?_ | refine AX_ift ?_ | refine AX_iff ?_ | refine AX_seq_k (fun K hK => ?_) | refine ContX.use (by assumption) ?_) | simp only [thenX, inBlockX, if_true, if_false, reduceCtorEq]) | ((first | (refine XRes_litF tyOK (by rfl) rfl (by decide) rfl rfl ?_) | (refine ADF_litF tyOK (by rfl) rfl (by decide) rfl rfl ?_)); (simp only [List.map_cons, List.map_nil, intOf, putL, List.set_cons_succ, List.set_cons_zero])) | (first | ((first | (with_reducible refine XRes_op tyOK ?_ ?_) | ((with_reducible first | refine ADF_op tyOK ?_ ?_ ?_ | refine ADX_op tyOK ?_ ?_ ?_); (focus rfl)) | (with_reducible refine ADR_alloc1 tyOK ?_ ?_) | ((with_reducible refine ADR_free1 tyOK ?_ ?_ ?_); (focus rfl)) | ((with_reducible refine ADR_free0 tyOK ?_ ?_ ?_); (focus rfl)) | ((with_reducible refine ADR_read1 tyOK ?_ ?_ ?_); (focus rfl)) | (with_reducible refine ADR_chg1 tyOK ?_ ?_)); (focus (first | (with_reducible rfl) | ((simp (disch := omega) only [go_sem]); done))); simp (disch := omega) only [go_sem , hs1, hs2, hs3, hs4, hs5, hs6, hs7, hs8, hs9, Int.toNat_zero, Int.toNat_one, Int.toNat_natCast, ba_size, ba_app, List.length_append, List.length_nil, List.length_cons, Nat.reduceAdd, u8C_len, List.length_set]; (first | (with_reducible refine XRes_id ?_) | (with_reducible refine ADF_id ?_) | (with_reducible refine ADR_id1 ?_) | (with_reducible refine ADX_id ?_))) | ((first | (with_reducible refine XRes_skip ?_ ?_) | (with_reducible refine ADF_skip (b := true) ?_ ?_) | (with_reducible refine ADX_skip ?_ ?_) | ((with_reducible refine ADR_skip1 ?_ ?_ ?_); (focus rfl))); (focus (first | rfl | ((simp (disch := omega) only [go_sem]); done))); (simp only [putL, List.set_cons_succ, List.set_cons_zero]))) | ((first | (with_reducible refine XRes_nil ?_) | (with_reducible refine ADF_nil ?_) | (with_reducible refine ADR_nil ?_) | (with_reducible refine ADX_nil ?_)); (first | refine hK _ ?_ | refine hK _ _ ?_); clear hK K) | ((first | (with_reducible refine AX_reg0 fun K hK => ?_) | (refine AX_drawG1 tyOK (by kernel_rfl) (by rfl) (by kernel_rfl) fun K hK => ?_) | (refine AX_drawT tyOK (by kernel_rfl) (by decide +kernel) fun K hK => ?_) | (refine AX_drawM1 (by kernel_rfl) (by rfl) (by decide +kernel) fun K hK => ?_) | (refine AX_drawA tyOK (by kernel_rfl) (by decide +kernel) fun K hK => ?_)); (first | simp only [go_sem, preN, effOp, runF, alM, mapOp, alD2, kdOf2, Bool.not_false, Bool.not_true, reduceCtorEq] | simp only [go_sem, preN, effOp, runF, alM, mapOp, Bool.not_false, Bool.not_true, reduceCtorEq] | simp only [go_sem, preN, effOp, runF, alD2, kdOf2, Bool.not_false, Bool.not_true, reduceCtorEq] | simp only [go_sem, alD2, kdOf2, Bool.not_false, Bool.not_true, reduceCtorEq] | simp only [go_sem, preN, effOp, runF, Bool.not_false, Bool.not_true, reduceCtorEq] | simp only [go_sem])) | (first | (first | refine XTL (by rfl) hD ?_ | refine ATL tyOK (by rfl) hD ?_ | refine XTL (by rfl) hL ?_ | refine ATL tyOK (by rfl) hL ?_ | refine XTL (by rfl) hk ?_ | refine ATL tyOK (by rfl) hk ?_ | refine XTL (by rfl) hW ?_ | refine ATL tyOK (by rfl) hW ?_)))
  (simp only [bodyX]; refine ⟨_, by simp only [aresults, aresult, XS.as, Tryd.results50, aload, go_sem, Option.bind_some]; rfl, ?_⟩)
  exact ⟨ids_idB rfl, rfl, trivial⟩
set_option maxRecDepth 100000 in
set_option maxHeartbeats 4000000 in
theorem pf_orow (a b c d : Int) (h1 : Fit a) (h2 : Fit b) (h3 : Fit c) (h4 : Fit d) : PF Tryd.prog 51 [.agg [lt (.int .i64 a), lt (.int .i64 b), lt (.int .i64 c), lt (.int .i64 d)]] fun r H' => r = lt (.string (ba (lineB wRow [a, b, c, d]))) ∧ H' = [] := by
  refine SF.forgetAll ?_
  have hs1 := trivial; have hs2 := trivial; have hs3 := trivial; have hs4 := trivial; have hs5 := trivial; have hs6 := trivial; have hs7 := trivial; have hs8 := trivial; have hs9 := trivial; have hD := trivial; have hL := trivial; have hk := trivial; have hW := trivial
  have hL := pf_oline wRow [a, b, c, d] (by decide) (Nat.le_refl 4) (fit4 h1 h2 h3 h4)
  (refine SF_of_bodyX (aload tt) (aload_ok tyOK) Tryd.func51 rfl (by kernel_rfl) ?_; simp only [Tryd.ntmps51, List.length_cons, List.length_nil, Nat.reduceAdd, Nat.reduceSub, List.replicate_succ, List.replicate_zero, List.cons_append, List.nil_append])
  repeat (first | (first | (with_reducible first | refine AX_block ?_ | refine AX_skip ?_ | refine AX_exit ?_ | refine AX_ret ?_ | refine AX_ift ?_ | refine AX_iff ?_ | refine AX_seq_k (fun K hK => ?_) | refine ContX.use (by assumption) ?_) | simp only [thenX, inBlockX, if_true, if_false, reduceCtorEq]) | ((first | (refine XRes_litF tyOK (by rfl) rfl (by decide) rfl rfl ?_) | (refine ADF_litF tyOK (by rfl) rfl (by decide) rfl rfl ?_)); (simp only [List.map_cons, List.map_nil, intOf, putL, List.set_cons_succ, List.set_cons_zero])) | (first | ((first | (with_reducible refine XRes_op tyOK ?_ ?_) | ((with_reducible first | refine ADF_op tyOK ?_ ?_ ?_ | refine ADX_op tyOK ?_ ?_ ?_); (focus rfl)) | (with_reducible refine ADR_alloc1 tyOK ?_ ?_) | ((with_reducible refine ADR_free1 tyOK ?_ ?_ ?_); (focus rfl)) | ((with_reducible refine ADR_free0 tyOK ?_ ?_ ?_); (focus rfl)) | ((with_reducible refine ADR_read1 tyOK ?_ ?_ ?_); (focus rfl)) | (with_reducible refine ADR_chg1 tyOK ?_ ?_)); (focus (first | (with_reducible rfl) | ((simp (disch := omega) only [go_sem]); done))); simp (disch := omega) only [go_sem , hs1, hs2, hs3, hs4, hs5, hs6, hs7, hs8, hs9, Int.toNat_zero, Int.toNat_one, Int.toNat_natCast, ba_size, ba_app, List.length_append, List.length_nil, List.length_cons, Nat.reduceAdd, u8C_len, List.length_set]; (first | (with_reducible refine XRes_id ?_) | (with_reducible refine ADF_id ?_) | (with_reducible refine ADR_id1 ?_) | (with_reducible refine ADX_id ?_))) | ((first | (with_reducible refine XRes_skip ?_ ?_) | (with_reducible refine ADF_skip (b := true) ?_ ?_) | (with_reducible refine ADX_skip ?_ ?_) | ((with_reducible refine ADR_skip1 ?_ ?_ ?_); (focus rfl))); (focus (first | rfl | ((simp (disch := omega) only [go_sem]); done))); (simp only [putL, List.set_cons_succ, List.set_cons_zero]))) | ((first | (with_reducible refine XRes_nil ?_) | (with_reducible refine ADF_nil ?_) | (with_reducible refine ADR_nil ?_) | (with_reducible refine ADX_nil ?_)); (first | refine hK _ ?_ | refine hK _ _ ?_); clear hK K) | ((first | (with_reducible refine AX_reg0 fun K hK => ?_) | (refine AX_drawG1 tyOK (by kernel_rfl) (by rfl) (by kernel_rfl) fun K hK => ?_) | (refine AX_drawT tyOK (by kernel_rfl) (by decide +kernel) fun K hK => ?_) | (refine AX_drawM1 (by kernel_rfl) (by rfl) (by decide +kernel) fun K hK => ?_) | (refine AX_drawA tyOK (by kernel_rfl) (by decide +kernel) fun K hK => ?_)); (first | simp only [go_sem, preN, effOp, runF, alM, mapOp, alD2, kdOf2, Bool.not_false, Bool.not_true, reduceCtorEq] | simp only [go_sem, preN, effOp, runF, alM, mapOp, Bool.not_false, Bool.not_true, reduceCtorEq] | simp only [go_sem, preN, effOp, runF, alD2, kdOf2, Bool.not_false, Bool.not_true, reduceCtorEq] | simp only [go_sem, alD2, kdOf2, Bool.not_false, Bool.not_true, reduceCtorEq] | simp only [go_sem, preN, effOp, runF, Bool.not_false, Bool.not_true, reduceCtorEq] | simp only [go_sem])) | (first | (first | refine XTL (by rfl) hD ?_ | refine ATL tyOK (by rfl) hD ?_ | refine XTL (by rfl) hL ?_ | refine ATL tyOK (by rfl) hL ?_ | refine XTL (by rfl) hk ?_ | refine ATL tyOK (by rfl) hk ?_ | refine XTL (by rfl) hW ?_ | refine ATL tyOK (by rfl) hW ?_)))
  (simp only [bodyX]; refine ⟨_, by simp only [aresults, aresult, XS.as, Tryd.results51, aload, go_sem, Option.bind_some]; rfl, ?_⟩)
  exact ⟨ids_idB rfl, rfl, trivial⟩
end Go.Proofs.YtdaenbgjafalcaaDoor
