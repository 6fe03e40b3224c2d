import Derived.Scope
import Derived.Test.YthgmjboldboclaaDoorMgBL
import Derived.Test.YthgmjboldboclaaDoorMgBP
import Derived.Test.YthgmjboldboclaaDoorMgBQ
import Derived.Test.YthgmjboldboclaaDoorMgBS
namespace Go.Proofs.YthgmjboldboclaaDoor
open Go.RowKit
set_option linter.unusedVariables false
variable {P : Program} {m : Nat} {Q : Exit → XS → Prop}
theorem XRes_ren {l : List Oper} {fr : List AV} {H : AHeap} {M : MS} (sel ds : List Nat) (fr' : List AV) (H' : AHeap) (hs1 : sel.Nodup) (hs2 : sel.all (fun p => decide (m ≤ p)) = true) (hH : okH (named m sel) (H.take m ++ sel.map (atH H)) = true) (hF : okF (named m sel) ds 0 fr = true)
    (hh : selH m sel H = H') (hfr : fr.map (AV.rn (newNo m sel)) = fr') (h : ∀ d : Nat → Value, XRes P m Q (l, ⟨deadS fr' (fun i => lt (d i)) ds, H', M⟩)) : XRes P m Q (l, ⟨fr, H, M⟩) :=
  XRes_lead (S := fun s1 => ∃ d : Nat → Value, s1 = ⟨deadS fr' (fun i => lt (d i)) ds, H', M⟩) (.of (.ren sel ds hs1 hs2 hH hF fun d => ⟨d, by rw [hfr, hh]⟩)) fun s' ⟨d, e⟩ _ => by rw [e]; exact h d
theorem SF.lit {f : FuncId} {args : List AV} {H : AHeap} {x : AV} {obj : AObj} {y : IV} (h : SF P f args H fun r H' => r = x ∧ H' = H ++ [some obj]) (hs : SnapC (onlyH [H.length] (H ++ [some obj])) x y) : SF P f args H fun r H' => r = .iv y ∧ H' = H :=
  ⟨h.callable, fun G w vs hi hr => (h.calls G w vs hi hr).mono fun e w' ⟨v, r, G', H', h1, h2, h3, h4, h5, e1, e2⟩ => by
    subst e1 e2
    obtain ⟨G2, k1, k2, k3⟩ := lit_step hi h2 h4 h5 hs
    exact ⟨v, .iv y, G2, H, h1, k1, Nat.le_refl _, k2, k3, rfl, rfl⟩⟩
def noGotoX (Q : Exit → XS → Prop) : Exit → XS → Prop
  | .goto _, _ => False
  | e, s => Q e s
end Go.Proofs.YthgmjboldboclaaDoor
namespace Go.Proofs.YthgmjboldboclaaDoor
open Go.RowKit
theorem Snap.tri {H : AHeap} {x y z x' y' z' : AV} (h : Snap H x x') (k : Snap H y y') (l : Snap H z z') : Snap H (.tup [x, y, z]) (.tup [x', y', z']) := .tup _ _ rfl fun i a b e1 e2 => by
  match i with
  | 0 => simp at e1 e2; subst e1 e2; exact h
  | 1 => simp at e1 e2; subst e1 e2; exact k
  | 2 => simp at e1 e2; subst e1 e2; exact l
  | i + 3 => simp at e1
theorem snap_fmNil {H : AHeap} : Snap H (.agg [lt (.int .i64 0), lt (.slice none 0 0)]) (aForm 0 []) := .agg _ _ rfl (fun i a b e1 e2 => by
  match i with
  | 0 => simp at e1 e2; subst e1 e2; exact .same _ (.iv _)
  | 1 => simp at e1 e2; subst e1 e2; exact .iv _ _ (.nil _ _)
  | i + 2 => simp at e1) rfl
theorem snap_fm {H : AHeap} {vars : Int} {xss : List (List Int)} {x : AV} (h : SnapC H x (iRows xss)) : Snap H (.agg [lt (.int .i64 vars), x]) (aForm vars xss) := .agg _ _ rfl (fun i a b e1 e2 => by
  match i with
  | 0 => simp at e1 e2; subst e1 e2; exact .same _ (.iv _)
  | 1 => simp at e1 e2; subst e1 e2; exact .iv _ _ h
  | i + 2 => simp at e1) rfl
end Go.Proofs.YthgmjboldboclaaDoor
namespace Go.Proofs.YthgmjboldboclaaDoor
open Go.RowKit Go.Lib
set_option linter.unusedVariables false
set_option linter.unusedSimpArgs false
attribute [go_sem] rnL_tokC idL_tokC tokC_len tokC_one tokC_take3 tokC_app
theorem rowT_len (a c : Nat) (ts : List (Nat × List UInt8)) : (rowT (a, c, ts)).length = ts.length := by unfold rowT; simp
theorem rangeT (a c : Nat) (ts : List (Nat × List UInt8)) : (List.range (ts.length * 3)).map (fun j => AV.iv (IV.lit ((tkL (a : Int) (c : Int) ts).getD j undef))) = tokC (rowT (a, c, ts)) := by
  have e : tokC (rowT (a, c, ts)) = tkC a c ts := tokC_row a c ts
  rw [e, tkC]
  apply List.ext_getElem
  · rw [List.length_map, List.length_map, List.length_range, tkL_len]
  · intro i h1 h2
    rw [List.length_map] at h2
    rw [List.getElem_map, List.getElem_map, List.getElem_range, List.getD_eq_getElem?_getD, List.getElem?_eq_getElem h2]; rfl
theorem ClI.ends {V z : Int} {T : List Tok3} {k0 : Nat} (hV : 0 ≤ V ∧ V ≤ 100000) : ∀ (m k : Nat) (w n : Int) (c : List Int), T.length - k ≤ m → n ≠ 0 → ClI V z T k0 k 0 w n c → ∃ k f w n c, ClI V z T k0 k f w n c ∧ ¬ (f = 0 ∧ n ≠ 0)
  | m, k, w, n, c, hm, hn, h => by
    by_cases hk : k < T.length
    · by_cases h1 : litE V c (T.getD k tok0).2.2 ≠ 0 ∨ (numR (T.getD k tok0).2.2 (-V) V).1 = 0
      · exact ⟨_, _, _, _, _, h.stop hV hn hk h1, fun e => h1.elim (fun h2 => h2 e.1) fun h2 => e.2 h2⟩
      · obtain ⟨h2, h3⟩ := not_or.1 h1
        have h2 := Classical.not_not.1 h2
        have hl : c.length < 1000 := by
          have := h.len
          rcases Nat.lt_or_ge c.length 1000 with h4 | h4
          · exact h4
          · exfalso
            have h5 : (numR (T.getD k tok0).2.2 (-V) V).2 = 0 := Classical.byContradiction fun h6 => h6 (by have := h2; unfold litE at this; rw [if_pos h6] at this; exact this)
            rw [litE_go h5 h3, if_pos (by omega)] at h2
            exact absurd h2 (by decide)
        cases m with
        | zero => omega
        | succ m => exact ClI.ends hV m _ _ _ _ (by omega) h3 (h.goes hV hn hk hl h2 h3)
    · exact ⟨_, _, _, _, _, h.ended hn hk, fun e => absurd e.1 (by decide)⟩
structure PaI (T : List Tok3) (z V N : Int) (i k : Nat) (f w : Int) (R : List (List Int)) : Prop where
  le : f = 0 → k ≤ T.length
  ok : f = 0 → hdI T = 4 ∧ V = hdV T ∧ N = hdN T ∧ i = R.length ∧ (R.length : Int) ≤ N ∧ pRun V N z (T.drop 4) [] [] = pRun V N z (T.drop k) R []
  bad : f ≠ 0 → pParse T z = (0, [], w, f)
theorem numR_in {l : List UInt8} {lo hi : Int} (h0 : lo ≤ 0) (h1 : 0 ≤ hi) : lo ≤ (numR l lo hi).1 ∧ (numR l lo hi).1 ≤ hi := by
  unfold numR
  split
  · exact ⟨h0, h1⟩
  · split
    · rename_i h; exact ⟨h.2.2.1, h.2.2.2⟩
    · exact ⟨h0, h1⟩
theorem hdV_in (T : List Tok3) : 0 ≤ hdV T ∧ hdV T ≤ 100000 := numR_in (by decide) (by decide)
theorem hdN_in (T : List Tok3) : 0 ≤ hdN T ∧ hdN T ≤ 1000000 := numR_in (by decide) (by decide)
theorem rdNum_in {T : List Tok3} {lo hi : Int} {s : Rd} (h0 : lo ≤ 0) (h1 : 0 ≤ hi) : lo ≤ rdNum T lo hi s ∧ rdNum T lo hi s ≤ hi := by
  unfold rdNum
  split
  · exact numR_in h0 h1
  · exact ⟨h0, h1⟩
theorem PaI.start {T : List Tok3} {z V N : Int} {k : Nat} {f w : Int} (h : ((k, f, w) : Rd).2.1 ≠ 0 ∧ hdI T < 4 ∧ ((k, f, w) : Rd).2.1 = hdE T (hdI T) ∧ ((k, f, w) : Rd).2.2 = rdAt T z (hdI T) ∨ 4 ≤ T.length ∧ hdI T = 4 ∧ ((k, f, w) : Rd) = (4, 0, rdAt T z 3) ∧ V = hdV T ∧ N = hdN T) : PaI T z V N 0 k f w [] := by
  rcases h with ⟨h1, h2, h3, h4⟩ | ⟨h1, h2, h3, h4, h5⟩
  · refine ⟨fun e => absurd e h1, fun e => absurd e h1, fun _ => ?_⟩
    rw [pParse_bad h2, ← h3, ← h4]
  · simp only [Prod.mk.injEq] at h3
    obtain ⟨rfl, rfl, rfl⟩ := h3
    have := hdN_in T
    exact ⟨fun _ => h1, fun _ => ⟨h2, h4, h5, rfl, by rw [h5]; exact this.1, rfl⟩, fun e => absurd rfl e⟩
theorem PaI.step {T : List Tok3} {z V N : Int} {i k k2 : Nat} {w w2 f2 : Int} {c : List Int} {R : List (List Int)} (h : PaI T z V N i k 0 w R) (hi : (i : Int) < N) (hk2 : k2 ≤ T.length) (hc : clRun V z (T.drop k) [] = (c, w2, f2, T.drop k2)) : PaI T z V N (i + 1) k2 f2 w2 (R ++ [c]) := by
  obtain ⟨h1, h2, h3, h4, h5, h6⟩ := h.ok rfl
  have hp := pRun_cl V N z (T.drop k) R [] (by omega)
  rw [hc] at hp
  dsimp only at hp
  refine ⟨fun _ => hk2, fun e => ?_, fun e => ?_⟩
  · subst e
    rw [if_neg (by simp)] at hp
    exact ⟨h1, h2, h3, by rw [List.length_append]; simp; omega, by rw [List.length_append]; simp; omega, by rw [h6, hp]⟩
  · rw [if_pos e] at hp
    rw [pParse_run h1, ← h2, ← h3, h6, hp, if_pos e]
theorem PaI.last {T : List Tok3} {z V N : Int} {i k : Nat} {w : Int} {R : List (List Int)} (h : PaI T z V N i k 0 w R) (hi : ¬ (i : Int) < N) : pParse T z = if k < T.length then (0, [], rdAt T z k, 6) else (V, R, z, 0) := by
  obtain ⟨h1, h2, h3, h4, h5, h6⟩ := h.ok rfl
  have hN : (R.length : Int) = N := by omega
  rw [pParse_run h1, ← h2, ← h3, h6]
  by_cases hk : k < T.length
  · rw [dropT hk, pRun_cons, if_pos hN, if_pos (by simp), if_pos hk, rdAt_lt hk]
  · have hp : pRun V N z [] R [] = (R, z, 0) := by rw [pRun, if_neg (by omega)]
    rw [List.drop_of_length_le (by omega), hp, if_neg (by simp), if_neg hk]
theorem sf_clauseE (T : List Tok3) (k0 : Nat) (z w0 V : Int) (R : List (List Int)) (hT : T.length ≤ 1000000) (hL : ∀ j, (T.getD j tok0).2.2.length ≤ 1000000) (hV : 0 ≤ V ∧ V ≤ 100000) (hk0 : k0 ≤ T.length) :
    ∃ k f w c, k ≤ T.length ∧ c.length ≤ 1000 ∧ clRun V z (T.drop k0) [] = (c, w, f, T.drop k) ∧ SX Tryd.prog 21 [.optr 0 0, lt (.int .i64 V)] [some ⟨53, [.osl 1 0 T.length 3, lt (.int .i64 k0), lt (.int .i64 z), lt (.int .i64 0), lt (.int .i64 w0)]⟩, some ⟨47, tokC T⟩, some ⟨25, [lt (.int .i64 V), .osl 3 0 R.length 1]⟩, some ⟨49, R.map rwI⟩] [] fun r H' M' => r = .iv (iInts c) ∧ H' = [some ⟨53, [.osl 1 0 T.length 3, lt (.int .i64 k), lt (.int .i64 z), lt (.int .i64 f), lt (.int .i64 w)]⟩, some ⟨47, tokC T⟩, some ⟨25, [lt (.int .i64 V), .osl 3 0 R.length 1]⟩, some ⟨49, R.map rwI⟩] ∧ M' = [] := by
  obtain ⟨k, f, w, n, c, h1, h2⟩ := ClI.ends (V := V) (z := z) (T := T) (k0 := k0) hV T.length k0 w0 1 [] (by omega) (by decide) ⟨by rw [if_pos ⟨rfl, by decide⟩], hk0, by simp, by simp, by decide⟩
  refine ⟨k, f, w, c, h1.le, h1.len, h1.xE h2, (SX.of (sx_clause T k0 z w0 V R hT hL hV hk0).sf).mono ?_⟩
  rintro r H' M' ⟨⟨M2, k', f', w', n', c', h3, h4, rfl, rfl⟩, rfl⟩
  have e := (h1.xE h2).symm.trans (h3.xE h4)
  simp only [Prod.mk.injEq] at e
  obtain ⟨rfl, rfl, rfl, e⟩ := e
  have hk : k = k' := by
    have := congrArg List.length e
    rw [List.length_drop, List.length_drop] at this
    have := h1.le; have := h3.le; omega
  subst hk
  exact ⟨rfl, rfl, rfl⟩
theorem Wb6e3a {A B : Prop} (h9 : B) (w : B → A := by (intro h9; (repeat intro K hK); refine ⟨?_⟩; (repeat (first | (first | (with_reducible first | refine AX_block ?_ | refine AX_skip ?_ | refine AX_exit ?_ | refine AX_ret ?_ | refine AX_ift ?_ | refine AX_iff ?_ | refine AX_seq_k (fun K hK => ?_) | refine ContX.use (by assumption) ?_) | simp only [thenX, inBlockX, if_true, if_false, reduceCtorEq]) | (first | ((first | (with_reducible refine XRes_op tyOK ?_ ?_) | ((with_reducible first | refine ADF_op tyOK ?_ ?_ ?_ | refine ADX_op tyOK ?_ ?_ ?_); (focus rfl)) | (with_reducible refine ADR_alloc1 tyOK ?_ ?_) | ((with_reducible refine ADR_free1 tyOK ?_ ?_ ?_); (focus rfl)) | ((with_reducible refine ADR_free0 tyOK ?_ ?_ ?_); (focus rfl)) | ((with_reducible refine ADR_read1 tyOK ?_ ?_ ?_); (focus rfl)) | (with_reducible refine ADR_chg1 tyOK ?_ ?_)); (focus (first | (with_reducible rfl) | ((simp (disch := omega) only [go_sem]); done))); simp (disch := omega) only [go_sem , hs1, hs2, hs3, hs4, hs5, Int.toNat_natCast, Nat.reduceEqDiff, List.length_map, List.length_cons, List.length_nil, ba_size]; (first | (with_reducible refine XRes_id ?_) | (with_reducible refine ADF_id ?_) | (with_reducible refine ADR_id1 ?_) | (with_reducible refine ADX_id ?_))) | ((first | (with_reducible refine XRes_skip ?_ ?_) | (with_reducible refine ADF_skip (b := true) ?_ ?_) | (with_reducible refine ADX_skip ?_ ?_) | ((with_reducible refine ADR_skip1 ?_ ?_ ?_); (focus rfl))); (focus (first | rfl | ((simp (disch := omega) only [go_sem]); done))); (simp only [putL, List.set_cons_succ, List.set_cons_zero]))) | ((first | (with_reducible refine XRes_nil ?_) | (with_reducible refine ADF_nil ?_) | (with_reducible refine ADR_nil ?_) | (with_reducible refine ADX_nil ?_)); (first | refine hK _ ?_ | refine hK _ _ ?_); clear hK K) | ((first | (with_reducible refine AX_reg0 fun K hK => ?_) | (refine AX_drawG1 tyOK (by kernel_rfl) (by rfl) (by kernel_rfl) fun K hK => ?_) | (refine AX_drawT tyOK (by kernel_rfl) (by decide +kernel) fun K hK => ?_) | (refine AX_drawM1 (by kernel_rfl) (by rfl) (by decide +kernel) fun K hK => ?_) | (refine AX_drawA tyOK (by kernel_rfl) (by decide +kernel) fun K hK => ?_)); (first | simp only [go_sem, preN, effOp, runF, alM, mapOp, alD2, kdOf2, Bool.not_false, Bool.not_true, reduceCtorEq] | simp only [go_sem, preN, effOp, runF, alM, mapOp, Bool.not_false, Bool.not_true, reduceCtorEq] | simp only [go_sem, preN, effOp, runF, alD2, kdOf2, Bool.not_false, Bool.not_true, reduceCtorEq] | simp only [go_sem, alD2, kdOf2, Bool.not_false, Bool.not_true, reduceCtorEq] | simp only [go_sem, preN, effOp, runF, Bool.not_false, Bool.not_true, reduceCtorEq] | simp only [go_sem])) | (first | (first | refine XTL (by rfl) hL ?_ | refine ATL tyOK (by rfl) hL ?_)))); refine Wk.o ?_; (repeat revert hK K); exact h9)) : A := w h9
set_option maxRecDepth 100000 in
set_option maxHeartbeats 8000000 in
theorem pf_Parse6 (l : List UInt8) (rs : List (Nat × Nat × List (Nat × List UInt8))) (hl : l.length ≤ 1000000) (hR : rs.length ≤ 1000000) (hR2 : ∀ i, (rs.getD i (0, 0, [])).2.2.length ≤ 1000000) (hL0 : PF Tryd.prog 18 [lt (.string (ba l))] fun r H' => r = .iv (iLn rs) ∧ H' = []) (hT : (allT rs).length ≤ 1000000) (hTl : ∀ j, ((allT rs).getD j tok0).2.2.length ≤ 1000000) :
    PF Tryd.prog 8 [lt (.string (ba l))] fun r H' => r = .tup [aForm (pParse (allT rs) l.length).1 (pParse (allT rs) l.length).2.1, lint (pParse (allT rs) l.length).2.2.1, lint (pParse (allT rs) l.length).2.2.2] ∧ H' = [] := by
  refine SF.frozen ?_
  have hs1 := trivial; have hs2 := trivial; have hs3 := trivial; have hs4 := trivial; have hs5 := trivial; have hL := trivial
  have hL := hL0
  have hU : iLn rs = .sl (fun j => rowIV (rs.getD j (0, 0, []))) rs.length 1 := rfl
  rw [hU] at hL
  have hs2 : decide ((1000000 : Int) < (l.length : Int)) = false := decide_eq_false (by omega)
  (refine SF_of_bodyX (aload tt) (aload_ok tyOK) Tryd.func8 rfl (by kernel_rfl) ?_; simp only [Tryd.ntmps8, List.length_cons, List.length_nil, Nat.reduceAdd, Nat.reduceSub, List.replicate_succ, List.replicate_zero, List.cons_append, List.nil_append])
  (refine Wk.o ?_; (repeat revert hK K); refine Wb6e3a ?_; (repeat intro K hK); refine ⟨?_⟩)
  refine AX_cellNew 1 47 3 0 _ rfl rfl ?_
  simp only [List.length_cons, List.length_nil, List.cons_append, List.nil_append, Nat.zero_add, Nat.reduceAdd, List.set_cons_succ, List.set_cons_zero]
  have hinit : tokC [] = [] := rfl
  (refine AX_wh (σ := Nat × List Tok3) [22, 23, 24, 7, 25, 26, 27, 28, 29, 30, 31, 32] (fun (i, T) => [(21, lint i)]) (fun (i, T) => [some ⟨25, [lt (.int .i64 0), lt (.slice none 0 0)]⟩, some ⟨53, [.osl 2 0 T.length 3, lt (.int .i64 0), lt (.int .i64 l.length), lt (.int .i64 0), lt (.int .i64 0)]⟩, some ⟨47, tokC T⟩]) (fun (i, T) => []) (fun (i, T) => i ≤ rs.length ∧ T = allT (rs.take i) ∧ T.length ≤ 1000000 * i) (fun (i, T) => rs.length - i) (0, []) (fun d => by first | ((simp only [deadS, updS, List.set_cons_succ, List.set_cons_zero, lint, List.length_nil, List.length_cons]); done) | ((simp only [deadS, updS, List.set_cons_succ, List.set_cons_zero, lint, List.length_nil, List.length_cons]); rfl) | rfl) (by first | (with_reducible rfl) | (simp only [hinit]; done) | rfl) (by first | (with_reducible rfl) | rfl) (by first | exact ⟨Nat.zero_le _, rfl, Nat.le_refl _⟩) ?_; rintro ⟨i, T⟩ d fr hfr ⟨hi, hTe, hTn⟩; simp only [updS, deadS, List.set_cons_succ, List.set_cons_zero, lint] at hfr; subst hfr; (try dsimp only))
  by_cases hlt : i < rs.length
  · have hts := hR2 i
    have hat := allT_take hlt
    rcases hr : rs.getD i (0, 0, []) with ⟨a, c, ts⟩
    rw [hr] at hts hat
    dsimp only at hts
    have hs1 : rowIV (rs.getD i (0, 0, [])) = .sl (fun j => .lit ((tkL a c ts).getD j undef)) ts.length 3 := by rw [hr]; rfl
    have hs3 := rangeT a c ts
    have hs4 := rowT_len a c ts
    have hlen : (T ++ rowT (a, c, ts)).length = T.length + ts.length := by rw [List.length_append, hs4]
    (refine Wk.o ?_; (repeat revert hK K); refine Wb6e3a ?_; (repeat intro K hK); refine ⟨?_⟩)
    exact whx_ren [0, 1, 3] (i + 1, T ++ rowT (a, c, ts)) ⟨by omega, by rw [hat, hTe], by rw [hlen]; omega⟩ (by (first | omega | (dsimp only; omega) | (simp only; omega))) rfl (by decide) (by decide) (by (simp (disch := omega) only [go_sem, lint, Nat.reduceEqDiff, List.length_map])) (by (simp (disch := omega) only [go_sem, lint, Nat.reduceEqDiff, List.length_map])) (by dsimp only; rw [hlen]; (simp (disch := omega) only [go_sem, lint, Nat.reduceEqDiff, List.length_map])) (fun d => by first | ((simp (disch := omega) only [go_sem, lint, Nat.reduceEqDiff, List.length_map]); done) | ((simp (disch := omega) only [go_sem, lint, Nat.reduceEqDiff, List.length_map]); rfl))
  · obtain rfl : i = rs.length := by omega
    rw [List.take_length] at hTe
    subst hTe
    generalize hTT : allT rs = T at *
    have hs1 : decide ((rs.length : Int) < (rs.length : Int)) = false := decide_eq_false (by omega)
    (refine Wk.o ?_; (repeat revert hK K); refine Wb6e3a ?_; (repeat intro K hK); refine ⟨?_⟩)
    refine XRes_cellNewB 0 49 1 1 _ rfl rfl ?_
    simp only [List.length_cons, List.length_nil, List.cons_append, List.nil_append, Nat.zero_add, Nat.reduceAdd, List.set_cons_succ, List.set_cons_zero]
    refine XRes_ren [1, 2, 0, 3] [] ?fr1 [some ⟨53, [.osl 1 0 T.length 3, lt (.int .i64 0), lt (.int .i64 l.length), lt (.int .i64 0), lt (.int .i64 0)]⟩, some ⟨47, tokC T⟩, some ⟨25, [lt (.int .i64 0), .osl 3 0 0 1]⟩, some ⟨49, []⟩] (by decide) (by decide) (by (simp (disch := omega) only [go_sem, lint, Nat.reduceEqDiff, List.length_map])) (by (simp (disch := omega) only [go_sem, lint, Nat.reduceEqDiff, List.length_map])) (by (simp (disch := omega) only [go_sem, lint, Nat.reduceEqDiff, List.length_map])) ?hfr0 (fun d2 => ?_)
    case hfr0 =>
      (simp (disch := omega) only [go_sem, lint, Nat.reduceEqDiff, List.length_map])
      rfl
    simp only [deadS, List.set_cons_succ, List.set_cons_zero]
    refine XRes_fn (by rfl) (sf_word T 0 l.length 0 0 [112] (some ⟨25, [lt (.int .i64 0), .osl 3 0 0 1]⟩) (some ⟨49, []⟩) hT) ?_
    rintro r H1 ⟨rfl, rfl⟩
    (simp only [putL, List.set_cons_succ, List.set_cons_zero])
    have hx1 : rdTake T l.length (wordE [112]) (0, 0, 0) = hd1 T l.length := by first | rfl | (unfold hd1; rw [hq0])
    rw [hx1]
    generalize hq1 : hd1 T l.length = q1
    obtain ⟨k1, f1, w1⟩ := q1
    refine XRes_ren [0, 1, 2, 3] [] ?fr2 [some ⟨53, [.osl 1 0 T.length 3, lt (.int .i64 k1), lt (.int .i64 l.length), lt (.int .i64 f1), lt (.int .i64 w1)]⟩, some ⟨47, tokC T⟩, some ⟨25, [lt (.int .i64 0), .osl 3 0 0 1]⟩, some ⟨49, []⟩] (by decide) (by decide) (by (simp (disch := omega) only [go_sem, lint, Nat.reduceEqDiff, List.length_map])) (by (simp (disch := omega) only [go_sem, lint, Nat.reduceEqDiff, List.length_map])) (by (simp (disch := omega) only [go_sem, lint, Nat.reduceEqDiff, List.length_map])) ?hfr1 (fun d2 => ?_)
    case hfr1 =>
      (simp (disch := omega) only [go_sem, lint, Nat.reduceEqDiff, List.length_map])
      rfl
    simp only [deadS, List.set_cons_succ, List.set_cons_zero]
    (refine Wk.o ?_; (repeat revert hK K); refine Wb6e3a ?_; (repeat intro K hK); refine ⟨?_⟩)
    refine XRes_fn (by rfl) (sf_word T k1 l.length f1 w1 [99, 110, 102] (some ⟨25, [lt (.int .i64 0), .osl 3 0 0 1]⟩) (some ⟨49, []⟩) hT) ?_
    rintro r H1 ⟨rfl, rfl⟩
    (simp only [putL, List.set_cons_succ, List.set_cons_zero])
    have hx2 : rdTake T l.length (wordE [99, 110, 102]) (k1, f1, w1) = hd2 T l.length := by first | rfl | (unfold hd2; rw [hq1])
    rw [hx2]
    generalize hq2 : hd2 T l.length = q2
    obtain ⟨k2, f2, w2⟩ := q2
    refine XRes_ren [0, 1, 2, 3] [] ?fr3 [some ⟨53, [.osl 1 0 T.length 3, lt (.int .i64 k2), lt (.int .i64 l.length), lt (.int .i64 f2), lt (.int .i64 w2)]⟩, some ⟨47, tokC T⟩, some ⟨25, [lt (.int .i64 0), .osl 3 0 0 1]⟩, some ⟨49, []⟩] (by decide) (by decide) (by (simp (disch := omega) only [go_sem, lint, Nat.reduceEqDiff, List.length_map])) (by (simp (disch := omega) only [go_sem, lint, Nat.reduceEqDiff, List.length_map])) (by (simp (disch := omega) only [go_sem, lint, Nat.reduceEqDiff, List.length_map])) ?hfr2 (fun d2 => ?_)
    case hfr2 =>
      (simp (disch := omega) only [go_sem, lint, Nat.reduceEqDiff, List.length_map])
      rfl
    simp only [deadS, List.set_cons_succ, List.set_cons_zero]
    (refine Wk.o ?_; (repeat revert hK K); refine Wb6e3a ?_; (repeat intro K hK); refine ⟨?_⟩)
    refine XRes_fn (by rfl) (sf_number T k2 l.length f2 w2 0 100000 (some ⟨25, [lt (.int .i64 0), .osl 3 0 0 1]⟩) (some ⟨49, []⟩) hT hTl) ?_
    rintro r H1 ⟨rfl, rfl⟩
    (simp only [putL, List.set_cons_succ, List.set_cons_zero])
    have hx3 : rdTake T l.length (numE 0 100000) (k2, f2, w2) = hd3 T l.length := by first | rfl | (unfold hd3; rw [hq2])
    rw [hx3]
    generalize hq3 : hd3 T l.length = q3
    obtain ⟨k3, f3, w3⟩ := q3
    refine XRes_ren [0, 1, 2, 3] [] ?fr4 [some ⟨53, [.osl 1 0 T.length 3, lt (.int .i64 k3), lt (.int .i64 l.length), lt (.int .i64 f3), lt (.int .i64 w3)]⟩, some ⟨47, tokC T⟩, some ⟨25, [lt (.int .i64 0), .osl 3 0 0 1]⟩, some ⟨49, []⟩] (by decide) (by decide) (by (simp (disch := omega) only [go_sem, lint, Nat.reduceEqDiff, List.length_map])) (by (simp (disch := omega) only [go_sem, lint, Nat.reduceEqDiff, List.length_map])) (by (simp (disch := omega) only [go_sem, lint, Nat.reduceEqDiff, List.length_map])) ?hfr3 (fun d2 => ?_)
    case hfr3 =>
      (simp (disch := omega) only [go_sem, lint, Nat.reduceEqDiff, List.length_map])
      rfl
    simp only [deadS, List.set_cons_succ, List.set_cons_zero]
    (refine Wk.o ?_; (repeat revert hK K); refine Wb6e3a ?_; (repeat intro K hK); refine ⟨?_⟩)
    generalize hVd : rdNum T 0 100000 (k2, f2, w2) = V
    refine XRes_fn (by rfl) (sf_number T k3 l.length f3 w3 0 1000000 (some ⟨25, [lt (.int .i64 V), .osl 3 0 0 1]⟩) (some ⟨49, []⟩) hT hTl) ?_
    rintro r H1 ⟨rfl, rfl⟩
    (simp only [putL, List.set_cons_succ, List.set_cons_zero])
    have hx4 : rdTake T l.length (numE 0 1000000) (k3, f3, w3) = hd4 T l.length := by first | rfl | (unfold hd4; rw [hq3])
    rw [hx4]
    generalize hq4 : hd4 T l.length = q4
    obtain ⟨k4, f4, w4⟩ := q4
    generalize hNd : rdNum T 0 1000000 (k3, f3, w3) = N
    refine XRes_ren [0, 1, 2, 3] [] ?fr5 [some ⟨53, [.osl 1 0 T.length 3, lt (.int .i64 k4), lt (.int .i64 l.length), lt (.int .i64 f4), lt (.int .i64 w4)]⟩, some ⟨47, tokC T⟩, some ⟨25, [lt (.int .i64 V), .osl 3 0 0 1]⟩, some ⟨49, []⟩] (by decide) (by decide) (by (simp (disch := omega) only [go_sem, lint, Nat.reduceEqDiff, List.length_map])) (by (simp (disch := omega) only [go_sem, lint, Nat.reduceEqDiff, List.length_map])) (by (simp (disch := omega) only [go_sem, lint, Nat.reduceEqDiff, List.length_map])) ?hfr5 (fun d2 => ?_)
    case hfr5 =>
      (simp (disch := omega) only [go_sem, lint, Nat.reduceEqDiff, List.length_map])
      rfl
    simp only [deadS, List.set_cons_succ, List.set_cons_zero]
    have hd := hd_code T (l.length : Int)
    rw [hq2, hq3, hq4, hVd, hNd] at hd
    have hI0 : PaI T l.length V N 0 k4 f4 w4 [] := PaI.start hd
    have hV0 : 0 ≤ V ∧ V ≤ 100000 := by rw [← hVd]; exact rdNum_in (by decide) (by decide)
    have hN0 : 0 ≤ N ∧ N ≤ 1000000 := by rw [← hNd]; exact rdNum_in (by decide) (by decide)
    clear hq1 hq2 hq3 hq4 hx1 hx2 hx3 hx4 hd hVd hNd
    (refine Wk.o ?_; (repeat revert hK K); refine Wb6e3a ?_; (repeat intro K hK); refine ⟨?_⟩)
    have hinit : ([] : List (List Int)).map rwI = [] := rfl
    (refine AX_wh (σ := Nat × Nat × Int × Int × List (List Int)) [38, 39, 40, 41, 42, 43, 44, 45, 48, 49, 50, 51, 52, 53, 54, 55, 46, 47] (fun (i, k, f, w, R) => [(9, lint i)]) (fun (i, k, f, w, R) => [some ⟨53, [.osl 1 0 T.length 3, lt (.int .i64 k), lt (.int .i64 l.length), lt (.int .i64 f), lt (.int .i64 w)]⟩, some ⟨47, tokC T⟩, some ⟨25, [lt (.int .i64 V), .osl 3 0 R.length 1]⟩, some ⟨49, R.map rwI⟩]) (fun (i, k, f, w, R) => []) (fun (i, k, f, w, R) => PaI T l.length V N i k f w R ∧ R.length ≤ i ∧ (i : Int) ≤ N) (fun (i, k, f, w, R) => N.toNat - i) (0, k4, f4, w4, []) (fun d => by first | ((simp only [deadS, updS, List.set_cons_succ, List.set_cons_zero, lint, List.length_nil, List.length_cons]); done) | ((simp only [deadS, updS, List.set_cons_succ, List.set_cons_zero, lint, List.length_nil, List.length_cons]); rfl) | rfl) (by first | (with_reducible rfl) | (simp only [hinit]; done) | rfl) (by first | (with_reducible rfl) | rfl) (by first | exact ⟨hI0, Nat.le_refl _, by omega⟩) ?_; rintro ⟨i, k, f, w, R⟩ d fr hfr ⟨hI, hRi, hiN⟩; simp only [updS, deadS, List.set_cons_succ, List.set_cons_zero, lint] at hfr; subst hfr; (try dsimp only))
    by_cases hlt2 : (i : Int) < N
    · have hs1 : decide ((i : Int) < N) = true := decide_eq_true hlt2
      by_cases hf : f = 0
      · subst hf
        obtain ⟨k', f', w', c, hk', hc', hcl, hSX⟩ := sf_clauseE T k l.length w V R hT hTl hV0 (hI.le rfl)
        have hI2 := hI.step hlt2 hk' hcl
        unfold iInts at hSX
        have hlen : (R ++ [c]).length = R.length + 1 := by simp
        repeat (first | (first | (with_reducible first | refine AX_block ?_ | refine AX_skip ?_ | refine AX_exit ?_ | refine AX_ret ?_ | refine AX_ift ?_ | refine AX_iff ?_ | refine AX_seq_k (fun K hK => ?_) | refine ContX.use (by assumption) ?_) | simp only [thenX, inBlockX, if_true, if_false, reduceCtorEq]) | (first | ((first | (with_reducible refine XRes_op tyOK ?_ ?_) | ((with_reducible first | refine ADF_op tyOK ?_ ?_ ?_ | refine ADX_op tyOK ?_ ?_ ?_); (focus rfl)) | (with_reducible refine ADR_alloc1 tyOK ?_ ?_) | ((with_reducible refine ADR_free1 tyOK ?_ ?_ ?_); (focus rfl)) | ((with_reducible refine ADR_free0 tyOK ?_ ?_ ?_); (focus rfl)) | ((with_reducible refine ADR_read1 tyOK ?_ ?_ ?_); (focus rfl)) | (with_reducible refine ADR_chg1 tyOK ?_ ?_)); (focus (first | (with_reducible rfl) | ((simp (disch := omega) only [go_sem]); done))); simp (disch := omega) only [go_sem , hs1, hs2, hs3, hs4, hs5, Int.toNat_natCast, Nat.reduceEqDiff, List.length_map, List.length_cons, List.length_nil, ba_size]; (first | (with_reducible refine XRes_id ?_) | (with_reducible refine ADF_id ?_) | (with_reducible refine ADR_id1 ?_) | (with_reducible refine ADX_id ?_))) | ((first | (with_reducible refine XRes_skip ?_ ?_) | (with_reducible refine ADF_skip (b := true) ?_ ?_) | (with_reducible refine ADX_skip ?_ ?_) | ((with_reducible refine ADR_skip1 ?_ ?_ ?_); (focus rfl))); (focus (first | rfl | ((simp (disch := omega) only [go_sem]); done))); (simp only [putL, List.set_cons_succ, List.set_cons_zero]))) | ((first | (with_reducible refine XRes_nil ?_) | (with_reducible refine ADF_nil ?_) | (with_reducible refine ADR_nil ?_) | (with_reducible refine ADX_nil ?_)); (first | refine hK _ ?_ | refine hK _ _ ?_); clear hK K) | ((with_reducible refine AX_reg0 fun K hK => ?_); simp only [go_sem]))
        refine AX_drawLk (fun H => H[2]? = some (some ⟨25, [lt (.int .i64 V), .osl 3 0 R.length 1]⟩)) 8 [.free, .free, .free, .free, .chg, .chg, .chg, .free, .chg] [false, true, false, true, true, true, true, false, false] (by kernel_rfl) (by decide +kernel) (by decide +kernel) rfl fun K hK => ?_
        simp only [go_sem]
        repeat (first | (first | ((with_reducible refine ADL_free tyOK ?_ ?_ ?_); (focus rfl); (focus (first | (with_reducible rfl) | ((simp (disch := omega) only [go_sem]); done))); simp (disch := omega) only [go_sem , hs1, hs2, hs3, hs4, hs5, Int.toNat_natCast, Nat.reduceEqDiff, List.length_map, List.length_cons, List.length_nil, ba_size]; (with_reducible refine ADL_id ?_)) | ((refine ADL_look tyOK (by rfl) (by rfl) (fun H hS => by simp only [go_sem, hS]; rfl) ?_); (simp only [putL, List.set_cons_succ, List.set_cons_zero])) | ((with_reducible refine ADL_chg tyOK ?_ ?_ ?_); (focus (simp only [List.length_cons]; omega)); (focus (first | (with_reducible rfl) | ((simp (disch := omega) only [go_sem]); done))); simp (disch := omega) only [go_sem , hs1, hs2, hs3, hs4, hs5, Int.toNat_natCast, Nat.reduceEqDiff, List.length_map, List.length_cons, List.length_nil, ba_size]; (first | (refine ⟨(by decide), (fun hh => by first | trivial | rfl | cases hh), ?_⟩) | (refine ⟨(by decide), ?_⟩) | (refine ⟨(fun hh => by first | trivial | rfl | cases hh), ?_⟩) | skip); (with_reducible refine ADL_id ?_))) | ((refine ADL_callX (by simp only [List.length_cons]; omega) (by rfl) (by rfl) hSX (by simp only [List.length_cons]; omega) (fun _ => rfl) ?_); (simp only [putL, List.set_cons_succ, List.set_cons_zero])) | ((refine ADL_nil ?_); (refine hK _ _ _ (by simp only [List.length_cons]; omega) ?_); clear hK K))
        repeat (first | (first | (with_reducible first | refine AX_block ?_ | refine AX_skip ?_ | refine AX_exit ?_ | refine AX_ret ?_ | refine AX_ift ?_ | refine AX_iff ?_ | refine AX_seq_k (fun K hK => ?_) | refine ContX.use (by assumption) ?_) | simp only [thenX, inBlockX, if_true, if_false, reduceCtorEq]) | (first | ((first | (with_reducible refine XRes_op tyOK ?_ ?_) | ((with_reducible first | refine ADF_op tyOK ?_ ?_ ?_ | refine ADX_op tyOK ?_ ?_ ?_); (focus rfl)) | (with_reducible refine ADR_alloc1 tyOK ?_ ?_) | ((with_reducible refine ADR_free1 tyOK ?_ ?_ ?_); (focus rfl)) | ((with_reducible refine ADR_free0 tyOK ?_ ?_ ?_); (focus rfl)) | ((with_reducible refine ADR_read1 tyOK ?_ ?_ ?_); (focus rfl)) | (with_reducible refine ADR_chg1 tyOK ?_ ?_)); (focus (first | (with_reducible rfl) | ((simp (disch := omega) only [go_sem]); done))); simp (disch := omega) only [go_sem , hs1, hs2, hs3, hs4, hs5, Int.toNat_natCast, Nat.reduceEqDiff, List.length_map, List.length_cons, List.length_nil, ba_size]; (first | (with_reducible refine XRes_id ?_) | (with_reducible refine ADF_id ?_) | (with_reducible refine ADR_id1 ?_) | (with_reducible refine ADX_id ?_))) | ((first | (with_reducible refine XRes_skip ?_ ?_) | (with_reducible refine ADF_skip (b := true) ?_ ?_) | (with_reducible refine ADX_skip ?_ ?_) | ((with_reducible refine ADR_skip1 ?_ ?_ ?_); (focus rfl))); (focus (first | rfl | ((simp (disch := omega) only [go_sem]); done))); (simp only [putL, List.set_cons_succ, List.set_cons_zero]))) | ((first | (with_reducible refine XRes_nil ?_) | (with_reducible refine ADF_nil ?_) | (with_reducible refine ADR_nil ?_) | (with_reducible refine ADX_nil ?_)); (first | refine hK _ ?_ | refine hK _ _ ?_); clear hK K) | ((with_reducible refine AX_reg0 fun K hK => ?_); simp only [go_sem]))
        exact whx_ren [0, 1, 2, 5] (i + 1, k', f', w', R ++ [c]) ⟨hI2, by dsimp only; rw [hlen]; omega, by dsimp only; omega⟩ (by dsimp only; omega) rfl (by decide) (by decide) (by (simp (disch := omega) only [go_sem, lint, Nat.reduceEqDiff, List.length_map])) (by (simp (disch := omega) only [go_sem, lint, Nat.reduceEqDiff, List.length_map])) (by dsimp only; rw [hlen]; (simp (disch := omega) only [go_sem, lint, Nat.reduceEqDiff, List.length_map])) (fun d => by first | ((simp (disch := omega) only [go_sem, lint, Nat.reduceEqDiff, List.length_map]); done) | ((simp (disch := omega) only [go_sem, lint, Nat.reduceEqDiff, List.length_map]); rfl))
      · have hs2 : (f == 0) = false := by simpa using hf
        have hp := hI.bad hf
        have hs4 : (f != 0) = true := by simpa using hf
        repeat (first | (first | (with_reducible first | refine AX_block ?_ | refine AX_skip ?_ | refine AX_exit ?_ | refine AX_ret ?_ | refine AX_ift ?_ | refine AX_iff ?_ | refine AX_seq_k (fun K hK => ?_) | refine ContX.use (by assumption) ?_) | simp only [thenX, inBlockX, if_true, if_false, reduceCtorEq]) | (first | ((first | (with_reducible refine XRes_op tyOK ?_ ?_) | ((with_reducible first | refine ADF_op tyOK ?_ ?_ ?_ | refine ADX_op tyOK ?_ ?_ ?_); (focus rfl)) | (with_reducible refine ADR_alloc1 tyOK ?_ ?_) | ((with_reducible refine ADR_free1 tyOK ?_ ?_ ?_); (focus rfl)) | ((with_reducible refine ADR_free0 tyOK ?_ ?_ ?_); (focus rfl)) | ((with_reducible refine ADR_read1 tyOK ?_ ?_ ?_); (focus rfl)) | (with_reducible refine ADR_chg1 tyOK ?_ ?_)); (focus (first | (with_reducible rfl) | ((simp (disch := omega) only [go_sem]); done))); simp (disch := omega) only [go_sem , hs1, hs2, hs3, hs4, hs5, Int.toNat_natCast, Nat.reduceEqDiff, List.length_map, List.length_cons, List.length_nil, ba_size]; (first | (with_reducible refine XRes_id ?_) | (with_reducible refine ADF_id ?_) | (with_reducible refine ADR_id1 ?_) | (with_reducible refine ADX_id ?_))) | ((first | (with_reducible refine XRes_skip ?_ ?_) | (with_reducible refine ADF_skip (b := true) ?_ ?_) | (with_reducible refine ADX_skip ?_ ?_) | ((with_reducible refine ADR_skip1 ?_ ?_ ?_); (focus rfl))); (focus (first | rfl | ((simp (disch := omega) only [go_sem]); done))); (simp only [putL, List.set_cons_succ, List.set_cons_zero]))) | ((first | (with_reducible refine XRes_nil ?_) | (with_reducible refine ADF_nil ?_) | (with_reducible refine ADR_nil ?_) | (with_reducible refine ADX_nil ?_)); (first | refine hK _ ?_ | refine hK _ _ ?_); clear hK K) | ((with_reducible refine AX_reg0 fun K hK => ?_); simp only [go_sem]))
        refine AX_drawLk (fun H => H[0]? = some (some ⟨53, [.osl 1 0 T.length 3, lt (.int .i64 k), lt (.int .i64 l.length), lt (.int .i64 f), lt (.int .i64 w)]⟩)) 8 [.free, .free, .free, .free, .free, .chg, .free, .free] [false, false, true, false, true, true, false, false] (by kernel_rfl) (by decide +kernel) (by decide +kernel) rfl fun K hK => ?_
        simp only [go_sem]
        repeat (first | (first | ((with_reducible refine ADL_free tyOK ?_ ?_ ?_); (focus rfl); (focus (first | (with_reducible rfl) | ((simp (disch := omega) only [go_sem]); done))); simp (disch := omega) only [go_sem , hs1, hs2, hs3, hs4, hs5, Int.toNat_natCast, Nat.reduceEqDiff, List.length_map, List.length_cons, List.length_nil, ba_size]; (with_reducible refine ADL_id ?_)) | ((refine ADL_look tyOK (by rfl) (by rfl) (fun H hS => by simp only [go_sem, hS]; rfl) ?_); (simp only [putL, List.set_cons_succ, List.set_cons_zero])) | ((with_reducible refine ADL_chg tyOK ?_ ?_ ?_); (focus (simp only [List.length_cons]; omega)); (focus (first | (with_reducible rfl) | ((simp (disch := omega) only [go_sem]); done))); simp (disch := omega) only [go_sem , hs1, hs2, hs3, hs4, hs5, Int.toNat_natCast, Nat.reduceEqDiff, List.length_map, List.length_cons, List.length_nil, ba_size]; (first | (refine ⟨(by decide), (fun hh => by first | trivial | rfl | cases hh), ?_⟩) | (refine ⟨(by decide), ?_⟩) | (refine ⟨(fun hh => by first | trivial | rfl | cases hh), ?_⟩) | skip); (with_reducible refine ADL_id ?_))) | ((refine ADL_nil ?_); (refine hK _ _ _ (by simp only [List.length_cons]; omega) ?_); clear hK K))
        repeat (first | (first | (with_reducible first | refine AX_block ?_ | refine AX_skip ?_ | refine AX_exit ?_ | refine AX_ret ?_ | refine AX_ift ?_ | refine AX_iff ?_ | refine AX_seq_k (fun K hK => ?_) | refine ContX.use (by assumption) ?_) | simp only [thenX, inBlockX, if_true, if_false, reduceCtorEq]) | (first | ((first | (with_reducible refine XRes_op tyOK ?_ ?_) | ((with_reducible first | refine ADF_op tyOK ?_ ?_ ?_ | refine ADX_op tyOK ?_ ?_ ?_); (focus rfl)) | (with_reducible refine ADR_alloc1 tyOK ?_ ?_) | ((with_reducible refine ADR_free1 tyOK ?_ ?_ ?_); (focus rfl)) | ((with_reducible refine ADR_free0 tyOK ?_ ?_ ?_); (focus rfl)) | ((with_reducible refine ADR_read1 tyOK ?_ ?_ ?_); (focus rfl)) | (with_reducible refine ADR_chg1 tyOK ?_ ?_)); (focus (first | (with_reducible rfl) | ((simp (disch := omega) only [go_sem]); done))); simp (disch := omega) only [go_sem , hs1, hs2, hs3, hs4, hs5, Int.toNat_natCast, Nat.reduceEqDiff, List.length_map, List.length_cons, List.length_nil, ba_size]; (first | (with_reducible refine XRes_id ?_) | (with_reducible refine ADF_id ?_) | (with_reducible refine ADR_id1 ?_) | (with_reducible refine ADX_id ?_))) | ((first | (with_reducible refine XRes_skip ?_ ?_) | (with_reducible refine ADF_skip (b := true) ?_ ?_) | (with_reducible refine ADX_skip ?_ ?_) | ((with_reducible refine ADR_skip1 ?_ ?_ ?_); (focus rfl))); (focus (first | rfl | ((simp (disch := omega) only [go_sem]); done))); (simp only [putL, List.set_cons_succ, List.set_cons_zero]))) | ((first | (with_reducible refine XRes_nil ?_) | (with_reducible refine ADF_nil ?_) | (with_reducible refine ADR_nil ?_) | (with_reducible refine ADX_nil ?_)); (first | refine hK _ ?_ | refine hK _ _ ?_); clear hK K) | ((with_reducible refine AX_reg0 fun K hK => ?_); simp only [go_sem]))
        (simp only [bodyX]; refine ⟨_, by simp only [aresults, aresult, XS.as, Tryd.results8, aload, go_sem, Option.bind_some]; rfl, ?_⟩)
        exact ⟨_, Snap.tri snap_fmNil (.same _ (.iv _)) (.same _ (.iv _)), by rw [hp]; rfl, trivial⟩
    · have hs1 : decide ((i : Int) < N) = false := decide_eq_false hlt2
      by_cases hf : f = 0
      · subst hf
        have hp := hI.last hlt2
        have hA := sf_at T k l.length 0 w [some ⟨25, [lt (.int .i64 V), .osl 3 0 R.length 1]⟩, some ⟨49, R.map rwI⟩] hT
        by_cases hk : k < T.length
        · have hs2 : decide ((k : Int) < (T.length : Int)) = true := decide_eq_true (by omega)
          rw [if_pos hk] at hp
          repeat (first | (first | (with_reducible first | refine AX_block ?_ | refine AX_skip ?_ | refine AX_exit ?_ | refine AX_ret ?_ | refine AX_ift ?_ | refine AX_iff ?_ | refine AX_seq_k (fun K hK => ?_) | refine ContX.use (by assumption) ?_) | simp only [thenX, inBlockX, if_true, if_false, reduceCtorEq]) | (first | ((first | (with_reducible refine XRes_op tyOK ?_ ?_) | ((with_reducible first | refine ADF_op tyOK ?_ ?_ ?_ | refine ADX_op tyOK ?_ ?_ ?_); (focus rfl)) | (with_reducible refine ADR_alloc1 tyOK ?_ ?_) | ((with_reducible refine ADR_free1 tyOK ?_ ?_ ?_); (focus rfl)) | ((with_reducible refine ADR_free0 tyOK ?_ ?_ ?_); (focus rfl)) | ((with_reducible refine ADR_read1 tyOK ?_ ?_ ?_); (focus rfl)) | (with_reducible refine ADR_chg1 tyOK ?_ ?_)); (focus (first | (with_reducible rfl) | ((simp (disch := omega) only [go_sem]); done))); simp (disch := omega) only [go_sem , hs1, hs2, hs3, hs4, hs5, Int.toNat_natCast, Nat.reduceEqDiff, List.length_map, List.length_cons, List.length_nil, ba_size]; (first | (with_reducible refine XRes_id ?_) | (with_reducible refine ADF_id ?_) | (with_reducible refine ADR_id1 ?_) | (with_reducible refine ADX_id ?_))) | ((first | (with_reducible refine XRes_skip ?_ ?_) | (with_reducible refine ADF_skip (b := true) ?_ ?_) | (with_reducible refine ADX_skip ?_ ?_) | ((with_reducible refine ADR_skip1 ?_ ?_ ?_); (focus rfl))); (focus (first | rfl | ((simp (disch := omega) only [go_sem]); done))); (simp only [putL, List.set_cons_succ, List.set_cons_zero]))) | ((first | (with_reducible refine XRes_nil ?_) | (with_reducible refine ADF_nil ?_) | (with_reducible refine ADR_nil ?_) | (with_reducible refine ADX_nil ?_)); (first | refine hK _ ?_ | refine hK _ _ ?_); clear hK K) | ((with_reducible refine AX_reg0 fun K hK => ?_); simp only [go_sem]))
          refine XRes_fn (by rfl) hA ?_
          rintro r H1 ⟨rfl, rfl⟩
          (simp only [putL, List.set_cons_succ, List.set_cons_zero])
          repeat (first | (first | (with_reducible first | refine AX_block ?_ | refine AX_skip ?_ | refine AX_exit ?_ | refine AX_ret ?_ | refine AX_ift ?_ | refine AX_iff ?_ | refine AX_seq_k (fun K hK => ?_) | refine ContX.use (by assumption) ?_) | simp only [thenX, inBlockX, if_true, if_false, reduceCtorEq]) | (first | ((first | (with_reducible refine XRes_op tyOK ?_ ?_) | ((with_reducible first | refine ADF_op tyOK ?_ ?_ ?_ | refine ADX_op tyOK ?_ ?_ ?_); (focus rfl)) | (with_reducible refine ADR_alloc1 tyOK ?_ ?_) | ((with_reducible refine ADR_free1 tyOK ?_ ?_ ?_); (focus rfl)) | ((with_reducible refine ADR_free0 tyOK ?_ ?_ ?_); (focus rfl)) | ((with_reducible refine ADR_read1 tyOK ?_ ?_ ?_); (focus rfl)) | (with_reducible refine ADR_chg1 tyOK ?_ ?_)); (focus (first | (with_reducible rfl) | ((simp (disch := omega) only [go_sem]); done))); simp (disch := omega) only [go_sem , hs1, hs2, hs3, hs4, hs5, Int.toNat_natCast, Nat.reduceEqDiff, List.length_map, List.length_cons, List.length_nil, ba_size]; (first | (with_reducible refine XRes_id ?_) | (with_reducible refine ADF_id ?_) | (with_reducible refine ADR_id1 ?_) | (with_reducible refine ADX_id ?_))) | ((first | (with_reducible refine XRes_skip ?_ ?_) | (with_reducible refine ADF_skip (b := true) ?_ ?_) | (with_reducible refine ADX_skip ?_ ?_) | ((with_reducible refine ADR_skip1 ?_ ?_ ?_); (focus rfl))); (focus (first | rfl | ((simp (disch := omega) only [go_sem]); done))); (simp only [putL, List.set_cons_succ, List.set_cons_zero]))) | ((first | (with_reducible refine XRes_nil ?_) | (with_reducible refine ADF_nil ?_) | (with_reducible refine ADR_nil ?_) | (with_reducible refine ADX_nil ?_)); (first | refine hK _ ?_ | refine hK _ _ ?_); clear hK K) | ((with_reducible refine AX_reg0 fun K hK => ?_); simp only [go_sem]))
          (simp only [bodyX]; refine ⟨_, by simp only [aresults, aresult, XS.as, Tryd.results8, aload, go_sem, Option.bind_some]; rfl, ?_⟩)
          exact ⟨_, Snap.tri snap_fmNil (.same _ (.iv _)) (.same _ (.iv _)), by rw [hp]; rfl, trivial⟩
        · have hs2 : decide ((k : Int) < (T.length : Int)) = false := decide_eq_false (by omega)
          rw [if_neg hk] at hp
          repeat (first | (first | (with_reducible first | refine AX_block ?_ | refine AX_skip ?_ | refine AX_exit ?_ | refine AX_ret ?_ | refine AX_ift ?_ | refine AX_iff ?_ | refine AX_seq_k (fun K hK => ?_) | refine ContX.use (by assumption) ?_) | simp only [thenX, inBlockX, if_true, if_false, reduceCtorEq]) | (first | ((first | (with_reducible refine XRes_op tyOK ?_ ?_) | ((with_reducible first | refine ADF_op tyOK ?_ ?_ ?_ | refine ADX_op tyOK ?_ ?_ ?_); (focus rfl)) | (with_reducible refine ADR_alloc1 tyOK ?_ ?_) | ((with_reducible refine ADR_free1 tyOK ?_ ?_ ?_); (focus rfl)) | ((with_reducible refine ADR_free0 tyOK ?_ ?_ ?_); (focus rfl)) | ((with_reducible refine ADR_read1 tyOK ?_ ?_ ?_); (focus rfl)) | (with_reducible refine ADR_chg1 tyOK ?_ ?_)); (focus (first | (with_reducible rfl) | ((simp (disch := omega) only [go_sem]); done))); simp (disch := omega) only [go_sem , hs1, hs2, hs3, hs4, hs5, Int.toNat_natCast, Nat.reduceEqDiff, List.length_map, List.length_cons, List.length_nil, ba_size]; (first | (with_reducible refine XRes_id ?_) | (with_reducible refine ADF_id ?_) | (with_reducible refine ADR_id1 ?_) | (with_reducible refine ADX_id ?_))) | ((first | (with_reducible refine XRes_skip ?_ ?_) | (with_reducible refine ADF_skip (b := true) ?_ ?_) | (with_reducible refine ADX_skip ?_ ?_) | ((with_reducible refine ADR_skip1 ?_ ?_ ?_); (focus rfl))); (focus (first | rfl | ((simp (disch := omega) only [go_sem]); done))); (simp only [putL, List.set_cons_succ, List.set_cons_zero]))) | ((first | (with_reducible refine XRes_nil ?_) | (with_reducible refine ADF_nil ?_) | (with_reducible refine ADR_nil ?_) | (with_reducible refine ADX_nil ?_)); (first | refine hK _ ?_ | refine hK _ _ ?_); clear hK K) | ((with_reducible refine AX_reg0 fun K hK => ?_); simp only [go_sem]))
          (simp only [bodyX]; refine ⟨_, by simp only [aresults, aresult, XS.as, Tryd.results8, aload, go_sem, Option.bind_some]; rfl, ?_⟩)
          exact ⟨_, Snap.tri (snap_fm (snapC_rwI rfl)) (.same _ (.iv _)) (.same _ (.iv _)), by rw [hp]; rfl, trivial⟩
      · have hp := hI.bad hf
        have hs4 : (f != 0) = true := by simpa using hf
        repeat (first | (first | (with_reducible first | refine AX_block ?_ | refine AX_skip ?_ | refine AX_exit ?_ | refine AX_ret ?_ | refine AX_ift ?_ | refine AX_iff ?_ | refine AX_seq_k (fun K hK => ?_) | refine ContX.use (by assumption) ?_) | simp only [thenX, inBlockX, if_true, if_false, reduceCtorEq]) | (first | ((first | (with_reducible refine XRes_op tyOK ?_ ?_) | ((with_reducible first | refine ADF_op tyOK ?_ ?_ ?_ | refine ADX_op tyOK ?_ ?_ ?_); (focus rfl)) | (with_reducible refine ADR_alloc1 tyOK ?_ ?_) | ((with_reducible refine ADR_free1 tyOK ?_ ?_ ?_); (focus rfl)) | ((with_reducible refine ADR_free0 tyOK ?_ ?_ ?_); (focus rfl)) | ((with_reducible refine ADR_read1 tyOK ?_ ?_ ?_); (focus rfl)) | (with_reducible refine ADR_chg1 tyOK ?_ ?_)); (focus (first | (with_reducible rfl) | ((simp (disch := omega) only [go_sem]); done))); simp (disch := omega) only [go_sem , hs1, hs2, hs3, hs4, hs5, Int.toNat_natCast, Nat.reduceEqDiff, List.length_map, List.length_cons, List.length_nil, ba_size]; (first | (with_reducible refine XRes_id ?_) | (with_reducible refine ADF_id ?_) | (with_reducible refine ADR_id1 ?_) | (with_reducible refine ADX_id ?_))) | ((first | (with_reducible refine XRes_skip ?_ ?_) | (with_reducible refine ADF_skip (b := true) ?_ ?_) | (with_reducible refine ADX_skip ?_ ?_) | ((with_reducible refine ADR_skip1 ?_ ?_ ?_); (focus rfl))); (focus (first | rfl | ((simp (disch := omega) only [go_sem]); done))); (simp only [putL, List.set_cons_succ, List.set_cons_zero]))) | ((first | (with_reducible refine XRes_nil ?_) | (with_reducible refine ADF_nil ?_) | (with_reducible refine ADR_nil ?_) | (with_reducible refine ADX_nil ?_)); (first | refine hK _ ?_ | refine hK _ _ ?_); clear hK K) | ((with_reducible refine AX_reg0 fun K hK => ?_); simp only [go_sem]))
        refine AX_drawLk (fun H => H[0]? = some (some ⟨53, [.osl 1 0 T.length 3, lt (.int .i64 k), lt (.int .i64 l.length), lt (.int .i64 f), lt (.int .i64 w)]⟩)) 8 [.free, .free, .free, .free, .free, .chg, .free, .free] [false, false, true, false, true, true, false, false] (by kernel_rfl) (by decide +kernel) (by decide +kernel) rfl fun K hK => ?_
        simp only [go_sem]
        repeat (first | (first | ((with_reducible refine ADL_free tyOK ?_ ?_ ?_); (focus rfl); (focus (first | (with_reducible rfl) | ((simp (disch := omega) only [go_sem]); done))); simp (disch := omega) only [go_sem , hs1, hs2, hs3, hs4, hs5, Int.toNat_natCast, Nat.reduceEqDiff, List.length_map, List.length_cons, List.length_nil, ba_size]; (with_reducible refine ADL_id ?_)) | ((refine ADL_look tyOK (by rfl) (by rfl) (fun H hS => by simp only [go_sem, hS]; rfl) ?_); (simp only [putL, List.set_cons_succ, List.set_cons_zero])) | ((with_reducible refine ADL_chg tyOK ?_ ?_ ?_); (focus (simp only [List.length_cons]; omega)); (focus (first | (with_reducible rfl) | ((simp (disch := omega) only [go_sem]); done))); simp (disch := omega) only [go_sem , hs1, hs2, hs3, hs4, hs5, Int.toNat_natCast, Nat.reduceEqDiff, List.length_map, List.length_cons, List.length_nil, ba_size]; (first | (refine ⟨(by decide), (fun hh => by first | trivial | rfl | cases hh), ?_⟩) | (refine ⟨(by decide), ?_⟩) | (refine ⟨(fun hh => by first | trivial | rfl | cases hh), ?_⟩) | skip); (with_reducible refine ADL_id ?_))) | ((refine ADL_nil ?_); (refine hK _ _ _ (by simp only [List.length_cons]; omega) ?_); clear hK K))
        repeat (first | (first | (with_reducible first | refine AX_block ?_ | refine AX_skip ?_ | refine AX_exit ?_ | refine AX_ret ?_ | refine AX_ift ?_ | refine AX_iff ?_ | refine AX_seq_k (fun K hK => ?_) | refine ContX.use (by assumption) ?_) | simp only [thenX, inBlockX, if_true, if_false, reduceCtorEq]) | (first | ((first | (with_reducible refine XRes_op tyOK ?_ ?_) | ((with_reducible first | refine ADF_op tyOK ?_ ?_ ?_ | refine ADX_op tyOK ?_ ?_ ?_); (focus rfl)) | (with_reducible refine ADR_alloc1 tyOK ?_ ?_) | ((with_reducible refine ADR_free1 tyOK ?_ ?_ ?_); (focus rfl)) | ((with_reducible refine ADR_free0 tyOK ?_ ?_ ?_); (focus rfl)) | ((with_reducible refine ADR_read1 tyOK ?_ ?_ ?_); (focus rfl)) | (with_reducible refine ADR_chg1 tyOK ?_ ?_)); (focus (first | (with_reducible rfl) | ((simp (disch := omega) only [go_sem]); done))); simp (disch := omega) only [go_sem , hs1, hs2, hs3, hs4, hs5, Int.toNat_natCast, Nat.reduceEqDiff, List.length_map, List.length_cons, List.length_nil, ba_size]; (first | (with_reducible refine XRes_id ?_) | (with_reducible refine ADF_id ?_) | (with_reducible refine ADR_id1 ?_) | (with_reducible refine ADX_id ?_))) | ((first | (with_reducible refine XRes_skip ?_ ?_) | (with_reducible refine ADF_skip (b := true) ?_ ?_) | (with_reducible refine ADX_skip ?_ ?_) | ((with_reducible refine ADR_skip1 ?_ ?_ ?_); (focus rfl))); (focus (first | rfl | ((simp (disch := omega) only [go_sem]); done))); (simp only [putL, List.set_cons_succ, List.set_cons_zero]))) | ((first | (with_reducible refine XRes_nil ?_) | (with_reducible refine ADF_nil ?_) | (with_reducible refine ADR_nil ?_) | (with_reducible refine ADX_nil ?_)); (first | refine hK _ ?_ | refine hK _ _ ?_); clear hK K) | ((with_reducible refine AX_reg0 fun K hK => ?_); simp only [go_sem]))
        (simp only [bodyX]; refine ⟨_, by simp only [aresults, aresult, XS.as, Tryd.results8, aload, go_sem, Option.bind_some]; rfl, ?_⟩)
        exact ⟨_, Snap.tri snap_fmNil (.same _ (.iv _)) (.same _ (.iv _)), by rw [hp]; rfl, trivial⟩
end Go.Proofs.YthgmjboldboclaaDoor
