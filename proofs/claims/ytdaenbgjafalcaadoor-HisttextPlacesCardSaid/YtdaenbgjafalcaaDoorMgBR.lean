import Derived.Test.YtdaenbgjafalcaaDoorMgBQ
import Derived.Test.YtdaenbgjafalcaaDoorMgBP
import Derived.Test.YtdaenbgjafalcaaDoorMgBI
import Derived.Test.YtdaenbgjafalcaaDoorMgBK
import Derived.Test.YtdaenbgjafalcaaDoorMgBD
namespace Go.Proofs.YtdaenbgjafalcaaDoor
open Go.RowKit Go.Lib
set_option linter.unusedVariables false
set_option linter.unusedSimpArgs false
theorem snap_cs {H : AHeap} {o : Ob} {es : List Ev3} {x : AV} (h : SnapC H x (iEvs es)) : Snap H (.agg [lt (.int .i64 o.S), lt (.int .i64 o.K), lt (.int .i64 o.I), .iv (iRws o.R), x]) (csA o es) := .agg _ _ rfl (fun i a b e1 e2 => by
  match i with
  | 0 => simp at e1 e2; subst e1 e2; exact .same _ (.iv _)
  | 1 => simp at e1 e2; subst e1 e2; exact .same _ (.iv _)
  | 2 => simp at e1 e2; subst e1 e2; exact .same _ (.iv _)
  | 3 => simp at e1 e2; subst e1 e2; exact .same _ (.iv _)
  | 4 => simp at e1 e2; subst e1 e2; exact .iv _ _ h
  | i + 5 => simp at e1) rfl
theorem snap_cs0 {H : AHeap} : Snap H (.agg [lt (.int .i64 0), lt (.int .i64 0), lt (.int .i64 0), lt (.slice none 0 0), lt (.slice none 0 0)]) (csA ob0 []) := .agg _ _ rfl (fun i a b e1 e2 => by
  match i with
  | 0 => simp at e1 e2; subst e1 e2; exact .same _ (.iv _)
  | 1 => simp at e1 e2; subst e1 e2; exact .same _ (.iv _)
  | 2 => simp at e1 e2; subst e1 e2; exact .same _ (.iv _)
  | 3 => simp at e1 e2; subst e1 e2; exact .iv _ _ (.nil _ _)
  | 4 => simp at e1 e2; subst e1 e2; exact .iv _ _ (.nil _ _)
  | i + 5 => simp at e1) rfl
theorem snapC_evs {H : AHeap} {o n : Nat} {t : TypeId} {es : List Ev3} (h : H[o]? = some (some ⟨t, (flatE es).map lint⟩)) (hn : n = es.length) : SnapC H (.osl o 0 n 3) (iEvs es) := by
  subst hn
  have hyf : (flatE es).length = es.length * 3 := flat_len (g := eFl) (fun _ => rfl) es
  exact .osl o 0 es.length 3 _ _ (fun j => lt (.int .i64 ((flatE es).getD j 0))) (by decide) h (fun j hj => by rw [Nat.zero_add]; exact lint_at (by omega)) fun j _ => .iv _
theorem sx_evO (Kd z : Int) (es : List Ev3) (T : List Tok3) (b n0 : Nat) (X Y : Option AObj) (hT : TokOK T) (hT0 : T.length ≠ 0) (hKd : 1 ≤ Kd ∧ Kd ≤ 64) (hes : es.length ≤ 100000) (hn0 : n0 ≤ 1000000) (hE : (evOne Kd z es T).2.2 = 0) :
    SX Tryd.prog 43 [.iv (iTokL T), .optr 1 0, .optr 2 0, .optr 3 0, .optr 4 0] [X, some ⟨3, [lt (.int .i64 Kd)]⟩, some ⟨3, [lt (.int .i64 z)]⟩, some ⟨99, [lt (.map (some b))]⟩, some ⟨3, [lt (.int .i64 (es.length : Int))]⟩, Y] [(b, n0, mInt (eOpn es es.length))] fun r H' M' => r = .tup [evA (evOne Kd z es T).1, lt (.int .i64 (evOne Kd z es T).2.1), lt (.int .i64 (evOne Kd z es T).2.2)] ∧ (∃ A B, H' = [X, some ⟨3, [lt (.int .i64 Kd)]⟩, some ⟨3, [lt (.int .i64 z)]⟩, some ⟨99, [lt (.map (some b))]⟩, some ⟨3, [lt (.int .i64 ((es.length : Int) + 1))]⟩, Y, A, B]) ∧ M' = [(b, n0 + 1, mInt (updF (eOpn es es.length) (evOne Kd z es T).1.p (evOne Kd z es T).1.w))] := by
  rcases (evOne_ok hE).1 with c1 | c1
  · exact sx_evCO Kd z es T b n0 X Y hT hT0 hKd hes hn0 c1 hE
  · exact sx_evRO Kd z es T b n0 X Y hT hT0 hKd hes hn0 c1 hE
theorem sx_evE (Kd z : Int) (es : List Ev3) (T : List Tok3) (b n0 : Nat) (X Y : Option AObj) (hT : TokOK T) (hT0 : T.length ≠ 0) (hKd : 1 ≤ Kd ∧ Kd ≤ 64) (hes : es.length ≤ 100000) (hn0 : n0 ≤ 1000000) (hE : (evOne Kd z es T).2.2 ≠ 0) :
    SX Tryd.prog 43 [.iv (iTokL T), .optr 1 0, .optr 2 0, .optr 3 0, .optr 4 0] [X, some ⟨3, [lt (.int .i64 Kd)]⟩, some ⟨3, [lt (.int .i64 z)]⟩, some ⟨99, [lt (.map (some b))]⟩, some ⟨3, [lt (.int .i64 (es.length : Int))]⟩, Y] [(b, n0, mInt (eOpn es es.length))] fun r H' M' => r = .tup [evA (evOne Kd z es T).1, lt (.int .i64 (evOne Kd z es T).2.1), lt (.int .i64 (evOne Kd z es T).2.2)] ∧ (∃ A B, H' = [X, some ⟨3, [lt (.int .i64 Kd)]⟩, some ⟨3, [lt (.int .i64 z)]⟩, some ⟨99, [lt (.map (some b))]⟩, some ⟨3, [lt (.int .i64 (es.length : Int))]⟩, Y, A, B]) ∧ M' = [(b, n0, mInt (eOpn es es.length))] := by
  by_cases c1 : (T.getD 0 tok0).2.2 = wCall
  · exact sx_evCE Kd z es T b n0 X Y hT hT0 hKd hes hn0 c1 hE
  · by_cases c2 : (T.getD 0 tok0).2.2 = wRet
    · exact sx_evRE Kd z es T b n0 X Y hT hT0 hKd hes hn0 c2 hE
    · exact sx_evNo Kd z es T b n0 X Y hT hT0 hKd c1 c2
set_option maxRecDepth 100000 in
set_option maxHeartbeats 8000000 in
theorem pf_hParseG (l : List UInt8) (hl : l.length ≤ 1000000) (hok : LsOK (lnsT l)) : PF Tryd.prog 8 [lt (.string (ba l))] fun r H' => r = .tup [csA (hpr l).1 (hpr l).2.1, lt (.int .i64 (hpr l).2.2.1), lt (.int .i64 (hpr l).2.2.2)] ∧ H' = [] := by
  refine SF.frozen ?_
  have hs1 := trivial; have hs2 := trivial; have hs3 := trivial; have hs4 := trivial; have hs5 := trivial; have hs6 := trivial; have hs7 := trivial; have hs8 := trivial; have hs9 := trivial; have hLn := trivial; have hTk := trivial; have hC := trivial; have hA := trivial
  have hLn := pf_LinesT l (by omega)
  have hTk := pf_Take (lnsT l) l.length hok
  have hs1 : decide ((1000000 : Int) < (l.length : Int)) = false := decide_eq_false (by omega)
  have hht := @hps_t (lnsT l) l.length
  have hhe := @hps_e (lnsT l) l.length
  have hho := @hps_o (lnsT l) l.length
  have hsm := @takeP_sm (lnsT l) l.length
  have hlk := takeP_ls (z := (l.length : Int)) hok
  have hrt := @takeP_rest (lnsT l) l.length
  have hlL := hok.len
  unfold hpr
  generalize hps (lnsT l) l.length = P at *
  generalize lnsT l = L at *
  generalize takeP L l.length = q at *
  obtain ⟨⟨S, Kd, I, R⟩, rest, at1, e⟩ := q
  dsimp only at *
  unfold obA at hTk
  dsimp only at hTk
  by_cases he : e = 0
  · subst he
    have hrt := hrt rfl
    obtain ⟨a1, _, _, _, _, _⟩ := hsm rfl
    have hKd : 1 ≤ Kd ∧ Kd ≤ 64 := by have := (obE_zero.1 a1).1; unfold obHead at this; dsimp only at this; omega
    have hs2 : iLs rest = .sl (fun j => iTokL (rest.getD j [])) rest.length 1 := rfl
    have hC := sx_events Kd l.length (some ⟨28, [lt (.int .i64 S), lt (.int .i64 Kd), lt (.int .i64 I), .iv (iRws R), lt (.slice none 0 0)]⟩)
    (refine SF_of_bodyX (aload tt) (aload_ok tyOK) Tryd.func8 rfl (by kernel_rfl) ?_; simp only [Tryd.ntmps8, List.length_cons, List.length_nil, Nat.reduceAdd, Nat.reduceSub, List.replicate_succ, List.replicate_zero, List.cons_append, List.nil_append])
    (repeat (first | (first | (with_reducible first | refine AX_block ?_ | refine AX_skip ?_ | refine AX_exit ?_ | refine AX_ret ?_ | refine AX_ift ?_ | refine AX_iff ?_ | refine AX_seq_k (fun K hK => ?_) | refine ContX.use (by assumption) ?_) | simp only [thenX, inBlockX, if_true, if_false, reduceCtorEq]) | (first | ((with_reducible refine XOP tyOK ?_); simp (disch := omega) only [go_sem , hs1, hs2, hs3, hs4, hs5, hs6, hs7, hs8, hs9, Int.toNat_zero, Int.toNat_one, Int.toNat_natCast, List.length_nil, List.length_cons, ba_size]; (with_reducible refine XRes_id ?_)) | (with_reducible refine XSK ?_)) | ((with_reducible refine XRes_nil ?_); refine hK _ ?_; clear hK K) | (first | (first | refine XTL (by rfl) hLn ?_ | refine XTL (by rfl) hTk ?_) | ((refine XRes_fnX (by rfl) hC ?_); (rintro r H' M' ⟨b, rfl, rfl, rfl⟩); (simp only [putL, List.set_cons_succ, List.set_cons_zero])) | ((refine XRes_callvX (by rfl) (by rfl) hA ?_); (rintro r H' M' ⟨rfl, ⟨AA, BB, rfl⟩, rfl⟩); (simp only [putL, List.set_cons_succ, List.set_cons_zero]))) | ((with_reducible refine AX_reg0 fun K hK => ?_); simp only [go_sem])))
    refine AX_cellNew 0 51 3 4 _ rfl rfl ?_
    simp only [List.length_cons, List.length_nil, List.cons_append, List.nil_append, Nat.zero_add, Nat.reduceAdd, List.set_cons_succ, List.set_cons_zero]
    have hinit : (flatE []).map lint = [] := rfl
    have heo : (fun _ => none : Int → Option Int) = eOpn [] ([] : List Ev3).length := rfl
    rw [heo]
    generalize hG : evsGo Kd l.length rest [] = G at *
    (refine AX_wh (σ := Nat × List Ev3) [41, 42, 43, 8, 44, 45, 46, 48, 49, 50, 47, 51, 52, 53, 9, 10, 11, 54, 55, 56, 57, 58, 3, 4, 59, 60, 61, 62, 63, 64, 65] (fun (i, es) => [(40, lint i)]) (fun (i, es) => [some ⟨28, [lt (.int .i64 S), lt (.int .i64 Kd), lt (.int .i64 I), .iv (iRws R), .osl 5 0 es.length 3]⟩, some ⟨3, [lt (.int .i64 Kd)]⟩, some ⟨3, [lt (.int .i64 (l.length : Int))]⟩, some ⟨99, [lt (.map (some b))]⟩, some ⟨3, [lt (.int .i64 (es.length : Int))]⟩, some ⟨51, (flatE es).map lint⟩]) (fun (i, es) => [(b, es.length, mInt (eOpn es es.length))]) (fun (i, es) => i ≤ rest.length ∧ G = evsGo Kd l.length (rest.drop i) es ∧ es.length ≤ i) (fun (i, es) => rest.length - i) (0, []) (fun d => by first | ((simp only [deadS, updS, List.set_cons_succ, List.set_cons_zero, lint, List.length_nil, List.length_cons]); done) | ((simp only [deadS, updS, List.set_cons_succ, List.set_cons_zero, lint, List.length_nil, List.length_cons]); rfl) | rfl) (by first | (with_reducible rfl) | (simp only [hinit]; done) | rfl) (by first | (with_reducible rfl) | rfl) (by first | exact ⟨Nat.zero_le _, hG.symm, by simp⟩) ?_; rintro ⟨i, es⟩ d fr hfr ⟨hi, hgo, hlen⟩; simp only [updS, deadS, List.set_cons_succ, List.set_cons_zero, lint] at hfr; subst hfr; (try dsimp only))
    by_cases hlt : i < rest.length
    · have hs3 : decide ((i : Int) < (rest.length : Int)) = true := decide_eq_true (by omega)
      have hTi := hlk.get i
      have hdr : rest.drop i = rest.getD i [] :: rest.drop (i + 1) := by
        rw [List.drop_eq_getElem_cons hlt, List.getD_eq_getElem?_getD, List.getElem?_eq_getElem hlt]; rfl
      rw [hdr] at hgo
      by_cases h0 : (rest.getD i []).length = 0
      · rw [evsGo_nil h0] at hgo
        have hs4 : iTokL (rest.getD i []) = .sl (fun j => .lit ((tokL (rest.getD i [])).getD j undef)) (rest.getD i []).length 3 := rfl
        have hs5 : (((rest.getD i []).length : Int) == 0) = true := by rw [beq_iff_eq]; omega
        (repeat (first | (first | (with_reducible first | refine AX_block ?_ | refine AX_skip ?_ | refine AX_exit ?_ | refine AX_ret ?_ | refine AX_ift ?_ | refine AX_iff ?_ | refine AX_seq_k (fun K hK => ?_) | refine ContX.use (by assumption) ?_) | simp only [thenX, inBlockX, if_true, if_false, reduceCtorEq]) | (first | ((with_reducible refine XOP tyOK ?_); simp (disch := omega) only [go_sem , hs1, hs2, hs3, hs4, hs5, hs6, hs7, hs8, hs9, Int.toNat_zero, Int.toNat_one, Int.toNat_natCast, List.length_nil, List.length_cons, ba_size]; (with_reducible refine XRes_id ?_)) | (with_reducible refine XSK ?_)) | ((with_reducible refine XRes_nil ?_); refine hK _ ?_; clear hK K) | (first | (first | refine XTL (by rfl) hLn ?_ | refine XTL (by rfl) hTk ?_) | ((refine XRes_fnX (by rfl) hC ?_); (rintro r H' M' ⟨b, rfl, rfl, rfl⟩); (simp only [putL, List.set_cons_succ, List.set_cons_zero])) | ((refine XRes_callvX (by rfl) (by rfl) hA ?_); (rintro r H' M' ⟨rfl, ⟨AA, BB, rfl⟩, rfl⟩); (simp only [putL, List.set_cons_succ, List.set_cons_zero]))) | ((with_reducible refine AX_reg0 fun K hK => ?_); simp only [go_sem])))
        exact whx_end (i + 1, es) ⟨by omega, hgo, by dsimp only; omega⟩ (by dsimp only; omega) rfl rfl (fun d => by first | ((simp (disch := omega) only [go_sem, lint , hs1, hs2, hs3, hs4, hs5, hs6, hs7, hs8, hs9, Int.toNat_zero, Int.toNat_one, Int.toNat_natCast, List.length_nil, List.length_cons, ba_size]); done) | ((simp (disch := omega) only [go_sem, lint , hs1, hs2, hs3, hs4, hs5, hs6, hs7, hs8, hs9, Int.toNat_zero, Int.toNat_one, Int.toNat_natCast, List.length_nil, List.length_cons, ba_size]); rfl))
      · have hs5 : (((rest.getD i []).length : Int) == 0) = false := by simpa using h0
        have hyf : (flatE es).length = es.length * 3 := flat_len (g := eFl) (fun _ => rfl) es
        by_cases he : (evOne Kd l.length es (rest.getD i [])).2.2 = 0
        · rw [evsGo_ok h0 he] at hgo
          have hA := sx_evO Kd l.length es (rest.getD i []) b es.length (some ⟨28, [lt (.int .i64 S), lt (.int .i64 Kd), lt (.int .i64 I), .iv (iRws R), .osl 5 0 es.length 3]⟩) (some ⟨51, (flatE es).map lint⟩) hTi h0 hKd (by omega) (by omega) he
          have hop := eOpn_new es (evOne Kd l.length es (rest.getD i [])).1
          rw [← hop] at hA
          have hs4 : iTokL (rest.getD i []) = .sl (fun j => .lit ((tokL (rest.getD i [])).getD j undef)) (rest.getD i []).length 3 := rfl
          rw [hs4] at hA
          generalize evOne Kd l.length es (rest.getD i []) = q at *
          obtain ⟨⟨w, p, n⟩, a, e⟩ := q
          dsimp only at he hA hgo hop
          subst he
          unfold evA at hA
          dsimp only at hA
          (repeat (first | (first | (with_reducible first | refine AX_block ?_ | refine AX_skip ?_ | refine AX_exit ?_ | refine AX_ret ?_ | refine AX_ift ?_ | refine AX_iff ?_ | refine AX_seq_k (fun K hK => ?_) | refine ContX.use (by assumption) ?_) | simp only [thenX, inBlockX, if_true, if_false, reduceCtorEq]) | (first | ((with_reducible refine XOP tyOK ?_); simp (disch := omega) only [go_sem , hs1, hs2, hs3, hs4, hs5, hs6, hs7, hs8, hs9, Int.toNat_zero, Int.toNat_one, Int.toNat_natCast, List.length_nil, List.length_cons, ba_size]; (with_reducible refine XRes_id ?_)) | (with_reducible refine XSK ?_)) | ((with_reducible refine XRes_nil ?_); refine hK _ ?_; clear hK K) | (first | (first | refine XTL (by rfl) hLn ?_ | refine XTL (by rfl) hTk ?_) | ((refine XRes_fnX (by rfl) hC ?_); (rintro r H' M' ⟨b, rfl, rfl, rfl⟩); (simp only [putL, List.set_cons_succ, List.set_cons_zero])) | ((refine XRes_callvX (by rfl) (by rfl) hA ?_); (rintro r H' M' ⟨rfl, ⟨AA, BB, rfl⟩, rfl⟩); (simp only [putL, List.set_cons_succ, List.set_cons_zero]))) | ((with_reducible refine AX_reg0 fun K hK => ?_); simp only [go_sem])))
          have hfa := flatE_app es ⟨w, p, n⟩
          have hl1 : (es ++ [(⟨w, p, n⟩ : Ev3)]).length = es.length + 1 := by simp
          have hcast : ((es.length + 1 : Nat) : Int) = (es.length : Int) + 1 := by omega
          refine whx_ren [0, 1, 2, 3, 4, 10] (i + 1, es ++ [⟨w, p, n⟩]) ⟨by omega, hgo, by rw [List.length_append, List.length_singleton]; omega⟩ (by dsimp only; omega) ?_ (by decide) (by decide) (by (simp (disch := omega) only [go_sem, lint , hs1, hs2, hs3, hs4, hs5, hs6, hs7, hs8, hs9, Int.toNat_zero, Int.toNat_one, Int.toNat_natCast, List.length_nil, List.length_cons, ba_size])) (by (simp (disch := omega) only [go_sem, lint , hs1, hs2, hs3, hs4, hs5, hs6, hs7, hs8, hs9, Int.toNat_zero, Int.toNat_one, Int.toNat_natCast, List.length_nil, List.length_cons, ba_size])) ?_ (fun d => by first | ((simp (disch := omega) only [go_sem, lint , hs1, hs2, hs3, hs4, hs5, hs6, hs7, hs8, hs9, Int.toNat_zero, Int.toNat_one, Int.toNat_natCast, List.length_nil, List.length_cons, ba_size]); done) | ((simp (disch := omega) only [go_sem, lint , hs1, hs2, hs3, hs4, hs5, hs6, hs7, hs8, hs9, Int.toNat_zero, Int.toNat_one, Int.toNat_natCast, List.length_nil, List.length_cons, ba_size]); rfl))
          · dsimp only
            rw [hl1]
          · dsimp only
            rw [hfa, hl1, hcast]
            (simp (disch := omega) only [go_sem, lint , hs1, hs2, hs3, hs4, hs5, hs6, hs7, hs8, hs9, Int.toNat_zero, Int.toNat_one, Int.toNat_natCast, List.length_nil, List.length_cons, ba_size])
        · rw [evsGo_bad h0 he] at hgo
          have hhe := hhe rfl
          rw [hgo] at hhe
          have hhe := hhe he
          have hA := sx_evE Kd l.length es (rest.getD i []) b es.length (some ⟨28, [lt (.int .i64 S), lt (.int .i64 Kd), lt (.int .i64 I), .iv (iRws R), .osl 5 0 es.length 3]⟩) (some ⟨51, (flatE es).map lint⟩) hTi h0 hKd (by omega) (by omega) he
          have hs4 : iTokL (rest.getD i []) = .sl (fun j => .lit ((tokL (rest.getD i [])).getD j undef)) (rest.getD i []).length 3 := rfl
          rw [hs4] at hA
          generalize evOne Kd l.length es (rest.getD i []) = q at *
          obtain ⟨⟨w, p, n⟩, a, e⟩ := q
          dsimp only at he hA hhe
          have hs6 : (e != 0) = true := by simpa using he
          unfold evA at hA
          dsimp only at hA
          (repeat (first | (first | (with_reducible first | refine AX_block ?_ | refine AX_skip ?_ | refine AX_exit ?_ | refine AX_ret ?_ | refine AX_ift ?_ | refine AX_iff ?_ | refine AX_seq_k (fun K hK => ?_) | refine ContX.use (by assumption) ?_) | simp only [thenX, inBlockX, if_true, if_false, reduceCtorEq]) | (first | ((with_reducible refine XOP tyOK ?_); simp (disch := omega) only [go_sem , hs1, hs2, hs3, hs4, hs5, hs6, hs7, hs8, hs9, Int.toNat_zero, Int.toNat_one, Int.toNat_natCast, List.length_nil, List.length_cons, ba_size]; (with_reducible refine XRes_id ?_)) | (with_reducible refine XSK ?_)) | ((with_reducible refine XRes_nil ?_); refine hK _ ?_; clear hK K) | (first | (first | refine XTL (by rfl) hLn ?_ | refine XTL (by rfl) hTk ?_) | ((refine XRes_fnX (by rfl) hC ?_); (rintro r H' M' ⟨b, rfl, rfl, rfl⟩); (simp only [putL, List.set_cons_succ, List.set_cons_zero])) | ((refine XRes_callvX (by rfl) (by rfl) hA ?_); (rintro r H' M' ⟨rfl, ⟨AA, BB, rfl⟩, rfl⟩); (simp only [putL, List.set_cons_succ, List.set_cons_zero]))) | ((with_reducible refine AX_reg0 fun K hK => ?_); simp only [go_sem])))
          (simp only [bodyX]; refine ⟨_, by simp only [aresults, aresult, XS.as, Tryd.results8, aload, go_sem, Option.bind_some]; rfl, ?_⟩)
          exact ⟨_, Snap.tri snap_cs0 (.same _ (.iv _)) (.same _ (.iv _)), by rw [hhe], trivial⟩
    · obtain rfl : i = rest.length := by omega
      rw [List.drop_length] at hgo
      have hgo : G = (es, (l.length : Int), 0) := hgo
      have hho := hho rfl (by rw [hgo])
      have hs3 : decide ((rest.length : Int) < (rest.length : Int)) = false := decide_eq_false (by omega)
      (repeat (first | (first | (with_reducible first | refine AX_block ?_ | refine AX_skip ?_ | refine AX_exit ?_ | refine AX_ret ?_ | refine AX_ift ?_ | refine AX_iff ?_ | refine AX_seq_k (fun K hK => ?_) | refine ContX.use (by assumption) ?_) | simp only [thenX, inBlockX, if_true, if_false, reduceCtorEq]) | (first | ((with_reducible refine XOP tyOK ?_); simp (disch := omega) only [go_sem , hs1, hs2, hs3, hs4, hs5, hs6, hs7, hs8, hs9, Int.toNat_zero, Int.toNat_one, Int.toNat_natCast, List.length_nil, List.length_cons, ba_size]; (with_reducible refine XRes_id ?_)) | (with_reducible refine XSK ?_)) | ((with_reducible refine XRes_nil ?_); refine hK _ ?_; clear hK K) | (first | (first | refine XTL (by rfl) hLn ?_ | refine XTL (by rfl) hTk ?_) | ((refine XRes_fnX (by rfl) hC ?_); (rintro r H' M' ⟨b, rfl, rfl, rfl⟩); (simp only [putL, List.set_cons_succ, List.set_cons_zero])) | ((refine XRes_callvX (by rfl) (by rfl) hA ?_); (rintro r H' M' ⟨rfl, ⟨AA, BB, rfl⟩, rfl⟩); (simp only [putL, List.set_cons_succ, List.set_cons_zero]))) | ((with_reducible refine AX_reg0 fun K hK => ?_); simp only [go_sem])))
      (simp only [bodyX]; refine ⟨_, by simp only [aresults, aresult, XS.as, Tryd.results8, aload, go_sem, Option.bind_some]; rfl, ?_⟩)
      exact ⟨_, Snap.tri (snap_cs (o := ⟨S, Kd, I, R⟩) (snapC_evs rfl rfl)) (.same _ (.iv _)) (.same _ (.iv _)), by rw [hho, hgo], trivial⟩
  · have hht := hht he
    have hs2 : (e != 0) = true := by simpa using he
    (refine SF_of_bodyX (aload tt) (aload_ok tyOK) Tryd.func8 rfl (by kernel_rfl) ?_; simp only [Tryd.ntmps8, List.length_cons, List.length_nil, Nat.reduceAdd, Nat.reduceSub, List.replicate_succ, List.replicate_zero, List.cons_append, List.nil_append])
    (repeat (first | (first | (with_reducible first | refine AX_block ?_ | refine AX_skip ?_ | refine AX_exit ?_ | refine AX_ret ?_ | refine AX_ift ?_ | refine AX_iff ?_ | refine AX_seq_k (fun K hK => ?_) | refine ContX.use (by assumption) ?_) | simp only [thenX, inBlockX, if_true, if_false, reduceCtorEq]) | (first | ((with_reducible refine XOP tyOK ?_); simp (disch := omega) only [go_sem , hs1, hs2, hs3, hs4, hs5, hs6, hs7, hs8, hs9, Int.toNat_zero, Int.toNat_one, Int.toNat_natCast, List.length_nil, List.length_cons, ba_size]; (with_reducible refine XRes_id ?_)) | (with_reducible refine XSK ?_)) | ((with_reducible refine XRes_nil ?_); refine hK _ ?_; clear hK K) | (first | (first | refine XTL (by rfl) hLn ?_ | refine XTL (by rfl) hTk ?_) | ((refine XRes_fnX (by rfl) hC ?_); (rintro r H' M' ⟨b, rfl, rfl, rfl⟩); (simp only [putL, List.set_cons_succ, List.set_cons_zero])) | ((refine XRes_callvX (by rfl) (by rfl) hA ?_); (rintro r H' M' ⟨rfl, ⟨AA, BB, rfl⟩, rfl⟩); (simp only [putL, List.set_cons_succ, List.set_cons_zero]))) | ((with_reducible refine AX_reg0 fun K hK => ?_); simp only [go_sem])))
    (simp only [bodyX]; refine ⟨_, by simp only [aresults, aresult, XS.as, Tryd.results8, aload, go_sem, Option.bind_some]; rfl, ?_⟩)
    exact ⟨_, Snap.tri snap_cs0 (.same _ (.iv _)) (.same _ (.iv _)), by rw [hht], trivial⟩
end Go.Proofs.YtdaenbgjafalcaaDoor
namespace Go.Proofs.YtdaenbgjafalcaaDoor
open Go.RowKit Go.Lib
set_option linter.unusedVariables false
set_option linter.unusedSimpArgs false
theorem ADL_litI {P : Program} {tt : TT} {m : Nat} {S : AHeap → Prop} {H0 H : AHeap} {M : MS} {K : List AV → AHeap → MS → Prop} {fr : List AV} {l : List Oper} {al : List Kd} {fl : List Bool} (hT : TyOK P tt) (xs : List Int) {d : Option Tmp} {t n : Nat} {ps : Array (Nat × Operand)} {ty : TypeId} {pos : String} {after : Array Edge} {g : Option (Nat × Bool)} (hw : wantedS fr ⟨d, .buildSlice t n ps, ty, pos, after, g⟩ = some true)
    {e : TypeId} (ha : abuildSlice tt [] t n (ps.toList.map fun p => (p.1, AS.ev ⟨fr, H⟩ p.2)) = some (.osl 0 0 xs.length 1, [some ⟨e, xs.map lint⟩]))
    (h : ADL P m S H0 K (l, al, fl, putL fr d (.iv (iInts xs)), H, M)) : ADL P m S H0 K (⟨d, .buildSlice t n ps, ty, pos, after, g⟩ :: l, .free :: al, false :: fl, fr, H, M) := by
  obtain ⟨len', sz', e1, e2⟩ := abuildSlice_at ha
  cases e1
  refine ADL_lit hT (iInts xs) hw (fun H1 => ⟨.osl H1.length 0 xs.length 1, ⟨e, xs.map lint⟩, ?_, SnapC.lits (obj := ⟨e, xs.map lint⟩) (fun j => .int .i64 (xs.getD j 0)) (only_mk (by simp) (by simp)) fun j hj => by rw [Nat.zero_add]; exact lint_at hj⟩) h
  have e : (ps.toList.map fun p => (p.1, AS.ev ⟨fr, H1⟩ p.2)) = ps.toList.map fun p => (p.1, AS.ev ⟨fr, H⟩ p.2) := List.map_congr_left fun y _ => by obtain ⟨a, b⟩ := y; cases b <;> rfl
  simp only [aop]
  rw [e]; exact e2 H1
theorem W6ce2a {A B : Prop} (h9 : B) (w : B → A := by (intro h9; (repeat intro K hK); refine ⟨?_⟩; (repeat (first | (first | (with_reducible first | refine AX_block ?_ | refine AX_skip ?_ | refine AX_exit ?_ | refine AX_ret ?_ | refine AX_ift ?_ | refine AX_iff ?_ | refine AX_seq_k (fun K hK => ?_) | refine ContX.use (by assumption) ?_) | simp only [thenX, inBlockX, if_true, if_false, reduceCtorEq]) | ((first | (refine XRes_litF tyOK (by rfl) rfl (by decide) rfl rfl ?_) | (refine ADF_litF tyOK (by rfl) rfl (by decide) rfl rfl ?_)); (simp only [List.map_cons, List.map_nil, intOf, putL, List.set_cons_succ, List.set_cons_zero])) | (first | ((with_reducible refine XOP tyOK ?_); simp (disch := omega) only [go_sem , hs1, hs2, hs3, hs4, hs5, hs6, hs7, hs8, hs9, Int.toNat_zero, Int.toNat_one, Int.toNat_natCast, ba_size, ba_app, List.length_append, List.length_nil, List.length_cons, Nat.reduceAdd, flatE_w, flatE_p, flatE_n, Nat.zero_add]; (with_reducible refine XRes_id ?_)) | (with_reducible refine XSK ?_)) | ((with_reducible refine XRes_nil ?_); refine hK _ ?_; clear hK K) | (first | (first | refine XTL (by rfl) hk ?_ | refine ATL tyOK (by rfl) hk ?_ | refine XTL (by rfl) hO ?_ | refine ATL tyOK (by rfl) hO ?_ | refine XTL (by rfl) hW2 ?_ | refine ATL tyOK (by rfl) hW2 ?_ | refine XTL (by rfl) hS1 ?_ | refine ATL tyOK (by rfl) hS1 ?_ | refine XTL (by rfl) hS2 ?_ | refine ATL tyOK (by rfl) hS2 ?_)) | ((with_reducible refine AX_reg0 fun K hK => ?_); simp only [go_sem]) | ((refine AX_drawG1 tyOK (by kernel_rfl) (by rfl) (by kernel_rfl) fun K hK => ?_); (first | simp only [go_sem, preN, effOp, runF, alM, mapOp, alD2, kdOf2, Bool.not_false, Bool.not_true, reduceCtorEq] | simp only [go_sem, preN, effOp, runF, alM, mapOp, Bool.not_false, Bool.not_true, reduceCtorEq] | simp only [go_sem, preN, effOp, runF, alD2, kdOf2, Bool.not_false, Bool.not_true, reduceCtorEq] | simp only [go_sem, alD2, kdOf2, Bool.not_false, Bool.not_true, reduceCtorEq] | simp only [go_sem, preN, effOp, runF, Bool.not_false, Bool.not_true, reduceCtorEq] | simp only [go_sem])))); refine Wk.o ?_; (repeat revert hK K); exact h9)) : A := w h9
theorem W6ce2b {A B : Prop} (h9 : B) (w : B → A := by (intro h9; (repeat intro K hK); refine ⟨?_⟩; (repeat (first | (first | ((refine ADL_tellF (by rfl) hW2 (by exact idsA (by rfl)) (fun _ => rfl) ?_); (simp only [putL, List.set_cons_succ, List.set_cons_zero])) | ((refine ADL_litI tyOK [(evAt es k).p, (evAt es k).n] (by rfl) (by rfl) ?_); (simp only [putL, List.set_cons_succ, List.set_cons_zero])) | ((with_reducible refine ADL_free tyOK ?_ ?_ ?_); (focus rfl); (focus (first | (with_reducible rfl) | ((simp (disch := omega) only [go_sem]); done))); simp (disch := omega) only [go_sem , hs1, hs2, hs3, hs4, hs5, hs6, hs7, hs8, hs9, Int.toNat_zero, Int.toNat_one, Int.toNat_natCast, ba_size, ba_app, List.length_append, List.length_nil, List.length_cons, Nat.reduceAdd, flatE_w, flatE_p, flatE_n, Nat.zero_add]; (with_reducible refine ADL_id ?_)) | ((refine ADL_look tyOK (by rfl) (by rfl) (fun H hS => by first | (simp only [go_sem, hS , hs1, hs2, hs3, hs4, hs5, hs6, hs7, hs8, hs9, Int.toNat_zero, Int.toNat_one, Int.toNat_natCast, ba_size, ba_app, List.length_append, List.length_nil, List.length_cons, Nat.reduceAdd, flatE_w, flatE_p, flatE_n, Nat.zero_add]; rfl) | (simp (disch := omega) only [go_sem , hs1, hs2, hs3, hs4, hs5, hs6, hs7, hs8, hs9, Int.toNat_zero, Int.toNat_one, Int.toNat_natCast, ba_size, ba_app, List.length_append, List.length_nil, List.length_cons, Nat.reduceAdd, flatE_w, flatE_p, flatE_n, Nat.zero_add]; rfl)) ?_); (simp only [putL, List.set_cons_succ, List.set_cons_zero]))) | ((refine ADL_nil ?_); (refine hK _ _ _ (Nat.le_of_ble_eq_true rfl) ?_); clear hK K))); refine Wk.o ?_; (repeat revert hK K); exact h9)) : A := w h9
set_option maxRecDepth 100000 in
set_option maxHeartbeats 8000000 in
theorem pf_rhPrint (o : Ob) (es : List Ev3) (h : CsSm o es) (hk : PF Tryd.prog 15 [obA o, .iv (iEvs es)] fun r H' => r = lt (.int .i64 (hChk o es)) ∧ H' = []) (hO0 : PF Tryd.prog 30 [obA o] fun r H' => r = .tup [lt (.string (ba (obB o))), lt (.int .i64 0)] ∧ H' = []) : PF Tryd.prog 13 [obA o, .iv (iEvs es)] fun r H' => r = .tup [lt (.string (ba (caseB o es))), lt (.int .i64 0)] ∧ H' = [] := by
  refine SF.forgetAll ?_
  have hk0 := hk
  have hs1 := trivial; have hs2 := trivial; have hs3 := trivial; have hs4 := trivial; have hs5 := trivial; have hs6 := trivial; have hs7 := trivial; have hs8 := trivial; have hs9 := trivial; have hk := trivial; have hO := trivial; have hW2 := trivial; have hS1 := trivial; have hS2 := trivial
  have hk := hk0
  have hO := hO0
  rw [h.chk] at hk
  have htot := h.tot
  have hlen := h.len
  have hkin := h.kin
  have hone := fun k (hk : k < es.length) => h.evs.one h.kin.2 hk
  have hbl := fun x hx => evB_len h.kin.2 h.evs (x := x) hx
  have htx := evs_txt h.kin.2 h.evs
  have hcb : caseB o es = obB o ++ es.flatMap evB := rfl
  rw [hcb]
  clear h hk0 hO0 hcb
  have hs5 : (⟨#[99, 97, 108, 108]⟩ : ByteArray) = ba wCall := rfl
  have hs6 : (⟨#[114, 101, 116]⟩ : ByteArray) = ba wRet := rfl
  generalize obB o = hb at *
  obtain ⟨S, Kn, I, R⟩ := o
  unfold obA iEvs iFlat at *
  dsimp only at *
  have hhb : hb.length ≤ 1000000 := by omega
  (refine SF_of_bodyX (aload tt) (aload_ok tyOK) Tryd.func13 rfl (by kernel_rfl) ?_; simp only [Tryd.ntmps13, List.length_cons, List.length_nil, Nat.reduceAdd, Nat.reduceSub, List.replicate_succ, List.replicate_zero, List.cons_append, List.nil_append])
  (refine Wk.o ?_; (repeat revert hK K); refine W6ce2a ?_; (repeat intro K hK); refine ⟨?_⟩)
  (refine AWH (σ := Nat × List UInt8) [22, 23, 24, 25, 10, 28, 29, 30, 31, 32, 33, 34, 35, 36, 37, 38, 39, 40, 41, 42, 43, 44, 45, 46, 47, 48, 26, 27] (fun (k, x) => [(9, lint k), (7, lt (.string (ba x)))]) (fun (k, x) => [some ⟨25, [lt (.int .i64 S), lt (.int .i64 Kn), lt (.int .i64 I), .iv (iRws R)]⟩]) (fun (k, x) => []) (fun (k, x) => k ≤ es.length ∧ x = hb ++ (es.take k).flatMap evB) (fun (k, x) => es.length - k) (0, hb) (by first | exact ⟨Nat.zero_le _, by simp⟩) ?_; rintro ⟨k, x⟩ d fr hfr ⟨hk2, hx0⟩; simp only [updS, deadS, List.set_cons_succ, List.set_cons_zero, lint] at hfr; subst hfr; (try dsimp only))
  have hxl : x.length ≤ hb.length + k * 200 := by rw [hx0, List.length_append]; have := htx k hk2; omega
  by_cases hlt : k < es.length
  · have hst := flat_step evB ev0 hlt
    obtain ⟨r1, r2, r3, r4, _⟩ := hone k hlt
    have hfp : Fit (evAt es k).p := ⟨by omega, by omega⟩
    have hfn : Fit (evAt es k).n := by
      rcases r1 with r1 | r1
      · have := r3 r1; exact ⟨by omega, by omega⟩
      · have := r4 r1; exact ⟨by omega, by omega⟩
    have hwd := (evWd_ok (evAt es k)).2.2.2
    have hW2 := pf_rWords (evWd (evAt es k)) [(evAt es k).p, (evAt es k).n] hwd (by simp) (fun y hy => by
      simp only [List.mem_cons, List.not_mem_nil, or_false] at hy
      rcases hy with rfl | rfl <;> assumption)
    have hnew : x ++ lineB (evWd (evAt es k)) [(evAt es k).p, (evAt es k).n] = hb ++ (es.take (k + 1)).flatMap evB := by rw [hst, hx0, List.append_assoc]; rfl
    have hll := hbl (evAt es k) (by unfold evAt; rw [List.getD_eq_getElem?_getD, List.getElem?_eq_getElem hlt]; exact List.getElem_mem hlt)
    have hll : (lineB (evWd (evAt es k)) [(evAt es k).p, (evAt es k).n]).length ≤ 200 := hll
    generalize lineB (evWd (evAt es k)) [(evAt es k).p, (evAt es k).n] = y at *
    by_cases hw : (evAt es k).w = 2
    · have hs7 : ((evAt es k).w == 1) = false := by simp [hw]
      rw [show evWd (evAt es k) = wRet by unfold evWd; rw [if_pos hw]] at hW2
      (refine Wk.o ?_; (repeat revert hK K); refine W6ce2a ?_; (repeat intro K hK); refine ⟨?_⟩)
      ((refine AX_drawLk (fun _ => True) 16 [.free, .free, .free, .free, .free, .free, .free, .free, .free, .free, .free, .free, .free, .free, .free, .free] [false, false, false, false, false, false, true, false, false, false, false, true, false, false, false, false] (by kernel_rfl) (by decide +kernel) (by decide +kernel) trivial fun K hK => ?_); (simp only [go_sem]); (refine Wk.o ?_; (repeat revert hK K); refine W6ce2b ?_; (repeat intro K hK); refine ⟨?_⟩))
      (refine Wk.o ?_; (repeat revert hK K); refine W6ce2a ?_; (repeat intro K hK); refine ⟨?_⟩)
      exact whx_ren [0] (k + 1, x ++ y) ⟨by dsimp only; omega, hnew⟩ (by dsimp only; omega) rfl (by decide) (by decide) (by (simp (disch := omega) only [go_sem, lint , hs1, hs2, hs3, hs4, hs5, hs6, hs7, hs8, hs9, Int.toNat_zero, Int.toNat_one, Int.toNat_natCast, ba_size, ba_app, List.length_append, List.length_nil, List.length_cons, Nat.reduceAdd, flatE_w, flatE_p, flatE_n, Nat.zero_add])) (by (simp (disch := omega) only [go_sem, lint , hs1, hs2, hs3, hs4, hs5, hs6, hs7, hs8, hs9, Int.toNat_zero, Int.toNat_one, Int.toNat_natCast, ba_size, ba_app, List.length_append, List.length_nil, List.length_cons, Nat.reduceAdd, flatE_w, flatE_p, flatE_n, Nat.zero_add])) (by (simp (disch := omega) only [go_sem, lint , hs1, hs2, hs3, hs4, hs5, hs6, hs7, hs8, hs9, Int.toNat_zero, Int.toNat_one, Int.toNat_natCast, ba_size, ba_app, List.length_append, List.length_nil, List.length_cons, Nat.reduceAdd, flatE_w, flatE_p, flatE_n, Nat.zero_add])) (fun d => by first | ((simp (disch := omega) only [go_sem, lint , hs1, hs2, hs3, hs4, hs5, hs6, hs7, hs8, hs9, Int.toNat_zero, Int.toNat_one, Int.toNat_natCast, ba_size, ba_app, List.length_append, List.length_nil, List.length_cons, Nat.reduceAdd, flatE_w, flatE_p, flatE_n, Nat.zero_add]); done) | ((simp (disch := omega) only [go_sem, lint , hs1, hs2, hs3, hs4, hs5, hs6, hs7, hs8, hs9, Int.toNat_zero, Int.toNat_one, Int.toNat_natCast, ba_size, ba_app, List.length_append, List.length_nil, List.length_cons, Nat.reduceAdd, flatE_w, flatE_p, flatE_n, Nat.zero_add]); rfl))
    · have hw1 : (evAt es k).w = 1 := r1.resolve_right hw
      have hs7 : ((evAt es k).w == 1) = true := by simp [hw1]
      rw [show evWd (evAt es k) = wCall by unfold evWd; rw [if_neg hw]] at hW2
      (refine Wk.o ?_; (repeat revert hK K); refine W6ce2a ?_; (repeat intro K hK); refine ⟨?_⟩)
      ((refine AX_drawLk (fun _ => True) 16 [.free, .free, .free, .free, .free, .free, .free, .free, .free, .free, .free, .free, .free, .free, .free, .free] [false, false, false, false, false, false, true, false, false, false, false, true, false, false, false, false] (by kernel_rfl) (by decide +kernel) (by decide +kernel) trivial fun K hK => ?_); (simp only [go_sem]); (refine Wk.o ?_; (repeat revert hK K); refine W6ce2b ?_; (repeat intro K hK); refine ⟨?_⟩))
      (refine Wk.o ?_; (repeat revert hK K); refine W6ce2a ?_; (repeat intro K hK); refine ⟨?_⟩)
      exact whx_ren [0] (k + 1, x ++ y) ⟨by dsimp only; omega, hnew⟩ (by dsimp only; omega) rfl (by decide) (by decide) (by (simp (disch := omega) only [go_sem, lint , hs1, hs2, hs3, hs4, hs5, hs6, hs7, hs8, hs9, Int.toNat_zero, Int.toNat_one, Int.toNat_natCast, ba_size, ba_app, List.length_append, List.length_nil, List.length_cons, Nat.reduceAdd, flatE_w, flatE_p, flatE_n, Nat.zero_add])) (by (simp (disch := omega) only [go_sem, lint , hs1, hs2, hs3, hs4, hs5, hs6, hs7, hs8, hs9, Int.toNat_zero, Int.toNat_one, Int.toNat_natCast, ba_size, ba_app, List.length_append, List.length_nil, List.length_cons, Nat.reduceAdd, flatE_w, flatE_p, flatE_n, Nat.zero_add])) (by (simp (disch := omega) only [go_sem, lint , hs1, hs2, hs3, hs4, hs5, hs6, hs7, hs8, hs9, Int.toNat_zero, Int.toNat_one, Int.toNat_natCast, ba_size, ba_app, List.length_append, List.length_nil, List.length_cons, Nat.reduceAdd, flatE_w, flatE_p, flatE_n, Nat.zero_add])) (fun d => by first | ((simp (disch := omega) only [go_sem, lint , hs1, hs2, hs3, hs4, hs5, hs6, hs7, hs8, hs9, Int.toNat_zero, Int.toNat_one, Int.toNat_natCast, ba_size, ba_app, List.length_append, List.length_nil, List.length_cons, Nat.reduceAdd, flatE_w, flatE_p, flatE_n, Nat.zero_add]); done) | ((simp (disch := omega) only [go_sem, lint , hs1, hs2, hs3, hs4, hs5, hs6, hs7, hs8, hs9, Int.toNat_zero, Int.toNat_one, Int.toNat_natCast, ba_size, ba_app, List.length_append, List.length_nil, List.length_cons, Nat.reduceAdd, flatE_w, flatE_p, flatE_n, Nat.zero_add]); rfl))
  · obtain rfl : k = es.length := by omega
    rw [List.take_length] at hx0
    (refine Wk.o ?_; (repeat revert hK K); refine W6ce2a ?_; (repeat intro K hK); refine ⟨?_⟩)
    (simp only [bodyX]; refine ⟨_, by simp only [aresults, aresult, XS.as, Tryd.results13, aload, go_sem, Option.bind_some]; rfl, ?_⟩)
    exact ⟨ids_idB rfl, by rw [← hx0], trivial⟩
end Go.Proofs.YtdaenbgjafalcaaDoor
namespace Go.Proofs.YtdaenbgjafalcaaDoor
open Go.RowKit Go.Lib
set_option linter.unusedVariables false
set_option linter.unusedSimpArgs false
def hq1 : List UInt8 := 111 :: 98 :: 106 :: 101 :: 99 :: 116 :: 32 :: 49 :: 32 :: 49 :: 32 :: 48 :: 32 :: 49 :: 10 :: 114 :: 111 :: 119 :: 32 :: 48 :: 32 :: 48 :: 32 :: 48 :: 32 :: 55 :: 10 :: 99 :: 97 :: 108 :: 108 :: 32 :: 49 :: 32 :: 48 :: 10 :: 114 :: 101 :: 116 :: 32 :: 49 :: 32 :: 55 :: 10 :: []
theorem lns_hq1 : lns 1 0 hq1 = [(1, 0, [(0, [111, 98, 106, 101, 99, 116]), (7, [49]), (9, [49]), (11, [48]), (13, [49])]), (2, 15, [(0, [114, 111, 119]), (4, [48]), (6, [48]), (8, [48]), (10, [55])]), (3, 27, [(0, [99, 97, 108, 108]), (5, [49]), (7, [48])]), (4, 36, [(0, [114, 101, 116]), (4, [49]), (6, [55])])] := by
  unfold hq1
  simp [lns, lnLen, noNl, lineTk, remark, hasPrefix, tk, isSp, noSp, List.takeWhile, List.dropWhile, List.isPrefixOf]
def hq2 : List UInt8 := [111, 98, 106, 101, 99, 116, 32, 49, 32, 49, 32, 48, 32, 48, 10, 114, 101, 116, 32, 49, 32, 55]
theorem lns_hq2 : lns 1 0 hq2 = [(1, 0, [(0, [111, 98, 106, 101, 99, 116]), (7, [49]), (9, [49]), (11, [48]), (13, [48])]), (2, 15, [(0, [114, 101, 116]), (4, [49]), (6, [55])])] := by
  unfold hq2
  simp [lns, lnLen, noNl, lineTk, remark, hasPrefix, tk, isSp, noSp, List.takeWhile, List.dropWhile]
def hq3 : List UInt8 := [111, 98, 106, 101, 99, 116, 32, 49, 32, 49, 32, 48, 32, 48, 10, 99, 97, 108, 108, 32, 49, 32, 49]
theorem lns_hq3 : lns 1 0 hq3 = [(1, 0, [(0, [111, 98, 106, 101, 99, 116]), (7, [49]), (9, [49]), (11, [48]), (13, [48])]), (2, 15, [(0, [99, 97, 108, 108]), (5, [49]), (7, [49])])] := by
  unfold hq3
  simp [lns, lnLen, noNl, lineTk, remark, hasPrefix, tk, isSp, noSp, List.takeWhile, List.dropWhile, List.isPrefixOf]
deriving instance DecidableEq for Ob
deriving instance DecidableEq for Ev3
def oq1 : Ob := ⟨1, 1, 0, [⟨0, 0, 0, 7⟩]⟩
def eq1 : List Ev3 := [⟨1, 1, 0⟩, ⟨2, 1, 7⟩]
theorem hpr_q1 : hpr hq1 = (oq1, eq1, 44, 0) := by unfold hpr lnsT; rw [lns_hq1]; decide +kernel
theorem hpr_q2 : hpr hq2 = (ob0, [], 15, 33) := by unfold hpr lnsT; rw [lns_hq2]; decide +kernel
theorem hpr_q3 : hpr hq3 = (ob0, [], 22, 7) := by unfold hpr lnsT; rw [lns_hq3]; decide +kernel
theorem hB_q1 : caseB oq1 eq1 = hq1 := by decide +kernel
theorem cs_q1 : CsSm oq1 eq1 := ⟨by decide +kernel, by decide⟩
theorem pf_hParse (l : List UInt8) (hl : l.length ≤ 100000) : PF Tryd.prog 8 [lt (.string (ba l))] fun r H' => r = .tup [csA (hpr l).1 (hpr l).2.1, lt (.int .i64 (hpr l).2.2.1), lt (.int .i64 (hpr l).2.2.2)] ∧ H' = [] := pf_hParseG l (by omega) (lnsT_ok hl)
theorem q26_P1 : PF Tryd.prog 8 [lt (.string (ba hq1))] fun r H' => r = .tup [csA oq1 eq1, lt (.int .i64 44), lt (.int .i64 0)] ∧ H' = [] := by
  have h := pf_hParse hq1 (by decide)
  rw [hpr_q1] at h; exact h
theorem q26_P2 : PF Tryd.prog 8 [lt (.string (ba hq2))] fun r H' => r = .tup [csA ob0 [], lt (.int .i64 15), lt (.int .i64 33)] ∧ H' = [] := by
  have h := pf_hParse hq2 (by decide)
  rw [hpr_q2] at h; exact h
theorem q26_P3 : PF Tryd.prog 8 [lt (.string (ba hq3))] fun r H' => r = .tup [csA ob0 [], lt (.int .i64 22), lt (.int .i64 7)] ∧ H' = [] := by
  have h := pf_hParse hq3 (by decide)
  rw [hpr_q3] at h; exact h
theorem case_all {o : Ob} {es : List Ev3} (h : CsSm o es) :
    (PF Tryd.prog 14 [csA o es] fun r H' => r = lt (.int .i64 0) ∧ H' = []) ∧
    (PF Tryd.prog 12 [csA o es] fun r H' => r = .tup [lt (.string (ba (caseB o es))), lt (.int .i64 0)] ∧ H' = []) ∧
    (PF Tryd.prog 8 [lt (.string (ba (caseB o es)))] fun r H' => r = .tup [csA o es, lt (.int .i64 (caseB o es).length), lt (.int .i64 0)] ∧ H' = []) ∧
    (PF Tryd.prog 13 [obA o, .iv (iEvs es)] fun r H' => r = .tup [lt (.string (ba (caseB o es))), lt (.int .i64 0)] ∧ H' = []) := by
  have hob := h.ob
  have hR := hob.len
  have hlen := h.len
  have hO : o.Ok := ⟨by have := hob.S; omega, by have := hob.K; omega, by have := hob.I; omega⟩
  have hn : ∀ i, -9223372036854775808 ≤ (evAt es i).n := fun i => by
    by_cases hi : i < es.length
    · obtain ⟨r1, _, r3, r4, _⟩ := h.evs.one h.kin.2 hi
      rcases r1 with r1 | r1
      · have := r3 r1; omega
      · have := r4 r1; omega
    · unfold evAt; rw [List.getD_eq_getElem?_getD, List.getElem?_eq_none (by omega)]; decide
  have hk := pf_hCheck o es (by omega) hO (by omega) hn
  have hrk := pf_rhCheck o es (by omega) hO (by omega) hn
  have hok := pf_obCheck o (by omega) hO
  have hrok := pf_rObCheck o (by omega) hO
  rw [(hChk_zero.1 h.chk).1] at hok hrok
  refine ⟨by rw [h.chk] at hk; exact hk, pf_hPrint o es h hk (pf_oPrint o.S o.K o.I o.R _ hob hok), ?_, pf_rhPrint o es h hrk (pf_roPrint o.S o.K o.I o.R _ hob hrok)⟩
  have := pf_hParseG (caseB o es) (by have := h.tot; omega) (lnsT_case h)
  rw [hpr_back h.chk hob] at this
  exact this
theorem q26_Z : PF Tryd.prog 14 [csA ob0 []] fun r H' => r = lt (.int .i64 2) ∧ H' = [] := by
  have h := pf_hCheck ob0 [] (by decide) ⟨by decide, by decide, by decide⟩ (by decide) (fun i => by unfold evAt; simp)
  rw [show hChk ob0 [] = 2 by decide +kernel] at h; exact h
set_option maxRecDepth 100000 in
set_option maxHeartbeats 8000000 in
theorem pf_awake26 : PF Tryd.prog 7 [] fun r H' => r = lt (.bool true) ∧ H' = [] := by
  refine SF.forgetAll ?_
  have hs2 := trivial; have hs3 := trivial; have hs4 := trivial
  have hs1 : (⟨#[111, 98, 106, 101, 99, 116, 32, 49, 32, 49, 32, 48, 32, 49, 10, 114, 111, 119, 32, 48, 32, 48, 32, 48, 32, 55, 10, 99, 97, 108, 108, 32, 49, 32, 48, 10, 114, 101, 116, 32, 49, 32, 55, 10]⟩ : ByteArray) = ba hq1 := rfl
  have hs2 : (⟨#[111, 98, 106, 101, 99, 116, 32, 49, 32, 49, 32, 48, 32, 48, 10, 114, 101, 116, 32, 49, 32, 55]⟩ : ByteArray) = ba hq2 := rfl
  have hs3 : (⟨#[111, 98, 106, 101, 99, 116, 32, 49, 32, 49, 32, 48, 32, 48, 10, 99, 97, 108, 108, 32, 49, 32, 49]⟩ : ByteArray) = ba hq3 := rfl
  have hP1 := q26_P1
  have hP2 := q26_P2
  have hP3 := q26_P3
  obtain ⟨hC, hPr, _, _⟩ := case_all cs_q1
  rw [hB_q1] at hPr
  have hZ := q26_Z
  have hil : iEvs eq1 = .sl (fun j => .lit (.int .i64 (([1, 1, 0, 2, 1, 7] : List Int).getD j 0))) 2 3 := rfl
  have hs5 := hil
  unfold csA at hP1 hP2 hP3 hPr hC
  rw [hil] at hP1 hPr hC
  dsimp only [oq1, ob0] at hP1 hP2 hP3 hPr hC
  (refine SF_of_bodyX (aload tt) (aload_ok tyOK) Tryd.func7 rfl (by kernel_rfl) ?_; simp only [Tryd.ntmps7, List.length_cons, List.length_nil, Nat.reduceAdd, Nat.reduceSub, List.replicate_succ, List.replicate_zero, List.cons_append, List.nil_append])
  (repeat (first | (first | (with_reducible first | refine AX_block ?_ | refine AX_skip ?_ | refine AX_exit ?_ | refine AX_ret ?_ | refine AX_ift ?_ | refine AX_iff ?_ | refine AX_seq_k (fun K hK => ?_) | refine ContX.use (by assumption) ?_) | simp only [thenX, inBlockX, if_true, if_false, reduceCtorEq]) | (first | ((with_reducible refine XOP tyOK ?_); simp (disch := omega) only [go_sem , hs1, hs2, hs3, hs4, hs5, Int.toNat_zero, Int.toNat_one, Int.reduceToNat, Nat.reduceMul, Nat.reduceAdd, Nat.zero_add, List.length_nil, List.length_cons, beq_self_eq_true, ba_toList, iFlat, intOf, List.getD_cons_zero, List.getD_cons_succ]; (with_reducible refine XRes_id ?_)) | (with_reducible refine XSK ?_)) | ((with_reducible refine XRes_nil ?_); refine hK _ ?_; clear hK K) | ((with_reducible refine AX_reg0 fun K hK => ?_); simp only [go_sem]) | (first | (first | refine XTL (by rfl) hP1 ?_ | refine XTL (by rfl) hP2 ?_ | refine XTL (by rfl) hP3 ?_ | refine XTL (by rfl) hPr ?_ | refine XTL (by rfl) hC ?_) | ((refine XRes_fn (by rfl) (PF.says (SnapL.cons snap_cs0 (SnapL.nil _)) hZ) ?_); (rintro r H' ⟨rfl, rfl⟩); (simp only [putL, List.set_cons_succ, List.set_cons_zero])) | ((refine XRes_eqB (us := [2, 1, 7]) (vs2 := [2, 1, 7]) true (by rfl) (by first | exact .inl rfl | exact .inr rfl) (by rfl) (by rfl) rfl rfl (by kernel_rfl) (by rfl) ?_); (simp only [putL, List.set_cons_succ, List.set_cons_zero])))))
  (simp only [bodyX]; refine ⟨_, by simp only [aresults, aresult, XS.as, Tryd.results7, aload, go_sem, Option.bind_some]; rfl, ?_⟩)
  exact ⟨ids_idB rfl, rfl, trivial⟩
end Go.Proofs.YtdaenbgjafalcaaDoor
