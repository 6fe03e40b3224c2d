import Derived.Test.YtcjnikkmjhagmaaGreatDoorMgBG
import Derived.Test.YtcjnikkmjhagmaaGreatDoorMgBM
import Derived.Test.YtcjnikkmjhagmaaGreatDoorMgBF
import Derived.Test.YtcjnikkmjhagmaaGreatDoorMgAS
namespace Go.Proofs.YtcjnikkmjhagmaaGreatDoor
open Go.RowKit
set_option linter.unusedVariables false
set_option linter.unusedSimpArgs false
def wPlace : ByteArray := ⟨#[112, 108, 97, 99, 101]⟩
def wIn : ByteArray := ⟨#[105, 110]⟩
def wState : ByteArray := ⟨#[115, 116, 97, 116, 101]⟩
def nmS (n m v : Int) : ByteArray := if (nOf n m v).1 = 1 then tlS wPlace [(nOf n m v).2.1, (nOf n m v).2.2] 2 else if (nOf n m v).1 = 2 then tlS wIn [(nOf n m v).2.1] 1 else tlS wState [(nOf n m v).2.1, (nOf n m v).2.2] 2
def nmU (n m : Int) (k : Nat) : List ByteArray := (List.range k).map fun v => nmS n m (v + 1 : Nat)
theorem nmU_succ (n m : Int) (k : Nat) : nmU n m (k + 1) = nmU n m k ++ [nmS n m (k + 1 : Nat)] := by unfold nmU; rw [List.range_succ, List.map_append]; rfl
def nmX (o : Ob) (l : List Op5) : List ByteArray := if eE o l = 0 then nmU (mN o l) (mS o l) (nVars (mN o l) (mS o l)).toNat else []
theorem nOf_bd {n m v : Int} (h1 : 1 ≤ v) (hv : v ≤ nVars n m) : (1 ≤ (nOf n m v).1 ∧ (nOf n m v).1 ≤ 3) ∧ (0 ≤ (nOf n m v).2.1 ∧ (nOf n m v).2.1 < 100) ∧ 0 ≤ (nOf n m v).2.2 ∧ (nOf n m v).2.2 < 100 := by
  have h := (nOf_name h1 hv).1
  have hA := nA_bd h.1 (nOf n m v).1
  have hB := nB_bd h.1 (nOf n m v).1
  obtain ⟨_, h2, h3, h4, h5, h6, h7⟩ := h
  exact ⟨⟨h2, h3⟩, ⟨h4, by omega⟩, h6, by omega⟩
set_option maxRecDepth 100000 in
set_option maxHeartbeats 8000000 in
theorem pf_Names (o : Ob) (l : List Op5) (hr : o.R.length ≤ 100000) (ho : o.Ok) (hl : l.length ≤ 100000) (hs : okS l) : PF Tryz.prog 15 [obA o, .iv (iOps l)] fun r H' => r = .iv (iStrs (nmX o l)) ∧ H' = [] := by
  refine SF.frozen ?_
  have hs1 := trivial; have hs2 := trivial; have hs3 := trivial; have hT := trivial; have hN := trivial
  have hF := pf_eFits o l hr ho hl hs
  by_cases he : eE o l = 0
  · obtain ⟨hm, hln, hok, _, _, hv9⟩ := eE_ok he
    rw [show nmX o l = nmU (mN o l) (mS o l) (nVars (mN o l) (mS o l)).toNat by unfold nmX; rw [if_pos he]]
    have hV := pf_nVars (mN o l) (mS o l)
    have hvn := nVars_nonneg (mN o l) (mS o l)
    have hbd := fun (v : Nat) h => nOf_bd (n := mN o l) (m := mS o l) (v := (v + 1 : Nat)) (by omega) h
    have hOf := fun v => pf_nOf (mN o l) (mS o l) v
    rw [he] at hF
    clear hm hok he
    generalize mN o l = n at *
    generalize mS o l = m at *
    obtain ⟨V, hVe⟩ : ∃ V : Nat, nVars n m = V := ⟨(nVars n m).toNat, by omega⟩
    rw [hVe] at hV hv9 hvn hbd
    rw [hVe, Int.toNat_natCast]
    (refine SF_of_bodyX (aload tt) (aload_ok tyOK) Tryz.func15 rfl (by kernel_rfl) ?_; simp only [Tryz.ntmps15, List.length_cons, List.length_nil, Nat.reduceAdd, Nat.reduceSub, List.replicate_succ, List.replicate_zero, List.cons_append, List.nil_append])
    (repeat (first | (first | (with_reducible first | refine AX_block ?_ | refine AX_skip ?_ | refine AX_exit ?_ | refine AX_ret ?_ | refine AX_ift ?_ | refine AX_iff ?_ | refine AX_seq_k (fun K hK => ?_) | refine ContX.use (by assumption) ?_) | simp only [thenX, inBlockX, if_true, if_false, reduceCtorEq]) | ((refine XRes_litF tyOK (by rfl) rfl (by decide) rfl rfl ?_); (simp only [List.map_cons, List.map_nil, intOf, putL, List.set_cons_succ, List.set_cons_zero])) | (first | ((with_reducible refine XOP tyOK ?_); simp (maxSteps := 2000000) (disch := omega) only [go_sem , szA, hs1, hs2, hs3, Int.toNat_zero, Int.toNat_one, Int.toNat_natCast, List.length_nil]; (with_reducible refine XRes_id ?_)) | ((with_reducible refine XSK ?_); (simp only [putL, List.set_cons_succ, List.set_cons_zero]))) | ((with_reducible refine XRes_nil ?_); refine hK _ ?_; clear hK K) | ((with_reducible refine AX_reg0 fun K hK => ?_); simp only [go_sem]) | (first | ((first | refine XTL (by rfl) hF ?_ | refine XTL (by rfl) hV ?_ | refine XTL (by rfl) hN ?_); (simp only [putL, List.set_cons_succ, List.set_cons_zero]))) | ((refine XRes_slot (by rfl) rfl hT ?_); (rintro r H' ⟨rfl, rfl⟩); (simp only [putL, List.set_cons_succ, List.set_cons_zero]))))
    have hlen := True.intro
    refine AX_nil 4 9 1 rfl ?_
    refine AX_cellNil 2 3 41 1 _ rfl rfl ?_
    simp only [List.set_cons_succ, List.set_cons_zero, List.length_cons, List.length_nil, List.cons_append, List.nil_append, Nat.zero_add, Nat.reduceAdd]
    refine AX_ren [0, 1, 2, 3] [4] ?fr2 [some ⟨24, [lt (.int .i64 o.S), lt (.int .i64 o.K), lt (.int .i64 o.I), .iv (iRws o.R)]⟩, some ⟨51, [lt (.int .i64 n), lt (.int .i64 m)]⟩, some ⟨41, [.osl 3 0 0 1]⟩, some ⟨9, []⟩] (by decide) (by decide) (by (simp (maxSteps := 2000000) (disch := omega) only [go_sem, lint, rnL_lstr, idL_lstr, lstr_one, hlen])) (by (simp (maxSteps := 2000000) (disch := omega) only [go_sem, lint, rnL_lstr, idL_lstr, lstr_one, hlen])) (by (simp (maxSteps := 2000000) (disch := omega) only [go_sem, lint, rnL_lstr, idL_lstr, lstr_one, hlen])) ?hfr (fun d2 => ?_)
    case hfr =>
      (simp (maxSteps := 2000000) (disch := omega) only [go_sem, lint, rnL_lstr, idL_lstr, lstr_one, hlen])
      rfl
    simp only [deadS, List.set_cons_succ, List.set_cons_zero]
    (refine AX_wh (σ := Nat × List ByteArray) [24, 25, 9, 27, 28, 29, 30, 26, 31, 32, 10, 11, 33, 34, 36, 35, 37, 38, 39, 40, 41, 42, 43, 45, 44, 46, 47, 48, 49, 50, 52, 51, 53, 54, 55, 56, 57, 58, 59, 60] (fun (k, ss) => [(23, lint k)]) (fun (k, ss) => [some ⟨24, [lt (.int .i64 o.S), lt (.int .i64 o.K), lt (.int .i64 o.I), .iv (iRws o.R)]⟩, some ⟨51, [lt (.int .i64 n), lt (.int .i64 m)]⟩, some ⟨41, [.osl 3 0 ss.length 1]⟩, some ⟨9, ss.map lstr⟩]) (fun (k, ss) => []) (fun (k, ss) => k ≤ V ∧ ss = nmU n m k ∧ ss.length = k) (fun (k, ss) => V - k) (0, []) (fun d => by first | ((simp only [deadS, updS, List.set_cons_succ, List.set_cons_zero, lint, List.length_nil, List.length_cons]); done) | ((simp only [deadS, updS, List.set_cons_succ, List.set_cons_zero, lint, List.length_nil, List.length_cons]); rfl) | rfl) (by first | (with_reducible rfl) | (simp only [hinit]; done) | rfl) (by first | (with_reducible rfl) | rfl) (by first | exact ⟨Nat.zero_le _, rfl, rfl⟩) ?_; rintro ⟨k, ss⟩ d fr hfr ⟨hk, hss, hsl⟩; simp only [updS, deadS, List.set_cons_succ, List.set_cons_zero, lint] at hfr; subst hfr; (try dsimp only))
    by_cases hlt : k < V
    · have hbk := hbd k (by omega)
      have hN := hOf (k + 1 : Nat)
      have hnm := nmS.eq_1 n m ((k + 1 : Nat) : Int)
      generalize nOf n m ((k + 1 : Nat) : Int) = q at hbk hN hnm
      obtain ⟨c, a, b⟩ := q
      simp only at hbk hN hnm
      have hlen : ∀ s : ByteArray, (ss ++ [s]).length = ss.length + 1 := fun s => by simp
      by_cases h1 : c = 1
      · subst h1
        rw [if_pos rfl] at hnm
        have hT := sf_tell wPlace [a, b] ss (some ⟨24, [lt (.int .i64 o.S), lt (.int .i64 o.K), lt (.int .i64 o.I), .iv (iRws o.R)]⟩) (some ⟨51, [lt (.int .i64 n), lt (.int .i64 m)]⟩) (some ⟨77, [lt (.int .i64 1), lt (.int .i64 a), lt (.int .i64 b)]⟩) (by decide) (by simp) (fun j hj => by
          rcases j with _ | _ | j
          · exact hbk.2.1
          · exact hbk.2.2
          · simp only [List.length_cons, List.length_nil] at hj; omega) (by omega)
        (repeat (first | (first | (with_reducible first | refine AX_block ?_ | refine AX_skip ?_ | refine AX_exit ?_ | refine AX_ret ?_ | refine AX_ift ?_ | refine AX_iff ?_ | refine AX_seq_k (fun K hK => ?_) | refine ContX.use (by assumption) ?_) | simp only [thenX, inBlockX, if_true, if_false, reduceCtorEq]) | ((refine XRes_litF tyOK (by rfl) rfl (by decide) rfl rfl ?_); (simp only [List.map_cons, List.map_nil, intOf, putL, List.set_cons_succ, List.set_cons_zero])) | (first | ((with_reducible refine XOP tyOK ?_); simp (maxSteps := 2000000) (disch := omega) only [go_sem , szA, hs1, hs2, hs3, Int.toNat_zero, Int.toNat_one, Int.toNat_natCast, List.length_nil]; (with_reducible refine XRes_id ?_)) | ((with_reducible refine XSK ?_); (simp only [putL, List.set_cons_succ, List.set_cons_zero]))) | ((with_reducible refine XRes_nil ?_); refine hK _ ?_; clear hK K) | ((with_reducible refine AX_reg0 fun K hK => ?_); simp only [go_sem]) | (first | ((first | refine XTL (by rfl) hF ?_ | refine XTL (by rfl) hV ?_ | refine XTL (by rfl) hN ?_); (simp only [putL, List.set_cons_succ, List.set_cons_zero]))) | ((refine XRes_slot (by rfl) rfl hT ?_); (rintro r H' ⟨rfl, rfl⟩); (simp only [putL, List.set_cons_succ, List.set_cons_zero]))))
        exact whx_ren [0, 1, 2, 6] (k + 1, ss ++ [tlS wPlace [a, b] [a, b].length]) ⟨by omega, by rw [nmU_succ, hss, hnm]; rfl, by rw [List.length_append, hsl]; rfl⟩ (by (first | omega | (dsimp only; omega) | (simp only; omega))) rfl (by decide) (by decide) (by (simp (maxSteps := 2000000) (disch := omega) only [go_sem, lint, rnL_lstr, idL_lstr, lstr_one, hlen])) (by (simp (maxSteps := 2000000) (disch := omega) only [go_sem, lint, rnL_lstr, idL_lstr, lstr_one, hlen])) (by (simp (maxSteps := 2000000) (disch := omega) only [go_sem, lint, rnL_lstr, idL_lstr, lstr_one, hlen])) (fun d => by (simp (maxSteps := 2000000) (disch := omega) only [go_sem, lint, rnL_lstr, idL_lstr, lstr_one, hlen]))
      · by_cases h2 : c = 2
        · subst h2
          rw [if_neg (by decide), if_pos rfl] at hnm
          have hT := sf_tell wIn [a] ss (some ⟨24, [lt (.int .i64 o.S), lt (.int .i64 o.K), lt (.int .i64 o.I), .iv (iRws o.R)]⟩) (some ⟨51, [lt (.int .i64 n), lt (.int .i64 m)]⟩) (some ⟨77, [lt (.int .i64 2), lt (.int .i64 a), lt (.int .i64 b)]⟩) (by decide) (by simp) (fun j hj => by
            rcases j with _ | _ | j
            · exact hbk.2.1
            · simp only [List.length_cons, List.length_nil] at hj; omega
            · simp only [List.length_cons, List.length_nil] at hj; omega) (by omega)
          (repeat (first | (first | (with_reducible first | refine AX_block ?_ | refine AX_skip ?_ | refine AX_exit ?_ | refine AX_ret ?_ | refine AX_ift ?_ | refine AX_iff ?_ | refine AX_seq_k (fun K hK => ?_) | refine ContX.use (by assumption) ?_) | simp only [thenX, inBlockX, if_true, if_false, reduceCtorEq]) | ((refine XRes_litF tyOK (by rfl) rfl (by decide) rfl rfl ?_); (simp only [List.map_cons, List.map_nil, intOf, putL, List.set_cons_succ, List.set_cons_zero])) | (first | ((with_reducible refine XOP tyOK ?_); simp (maxSteps := 2000000) (disch := omega) only [go_sem , szA, hs1, hs2, hs3, Int.toNat_zero, Int.toNat_one, Int.toNat_natCast, List.length_nil]; (with_reducible refine XRes_id ?_)) | ((with_reducible refine XSK ?_); (simp only [putL, List.set_cons_succ, List.set_cons_zero]))) | ((with_reducible refine XRes_nil ?_); refine hK _ ?_; clear hK K) | ((with_reducible refine AX_reg0 fun K hK => ?_); simp only [go_sem]) | (first | ((first | refine XTL (by rfl) hF ?_ | refine XTL (by rfl) hV ?_ | refine XTL (by rfl) hN ?_); (simp only [putL, List.set_cons_succ, List.set_cons_zero]))) | ((refine XRes_slot (by rfl) rfl hT ?_); (rintro r H' ⟨rfl, rfl⟩); (simp only [putL, List.set_cons_succ, List.set_cons_zero]))))
          exact whx_ren [0, 1, 2, 6] (k + 1, ss ++ [tlS wIn [a] [a].length]) ⟨by omega, by rw [nmU_succ, hss, hnm]; rfl, by rw [List.length_append, hsl]; rfl⟩ (by (first | omega | (dsimp only; omega) | (simp only; omega))) rfl (by decide) (by decide) (by (simp (maxSteps := 2000000) (disch := omega) only [go_sem, lint, rnL_lstr, idL_lstr, lstr_one, hlen])) (by (simp (maxSteps := 2000000) (disch := omega) only [go_sem, lint, rnL_lstr, idL_lstr, lstr_one, hlen])) (by (simp (maxSteps := 2000000) (disch := omega) only [go_sem, lint, rnL_lstr, idL_lstr, lstr_one, hlen])) (fun d => by (simp (maxSteps := 2000000) (disch := omega) only [go_sem, lint, rnL_lstr, idL_lstr, lstr_one, hlen]))
        · obtain rfl : c = 3 := by omega
          rw [if_neg (by decide), if_neg (by decide)] at hnm
          have hT := sf_tell wState [a, b] ss (some ⟨24, [lt (.int .i64 o.S), lt (.int .i64 o.K), lt (.int .i64 o.I), .iv (iRws o.R)]⟩) (some ⟨51, [lt (.int .i64 n), lt (.int .i64 m)]⟩) (some ⟨77, [lt (.int .i64 3), lt (.int .i64 a), lt (.int .i64 b)]⟩) (by decide) (by simp) (fun j hj => by
            rcases j with _ | _ | j
            · exact hbk.2.1
            · exact hbk.2.2
            · simp only [List.length_cons, List.length_nil] at hj; omega) (by omega)
          (repeat (first | (first | (with_reducible first | refine AX_block ?_ | refine AX_skip ?_ | refine AX_exit ?_ | refine AX_ret ?_ | refine AX_ift ?_ | refine AX_iff ?_ | refine AX_seq_k (fun K hK => ?_) | refine ContX.use (by assumption) ?_) | simp only [thenX, inBlockX, if_true, if_false, reduceCtorEq]) | ((refine XRes_litF tyOK (by rfl) rfl (by decide) rfl rfl ?_); (simp only [List.map_cons, List.map_nil, intOf, putL, List.set_cons_succ, List.set_cons_zero])) | (first | ((with_reducible refine XOP tyOK ?_); simp (maxSteps := 2000000) (disch := omega) only [go_sem , szA, hs1, hs2, hs3, Int.toNat_zero, Int.toNat_one, Int.toNat_natCast, List.length_nil]; (with_reducible refine XRes_id ?_)) | ((with_reducible refine XSK ?_); (simp only [putL, List.set_cons_succ, List.set_cons_zero]))) | ((with_reducible refine XRes_nil ?_); refine hK _ ?_; clear hK K) | ((with_reducible refine AX_reg0 fun K hK => ?_); simp only [go_sem]) | (first | ((first | refine XTL (by rfl) hF ?_ | refine XTL (by rfl) hV ?_ | refine XTL (by rfl) hN ?_); (simp only [putL, List.set_cons_succ, List.set_cons_zero]))) | ((refine XRes_slot (by rfl) rfl hT ?_); (rintro r H' ⟨rfl, rfl⟩); (simp only [putL, List.set_cons_succ, List.set_cons_zero]))))
          exact whx_ren [0, 1, 2, 6] (k + 1, ss ++ [tlS wState [a, b] [a, b].length]) ⟨by omega, by rw [nmU_succ, hss, hnm]; rfl, by rw [List.length_append, hsl]; rfl⟩ (by (first | omega | (dsimp only; omega) | (simp only; omega))) rfl (by decide) (by decide) (by (simp (maxSteps := 2000000) (disch := omega) only [go_sem, lint, rnL_lstr, idL_lstr, lstr_one, hlen])) (by (simp (maxSteps := 2000000) (disch := omega) only [go_sem, lint, rnL_lstr, idL_lstr, lstr_one, hlen])) (by (simp (maxSteps := 2000000) (disch := omega) only [go_sem, lint, rnL_lstr, idL_lstr, lstr_one, hlen])) (fun d => by (simp (maxSteps := 2000000) (disch := omega) only [go_sem, lint, rnL_lstr, idL_lstr, lstr_one, hlen]))
    · obtain rfl : k = V := by omega
      (repeat (first | (first | (with_reducible first | refine AX_block ?_ | refine AX_skip ?_ | refine AX_exit ?_ | refine AX_ret ?_ | refine AX_ift ?_ | refine AX_iff ?_ | refine AX_seq_k (fun K hK => ?_) | refine ContX.use (by assumption) ?_) | simp only [thenX, inBlockX, if_true, if_false, reduceCtorEq]) | ((refine XRes_litF tyOK (by rfl) rfl (by decide) rfl rfl ?_); (simp only [List.map_cons, List.map_nil, intOf, putL, List.set_cons_succ, List.set_cons_zero])) | (first | ((with_reducible refine XOP tyOK ?_); simp (maxSteps := 2000000) (disch := omega) only [go_sem , szA, hs1, hs2, hs3, Int.toNat_zero, Int.toNat_one, Int.toNat_natCast, List.length_nil]; (with_reducible refine XRes_id ?_)) | ((with_reducible refine XSK ?_); (simp only [putL, List.set_cons_succ, List.set_cons_zero]))) | ((with_reducible refine XRes_nil ?_); refine hK _ ?_; clear hK K) | ((with_reducible refine AX_reg0 fun K hK => ?_); simp only [go_sem]) | (first | ((first | refine XTL (by rfl) hF ?_ | refine XTL (by rfl) hV ?_ | refine XTL (by rfl) hN ?_); (simp only [putL, List.set_cons_succ, List.set_cons_zero]))) | ((refine XRes_slot (by rfl) rfl hT ?_); (rintro r H' ⟨rfl, rfl⟩); (simp only [putL, List.set_cons_succ, List.set_cons_zero]))))
      (simp only [bodyX]; refine ⟨_, by simp only [aresults, aresult, XS.as, Tryz.results15, aload, go_sem, Option.bind_some]; rfl, ?_⟩)
      exact ⟨_, snap_lstr rfl rfl, by rw [hss], trivial⟩
  · rw [show nmX o l = [] by unfold nmX; rw [if_neg he]]
    have hV := trivial
    generalize eE o l = E at *
    (refine SF_of_bodyX (aload tt) (aload_ok tyOK) Tryz.func15 rfl (by kernel_rfl) ?_; simp only [Tryz.ntmps15, List.length_cons, List.length_nil, Nat.reduceAdd, Nat.reduceSub, List.replicate_succ, List.replicate_zero, List.cons_append, List.nil_append])
    (repeat (first | (first | (with_reducible first | refine AX_block ?_ | refine AX_skip ?_ | refine AX_exit ?_ | refine AX_ret ?_ | refine AX_ift ?_ | refine AX_iff ?_ | refine AX_seq_k (fun K hK => ?_) | refine ContX.use (by assumption) ?_) | simp only [thenX, inBlockX, if_true, if_false, reduceCtorEq]) | ((refine XRes_litF tyOK (by rfl) rfl (by decide) rfl rfl ?_); (simp only [List.map_cons, List.map_nil, intOf, putL, List.set_cons_succ, List.set_cons_zero])) | (first | ((with_reducible refine XOP tyOK ?_); simp (maxSteps := 2000000) (disch := omega) only [go_sem , szA, hs1, hs2, hs3, Int.toNat_zero, Int.toNat_one, Int.toNat_natCast, List.length_nil]; (with_reducible refine XRes_id ?_)) | ((with_reducible refine XSK ?_); (simp only [putL, List.set_cons_succ, List.set_cons_zero]))) | ((with_reducible refine XRes_nil ?_); refine hK _ ?_; clear hK K) | ((with_reducible refine AX_reg0 fun K hK => ?_); simp only [go_sem]) | (first | ((first | refine XTL (by rfl) hF ?_ | refine XTL (by rfl) hV ?_ | refine XTL (by rfl) hN ?_); (simp only [putL, List.set_cons_succ, List.set_cons_zero]))) | ((refine XRes_slot (by rfl) rfl hT ?_); (rintro r H' ⟨rfl, rfl⟩); (simp only [putL, List.set_cons_succ, List.set_cons_zero]))))
    (simp only [bodyX]; refine ⟨_, by simp only [aresults, aresult, XS.as, Tryz.results15, aload, go_sem, Option.bind_some]; rfl, ?_⟩)
    exact ⟨_, .iv _ _ (.nil _ _), rfl, trivial⟩
end Go.Proofs.YtcjnikkmjhagmaaGreatDoor
namespace Go.Proofs.YtcjnikkmjhagmaaGreatDoor
open Go.RowKit
set_option linter.unusedVariables false
set_option linter.unusedSimpArgs false
set_option maxRecDepth 100000 in
set_option maxHeartbeats 1000000 in
theorem pf_only (xs : List Int) (M : List Bool) (hx : xs.length ≤ 100000) (hM : M.length ≤ 1000000) (hb : ∀ k, k < xs.length → 1 ≤ xs.getD k 0 ∧ xs.getD k 0 ≤ M.length) : PF Tryz.prog 93 [.iv (iInts xs), .iv (iBools M)] fun r H' => r = .tup [lt (.int .i64 (lastT (fun i => tAt M (xs.getD i 0)) xs.length)), lt (.bool (decide (cntT (fun i => tAt M (xs.getD i 0)) xs.length = 1)))] ∧ H' = [] := by
  refine SF.forgetAll ?_
  have hs1 := trivial; have hs2 := trivial; have hs3 := trivial; have hs4 := trivial; have hs5 := trivial; have hC := trivial; have hCk := trivial; have hVs := trivial; have hO := trivial
  (refine SF_of_bodyX (aload tt) (aload_ok tyOK) Tryz.func93 rfl (by kernel_rfl) ?_; simp only [Tryz.ntmps93, List.length_cons, List.length_nil, Nat.reduceAdd, Nat.reduceSub, List.replicate_succ, List.replicate_zero, List.cons_append, List.nil_append])
  unfold iInts iBools
  (repeat (first | (first | (with_reducible first | refine AX_block ?_ | refine AX_skip ?_ | refine AX_exit ?_ | refine AX_ret ?_ | refine AX_ift ?_ | refine AX_iff ?_ | refine AX_seq_k (fun K hK => ?_) | refine ContX.use (by assumption) ?_) | simp only [thenX, inBlockX, if_true, if_false, reduceCtorEq]) | (first | ((with_reducible refine XOP tyOK ?_); simp (maxSteps := 2000000) (disch := omega) only [go_sem , iInts, iBools, Int.add_sub_cancel, hs1, hs2, hs3, hs4, hs5, rep_lb, rep_lintI, lint_set, ooT_len, ooU_len, List.length_nil]; (with_reducible refine XRes_id ?_)) | ((with_reducible refine XSK ?_); (simp only [putL, List.set_cons_succ, List.set_cons_zero]))) | ((with_reducible refine XRes_nil ?_); refine hK _ ?_; clear hK K) | ((with_reducible refine AX_reg0 fun K hK => ?_); simp only [go_sem]) | (first | ((first | refine XTL (by rfl) hCk ?_ | refine XTL (by rfl) hVs ?_ | refine XTL (by rfl) hC ?_ | refine XTL (by rfl) hO ?_); (simp only [putL, List.set_cons_succ, List.set_cons_zero])))))
  (refine AX_wh (σ := Nat × Nat × Nat) [13, 14, 15, 16, 8, 9, 17, 18, 19, 20, 21, 22, 23, 24, 25] (fun (k, a, c) => [(12, lint k), (6, lint a), (7, lint c)]) (fun (k, a, c) => []) (fun (k, a, c) => []) (fun (k, a, c) => k ≤ xs.length ∧ a = lastT (fun i => tAt M (xs.getD i 0)) k ∧ c = cntT (fun i => tAt M (xs.getD i 0)) k ∧ c ≤ k) (fun (k, a, c) => xs.length - k) (0, 0, 0) (fun d => by first | ((simp only [deadS, updS, List.set_cons_succ, List.set_cons_zero, lint, List.length_nil, List.length_cons]); done) | ((simp only [deadS, updS, List.set_cons_succ, List.set_cons_zero, lint, List.length_nil, List.length_cons]); rfl) | rfl) (by first | (with_reducible rfl) | (simp only [hinit]; done) | rfl) (by first | (with_reducible rfl) | rfl) (by first | exact ⟨Nat.zero_le _, rfl, rfl, Nat.le_refl _⟩) ?_; rintro ⟨k, a, c⟩ d fr hfr ⟨hk, ha, hc, hck⟩; simp only [updS, deadS, List.set_cons_succ, List.set_cons_zero, lint] at hfr; subst hfr; (try dsimp only))
  by_cases hlt : k < xs.length
  · have hbk := hb k hlt
    cases ht : tAt M (xs.getD k 0) with
    | true =>
      have hs1 : M.getD (xs.getD k 0 - 1).toNat false = true := ht
      (repeat (first | (first | (with_reducible first | refine AX_block ?_ | refine AX_skip ?_ | refine AX_exit ?_ | refine AX_ret ?_ | refine AX_ift ?_ | refine AX_iff ?_ | refine AX_seq_k (fun K hK => ?_) | refine ContX.use (by assumption) ?_) | simp only [thenX, inBlockX, if_true, if_false, reduceCtorEq]) | (first | ((with_reducible refine XOP tyOK ?_); simp (maxSteps := 2000000) (disch := omega) only [go_sem , iInts, iBools, Int.add_sub_cancel, hs1, hs2, hs3, hs4, hs5, rep_lb, rep_lintI, lint_set, ooT_len, ooU_len, List.length_nil]; (with_reducible refine XRes_id ?_)) | ((with_reducible refine XSK ?_); (simp only [putL, List.set_cons_succ, List.set_cons_zero]))) | ((with_reducible refine XRes_nil ?_); refine hK _ ?_; clear hK K) | ((with_reducible refine AX_reg0 fun K hK => ?_); simp only [go_sem]) | (first | ((first | refine XTL (by rfl) hCk ?_ | refine XTL (by rfl) hVs ?_ | refine XTL (by rfl) hC ?_ | refine XTL (by rfl) hO ?_); (simp only [putL, List.set_cons_succ, List.set_cons_zero])))))
      exact whx_ren [] (k + 1, k, c + 1) ⟨by omega, by simp only [lastT, ht, if_true], by simp only [cntT, ht, if_true, hc], by (first | omega | (dsimp only; omega) | (simp only; omega))⟩ (by (first | omega | (dsimp only; omega) | (simp only; omega))) rfl (by decide) (by decide) (by (simp (maxSteps := 2000000) (disch := omega) only [go_sem, lint])) (by (simp (maxSteps := 2000000) (disch := omega) only [go_sem, lint])) (by (simp (maxSteps := 2000000) (disch := omega) only [go_sem, lint])) (fun d => by (simp (maxSteps := 2000000) (disch := omega) only [go_sem, lint]))
    | false =>
      have hs1 : M.getD (xs.getD k 0 - 1).toNat false = false := ht
      (repeat (first | (first | (with_reducible first | refine AX_block ?_ | refine AX_skip ?_ | refine AX_exit ?_ | refine AX_ret ?_ | refine AX_ift ?_ | refine AX_iff ?_ | refine AX_seq_k (fun K hK => ?_) | refine ContX.use (by assumption) ?_) | simp only [thenX, inBlockX, if_true, if_false, reduceCtorEq]) | (first | ((with_reducible refine XOP tyOK ?_); simp (maxSteps := 2000000) (disch := omega) only [go_sem , iInts, iBools, Int.add_sub_cancel, hs1, hs2, hs3, hs4, hs5, rep_lb, rep_lintI, lint_set, ooT_len, ooU_len, List.length_nil]; (with_reducible refine XRes_id ?_)) | ((with_reducible refine XSK ?_); (simp only [putL, List.set_cons_succ, List.set_cons_zero]))) | ((with_reducible refine XRes_nil ?_); refine hK _ ?_; clear hK K) | ((with_reducible refine AX_reg0 fun K hK => ?_); simp only [go_sem]) | (first | ((first | refine XTL (by rfl) hCk ?_ | refine XTL (by rfl) hVs ?_ | refine XTL (by rfl) hC ?_ | refine XTL (by rfl) hO ?_); (simp only [putL, List.set_cons_succ, List.set_cons_zero])))))
      exact whx_ren [] (k + 1, a, c) ⟨by omega, by simp only [lastT, ht, Bool.false_eq_true, if_false, ha], by simp only [cntT, ht, Bool.false_eq_true, if_false, hc], by (first | omega | (dsimp only; omega) | (simp only; omega))⟩ (by (first | omega | (dsimp only; omega) | (simp only; omega))) rfl (by decide) (by decide) (by (simp (maxSteps := 2000000) (disch := omega) only [go_sem, lint])) (by (simp (maxSteps := 2000000) (disch := omega) only [go_sem, lint])) (by (simp (maxSteps := 2000000) (disch := omega) only [go_sem, lint])) (fun d => by (simp (maxSteps := 2000000) (disch := omega) only [go_sem, lint]))
  · obtain rfl : k = xs.length := by omega
    by_cases h1 : c = 1
    · subst h1
      (repeat (first | (first | (with_reducible first | refine AX_block ?_ | refine AX_skip ?_ | refine AX_exit ?_ | refine AX_ret ?_ | refine AX_ift ?_ | refine AX_iff ?_ | refine AX_seq_k (fun K hK => ?_) | refine ContX.use (by assumption) ?_) | simp only [thenX, inBlockX, if_true, if_false, reduceCtorEq]) | (first | ((with_reducible refine XOP tyOK ?_); simp (maxSteps := 2000000) (disch := omega) only [go_sem , iInts, iBools, Int.add_sub_cancel, hs1, hs2, hs3, hs4, hs5, rep_lb, rep_lintI, lint_set, ooT_len, ooU_len, List.length_nil]; (with_reducible refine XRes_id ?_)) | ((with_reducible refine XSK ?_); (simp only [putL, List.set_cons_succ, List.set_cons_zero]))) | ((with_reducible refine XRes_nil ?_); refine hK _ ?_; clear hK K) | ((with_reducible refine AX_reg0 fun K hK => ?_); simp only [go_sem]) | (first | ((first | refine XTL (by rfl) hCk ?_ | refine XTL (by rfl) hVs ?_ | refine XTL (by rfl) hC ?_ | refine XTL (by rfl) hO ?_); (simp only [putL, List.set_cons_succ, List.set_cons_zero])))))
      (simp only [bodyX]; refine ⟨_, by simp only [aresults, aresult, XS.as, Tryz.results93, aload, go_sem, Option.bind_some]; rfl, ?_⟩)
      exact ⟨ids_idB rfl, by rw [← ha, ← hc]; rfl, trivial⟩
    · (repeat (first | (first | (with_reducible first | refine AX_block ?_ | refine AX_skip ?_ | refine AX_exit ?_ | refine AX_ret ?_ | refine AX_ift ?_ | refine AX_iff ?_ | refine AX_seq_k (fun K hK => ?_) | refine ContX.use (by assumption) ?_) | simp only [thenX, inBlockX, if_true, if_false, reduceCtorEq]) | (first | ((with_reducible refine XOP tyOK ?_); simp (maxSteps := 2000000) (disch := omega) only [go_sem , iInts, iBools, Int.add_sub_cancel, hs1, hs2, hs3, hs4, hs5, rep_lb, rep_lintI, lint_set, ooT_len, ooU_len, List.length_nil]; (with_reducible refine XRes_id ?_)) | ((with_reducible refine XSK ?_); (simp only [putL, List.set_cons_succ, List.set_cons_zero]))) | ((with_reducible refine XRes_nil ?_); refine hK _ ?_; clear hK K) | ((with_reducible refine AX_reg0 fun K hK => ?_); simp only [go_sem]) | (first | ((first | refine XTL (by rfl) hCk ?_ | refine XTL (by rfl) hVs ?_ | refine XTL (by rfl) hC ?_ | refine XTL (by rfl) hO ?_); (simp only [putL, List.set_cons_succ, List.set_cons_zero])))))
      (simp only [bodyX]; refine ⟨_, by simp only [aresults, aresult, XS.as, Tryz.results93, aload, go_sem, Option.bind_some]; rfl, ?_⟩)
      exact ⟨ids_idB rfl, by rw [← ha, ← hc, decide_eq_false h1], trivial⟩
theorem rowV_at (n m : Int) (q : Int) {k i : Nat} (h : i < k) : (rowV n m q k).getD i 0 = nVar n m 1 q i := by
  unfold rowV; rw [List.getD_eq_getElem?_getD, List.getElem?_map, List.getElem?_range h]; rfl
theorem rowV_ln (n m : Int) (q : Int) (k : Nat) : (rowV n m q k).length = k := by unfold rowV; simp
theorem cntT_cg {f g : Nat → Bool} : ∀ k, (∀ i, i < k → f i = g i) → cntT f k = cntT g k ∧ lastT f k = lastT g k
  | 0, _ => ⟨rfl, rfl⟩
  | k + 1, h => by
    have ih := cntT_cg k fun i hi => h i (by omega)
    simp only [cntT, lastT, h k (by omega), ih.1, ih.2]; exact ⟨trivial, trivial⟩
set_option maxRecDepth 100000 in
set_option maxHeartbeats 4000000 in
theorem pf_Order (n m : Int) (M : List Bool) (hM : M.length ≤ 1000000) : PF Tryz.prog 37 [szA n m, .iv (iBools M)] fun r H' => r = .tup [.iv (iInts (ooX n m M)), lt (.bool (decide (ooOk n m M)))] ∧ H' = [] := by
  refine SF.frozen ?_
  have hs1 := trivial; have hs2 := trivial; have hs3 := trivial; have hs4 := trivial; have hs5 := trivial; have hC := trivial; have hO := trivial
  have hCk := pf_nCheck n m
  have hVs := pf_nVars n m
  by_cases hok : nOk n m
  · rw [nCheck_yes hok] at hCk
    by_cases hl : (M.length : Int) = nVars n m
    · have hnoG := fun (k : Nat) (hk : k < n.toNat) (h : ¬ ooG n.toNat m M k) => oo_no (n := n) (m := m) (M := M) fun hh => h (hh.2.2 k hk)
      have hyes := fun (h : ∀ k, k < n.toNat → ooG n.toNat m M k) => oo_yes (n := n) (m := m) (M := M) ⟨hok, hl, h⟩
      obtain ⟨n, rfl⟩ : ∃ N : Nat, n = N := ⟨n.toNat, by unfold nOk at hok; omega⟩
      rw [Int.toNat_natCast] at hnoG hyes
      have hn : n ≤ 64 := by unfold nOk at hok; omega
      rw [← hl] at hVs
      (refine SF_of_bodyX (aload tt) (aload_ok tyOK) Tryz.func37 rfl (by kernel_rfl) ?_; simp only [Tryz.ntmps37, List.length_cons, List.length_nil, Nat.reduceAdd, Nat.reduceSub, List.replicate_succ, List.replicate_zero, List.cons_append, List.nil_append])
      unfold iBools
      (repeat (first | (first | (with_reducible first | refine AX_block ?_ | refine AX_skip ?_ | refine AX_exit ?_ | refine AX_ret ?_ | refine AX_ift ?_ | refine AX_iff ?_ | refine AX_seq_k (fun K hK => ?_) | refine ContX.use (by assumption) ?_) | simp only [thenX, inBlockX, if_true, if_false, reduceCtorEq]) | (first | ((with_reducible refine XOP tyOK ?_); simp (maxSteps := 2000000) (disch := omega) only [go_sem , iInts, iBools, Int.add_sub_cancel, hs1, hs2, hs3, hs4, hs5, rep_lb, rep_lintI, lint_set, ooT_len, ooU_len, List.length_nil]; (with_reducible refine XRes_id ?_)) | ((with_reducible refine XSK ?_); (simp only [putL, List.set_cons_succ, List.set_cons_zero]))) | ((with_reducible refine XRes_nil ?_); refine hK _ ?_; clear hK K) | ((with_reducible refine AX_reg0 fun K hK => ?_); simp only [go_sem]) | (first | ((first | refine XTL (by rfl) hCk ?_ | refine XTL (by rfl) hVs ?_ | refine XTL (by rfl) hC ?_ | refine XTL (by rfl) hO ?_); (simp only [putL, List.set_cons_succ, List.set_cons_zero])))))
      rw [show (List.replicate n (0 : Int)) = ooU n m M 0 from rfl, show List.replicate n false = ooT n m M 0 from rfl]
      (refine AX_wh (σ := Nat) [30, 31, 8, 33, 34, 35, 36, 37, 32, 38, 39, 9, 10, 40, 41, 42, 43, 44, 45, 46, 47, 4, 5, 48, 49, 50, 51, 52, 53, 54, 55] (fun k => [(29, lint k)]) (fun k => [some ⟨51, [lt (.int .i64 n), lt (.int .i64 m)]⟩, some ⟨3, (ooU n m M k).map lint⟩, some ⟨4, (ooT n m M k).map lb⟩]) (fun k => []) (fun k => k ≤ n ∧ ∀ j, j < k → ooG n m M j) (fun k => n - k) 0 (fun d => by first | ((simp only [deadS, updS, List.set_cons_succ, List.set_cons_zero, lint, List.length_nil, List.length_cons]); done) | ((simp only [deadS, updS, List.set_cons_succ, List.set_cons_zero, lint, List.length_nil, List.length_cons]); rfl) | rfl) (by first | (with_reducible rfl) | (simp only [hinit]; done) | rfl) (by first | (with_reducible rfl) | rfl) (by first | exact ⟨Nat.zero_le _, fun j h => absurd h (by omega)⟩) ?_; rintro k d fr hfr ⟨hk, hj⟩; simp only [updS, deadS, List.set_cons_succ, List.set_cons_zero, lint] at hfr; subst hfr; (try dsimp only))
      have hul := ooU_len n m M k
      have htl := ooT_len n m M k
      by_cases hlt : k < n
      · have hC := pf_ofOper n m k hn
        have hO := pf_only (rowV n m k n) M (by rw [rowV_ln]; omega) hM (fun i hi => by
          rw [rowV_ln] at hi
          rw [rowV_at _ _ _ hi, hl]
          exact nVar_pos (nName_1 hok (by omega) (by omega) (by omega) (by omega)))
        have hcg := cntT_cg (f := fun i => tAt M ((rowV n m k n).getD i 0)) (g := ptF n m M k) n fun i hi => by rw [rowV_at _ _ _ hi]; rfl
        rw [rowV_ln, hcg.1, hcg.2] at hO
        by_cases h1 : cntT (ptF n m M k) n = 1
        · rw [decide_eq_true h1] at hO
          have hq := (one_at h1).1
          have hq2 : lastT (ptF n m M k) n = ooP n m M k := rfl
          rw [hq2] at hO hq
          have eU : ooU n m M (k + 1) = (ooU n m M k).set (ooP n m M k) k := rfl
          have eT : ooT n m M (k + 1) = (ooT n m M k).set (ooP n m M k) true := rfl
          have hgk : (ooT n m M k).getD (ooP n m M k) false = false → ooG n m M k := fun h => ⟨h1, h⟩
          have hng : (ooT n m M k).getD (ooP n m M k) false = true → ¬ ooG n m M k := fun h hh => by have h5 := hh.2; rw [h] at h5; cases h5
          generalize hp : ooP n m M k = p at *
          cases h3 : (ooT n m M k).getD p false with
          | false =>
            have hs2 := h3
            have hgk := hgk h3
            (repeat (first | (first | (with_reducible first | refine AX_block ?_ | refine AX_skip ?_ | refine AX_exit ?_ | refine AX_ret ?_ | refine AX_ift ?_ | refine AX_iff ?_ | refine AX_seq_k (fun K hK => ?_) | refine ContX.use (by assumption) ?_) | simp only [thenX, inBlockX, if_true, if_false, reduceCtorEq]) | (first | ((with_reducible refine XOP tyOK ?_); simp (maxSteps := 2000000) (disch := omega) only [go_sem , iInts, iBools, Int.add_sub_cancel, hs1, hs2, hs3, hs4, hs5, rep_lb, rep_lintI, lint_set, ooT_len, ooU_len, List.length_nil]; (with_reducible refine XRes_id ?_)) | ((with_reducible refine XSK ?_); (simp only [putL, List.set_cons_succ, List.set_cons_zero]))) | ((with_reducible refine XRes_nil ?_); refine hK _ ?_; clear hK K) | ((with_reducible refine AX_reg0 fun K hK => ?_); simp only [go_sem]) | (first | ((first | refine XTL (by rfl) hCk ?_ | refine XTL (by rfl) hVs ?_ | refine XTL (by rfl) hC ?_ | refine XTL (by rfl) hO ?_); (simp only [putL, List.set_cons_succ, List.set_cons_zero])))))
            refine whx_ren [0, 1, 2] (k + 1) ⟨by omega, fun j hj3 => ?_⟩ (by (first | omega | (dsimp only; omega) | (simp only; omega))) rfl (by decide) (by decide) (by (simp (maxSteps := 2000000) (disch := omega) only [go_sem, lint])) (by (simp (maxSteps := 2000000) (disch := omega) only [go_sem, lint])) (by rw [eU, eT]; (simp (maxSteps := 2000000) (disch := omega) only [go_sem, lint])) (fun d => by (simp (maxSteps := 2000000) (disch := omega) only [go_sem, lint]))
            rcases Nat.lt_or_ge j k with h | h
            · exact hj j h
            · rw [show j = k by omega]; exact hgk
          | true =>
            have hs2 := h3
            obtain ⟨f1, f2⟩ := hnoG k (by omega) (hng h3)
            (repeat (first | (first | (with_reducible first | refine AX_block ?_ | refine AX_skip ?_ | refine AX_exit ?_ | refine AX_ret ?_ | refine AX_ift ?_ | refine AX_iff ?_ | refine AX_seq_k (fun K hK => ?_) | refine ContX.use (by assumption) ?_) | simp only [thenX, inBlockX, if_true, if_false, reduceCtorEq]) | (first | ((with_reducible refine XOP tyOK ?_); simp (maxSteps := 2000000) (disch := omega) only [go_sem , iInts, iBools, Int.add_sub_cancel, hs1, hs2, hs3, hs4, hs5, rep_lb, rep_lintI, lint_set, ooT_len, ooU_len, List.length_nil]; (with_reducible refine XRes_id ?_)) | ((with_reducible refine XSK ?_); (simp only [putL, List.set_cons_succ, List.set_cons_zero]))) | ((with_reducible refine XRes_nil ?_); refine hK _ ?_; clear hK K) | ((with_reducible refine AX_reg0 fun K hK => ?_); simp only [go_sem]) | (first | ((first | refine XTL (by rfl) hCk ?_ | refine XTL (by rfl) hVs ?_ | refine XTL (by rfl) hC ?_ | refine XTL (by rfl) hO ?_); (simp only [putL, List.set_cons_succ, List.set_cons_zero])))))
            (simp only [bodyX]; refine ⟨_, by simp only [aresults, aresult, XS.as, Tryz.results37, aload, go_sem, Option.bind_some]; rfl, ?_⟩)
            exact ⟨_, Snap.twoP (.iv _ _ (.nil _ _)) (.same _ (.iv _)), by rw [f1, f2]; rfl, trivial⟩
        · rw [decide_eq_false h1] at hO
          obtain ⟨f1, f2⟩ := hnoG k (by omega) fun h => h1 h.1
          (repeat (first | (first | (with_reducible first | refine AX_block ?_ | refine AX_skip ?_ | refine AX_exit ?_ | refine AX_ret ?_ | refine AX_ift ?_ | refine AX_iff ?_ | refine AX_seq_k (fun K hK => ?_) | refine ContX.use (by assumption) ?_) | simp only [thenX, inBlockX, if_true, if_false, reduceCtorEq]) | (first | ((with_reducible refine XOP tyOK ?_); simp (maxSteps := 2000000) (disch := omega) only [go_sem , iInts, iBools, Int.add_sub_cancel, hs1, hs2, hs3, hs4, hs5, rep_lb, rep_lintI, lint_set, ooT_len, ooU_len, List.length_nil]; (with_reducible refine XRes_id ?_)) | ((with_reducible refine XSK ?_); (simp only [putL, List.set_cons_succ, List.set_cons_zero]))) | ((with_reducible refine XRes_nil ?_); refine hK _ ?_; clear hK K) | ((with_reducible refine AX_reg0 fun K hK => ?_); simp only [go_sem]) | (first | ((first | refine XTL (by rfl) hCk ?_ | refine XTL (by rfl) hVs ?_ | refine XTL (by rfl) hC ?_ | refine XTL (by rfl) hO ?_); (simp only [putL, List.set_cons_succ, List.set_cons_zero])))))
          (simp only [bodyX]; refine ⟨_, by simp only [aresults, aresult, XS.as, Tryz.results37, aload, go_sem, Option.bind_some]; rfl, ?_⟩)
          exact ⟨_, Snap.twoP (.iv _ _ (.nil _ _)) (.same _ (.iv _)), by rw [f1, f2]; rfl, trivial⟩
      · obtain rfl : k = n := by omega
        obtain ⟨f1, f2⟩ := hyes hj
        (repeat (first | (first | (with_reducible first | refine AX_block ?_ | refine AX_skip ?_ | refine AX_exit ?_ | refine AX_ret ?_ | refine AX_ift ?_ | refine AX_iff ?_ | refine AX_seq_k (fun K hK => ?_) | refine ContX.use (by assumption) ?_) | simp only [thenX, inBlockX, if_true, if_false, reduceCtorEq]) | (first | ((with_reducible refine XOP tyOK ?_); simp (maxSteps := 2000000) (disch := omega) only [go_sem , iInts, iBools, Int.add_sub_cancel, hs1, hs2, hs3, hs4, hs5, rep_lb, rep_lintI, lint_set, ooT_len, ooU_len, List.length_nil]; (with_reducible refine XRes_id ?_)) | ((with_reducible refine XSK ?_); (simp only [putL, List.set_cons_succ, List.set_cons_zero]))) | ((with_reducible refine XRes_nil ?_); refine hK _ ?_; clear hK K) | ((with_reducible refine AX_reg0 fun K hK => ?_); simp only [go_sem]) | (first | ((first | refine XTL (by rfl) hCk ?_ | refine XTL (by rfl) hVs ?_ | refine XTL (by rfl) hC ?_ | refine XTL (by rfl) hO ?_); (simp only [putL, List.set_cons_succ, List.set_cons_zero])))))
        (simp only [bodyX]; refine ⟨_, by simp only [aresults, aresult, XS.as, Tryz.results37, aload, go_sem, Option.bind_some]; rfl, ?_⟩)
        exact ⟨_, Snap.twoP (snap_ints rfl hul.symm) (.same _ (.iv _)), by rw [f1, f2], trivial⟩
    · have hno : ¬ ooOk n m M := fun h => hl h.2.1
      have hvb : 0 ≤ nVars n m ∧ nVars n m ≤ 6240 := nVars_nonneg n m
      generalize nVars n m = V at *
      (refine SF_of_bodyX (aload tt) (aload_ok tyOK) Tryz.func37 rfl (by kernel_rfl) ?_; simp only [Tryz.ntmps37, List.length_cons, List.length_nil, Nat.reduceAdd, Nat.reduceSub, List.replicate_succ, List.replicate_zero, List.cons_append, List.nil_append])
      unfold iBools
      (repeat (first | (first | (with_reducible first | refine AX_block ?_ | refine AX_skip ?_ | refine AX_exit ?_ | refine AX_ret ?_ | refine AX_ift ?_ | refine AX_iff ?_ | refine AX_seq_k (fun K hK => ?_) | refine ContX.use (by assumption) ?_) | simp only [thenX, inBlockX, if_true, if_false, reduceCtorEq]) | (first | ((with_reducible refine XOP tyOK ?_); simp (maxSteps := 2000000) (disch := omega) only [go_sem , iInts, iBools, Int.add_sub_cancel, hs1, hs2, hs3, hs4, hs5, rep_lb, rep_lintI, lint_set, ooT_len, ooU_len, List.length_nil]; (with_reducible refine XRes_id ?_)) | ((with_reducible refine XSK ?_); (simp only [putL, List.set_cons_succ, List.set_cons_zero]))) | ((with_reducible refine XRes_nil ?_); refine hK _ ?_; clear hK K) | ((with_reducible refine AX_reg0 fun K hK => ?_); simp only [go_sem]) | (first | ((first | refine XTL (by rfl) hCk ?_ | refine XTL (by rfl) hVs ?_ | refine XTL (by rfl) hC ?_ | refine XTL (by rfl) hO ?_); (simp only [putL, List.set_cons_succ, List.set_cons_zero])))))
      ((simp only [bodyX]; refine ⟨_, by simp only [aresults, aresult, XS.as, Tryz.results37, aload, go_sem, Option.bind_some]; rfl, ?_⟩); exact ⟨_, Snap.twoP (.iv _ _ (.nil _ _)) (.same _ (.iv _)), by (rw [(oo_no hno).1, (oo_no hno).2]) <;> rfl, trivial⟩)
  · have hno : ¬ ooOk n m M := fun h => hok h.1
    rw [nCheck_no hok] at hCk
    (refine SF_of_bodyX (aload tt) (aload_ok tyOK) Tryz.func37 rfl (by kernel_rfl) ?_; simp only [Tryz.ntmps37, List.length_cons, List.length_nil, Nat.reduceAdd, Nat.reduceSub, List.replicate_succ, List.replicate_zero, List.cons_append, List.nil_append])
    unfold iBools
    (repeat (first | (first | (with_reducible first | refine AX_block ?_ | refine AX_skip ?_ | refine AX_exit ?_ | refine AX_ret ?_ | refine AX_ift ?_ | refine AX_iff ?_ | refine AX_seq_k (fun K hK => ?_) | refine ContX.use (by assumption) ?_) | simp only [thenX, inBlockX, if_true, if_false, reduceCtorEq]) | (first | ((with_reducible refine XOP tyOK ?_); simp (maxSteps := 2000000) (disch := omega) only [go_sem , iInts, iBools, Int.add_sub_cancel, hs1, hs2, hs3, hs4, hs5, rep_lb, rep_lintI, lint_set, ooT_len, ooU_len, List.length_nil]; (with_reducible refine XRes_id ?_)) | ((with_reducible refine XSK ?_); (simp only [putL, List.set_cons_succ, List.set_cons_zero]))) | ((with_reducible refine XRes_nil ?_); refine hK _ ?_; clear hK K) | ((with_reducible refine AX_reg0 fun K hK => ?_); simp only [go_sem]) | (first | ((first | refine XTL (by rfl) hCk ?_ | refine XTL (by rfl) hVs ?_ | refine XTL (by rfl) hC ?_ | refine XTL (by rfl) hO ?_); (simp only [putL, List.set_cons_succ, List.set_cons_zero])))))
    ((simp only [bodyX]; refine ⟨_, by simp only [aresults, aresult, XS.as, Tryz.results37, aload, go_sem, Option.bind_some]; rfl, ?_⟩); exact ⟨_, Snap.twoP (.iv _ _ (.nil _ _)) (.same _ (.iv _)), by (rw [(oo_no hno).1, (oo_no hno).2]) <;> rfl, trivial⟩)
end Go.Proofs.YtcjnikkmjhagmaaGreatDoor
namespace Go.Proofs.YtcjnikkmjhagmaaGreatDoor
open Go.RowKit
set_option linter.unusedVariables false
set_option linter.unusedSimpArgs false
theorem atV_at' (n m q : Int) {k i : Nat} (h : i < k) : (atV n m q k).getD i 0 = nVar n m 3 q i := by
  unfold atV; rw [List.getD_eq_getElem?_getD, List.getElem?_map, List.getElem?_range h]; rfl
set_option maxRecDepth 100000 in
set_option maxHeartbeats 1000000 in
theorem pf_row1 (n : Nat) (S : Nat) (M : List Bool) (i : Nat) (hok : nOk n S) (hl : (M.length : Int) = nVars n S) (hi : i < n + 1) : PF Tryz.prog 95 [lt (.int .i64 i), .iv (.ptr (szG n S) 2), .iv (.ptr (fun _ => iBools M) 1)] fun r H' => r = .tup [lt (.int .i64 (lastT (srF n S M i) S)), lt (.bool (decide (cntT (srF n S M i) S = 1)))] ∧ H' = [] := by
  refine SF.forgetAll ?_
  have hs1 := trivial; have hs2 := trivial; have hs3 := trivial; have hs4 := trivial; have hs5 := trivial; have hs6 := trivial; have hCk := trivial; have hVs := trivial; have hG := trivial
  have hS : S ≤ 32 := by unfold nOk at hok; omega
  have hA := pf_at n S i hS
  have hM : M.length ≤ 1000000 := by have := nVars_nonneg n S; omega
  have hb : ∀ k, k < S → 1 ≤ (atV n S i S).getD k 0 ∧ (atV n S i S).getD k 0 ≤ M.length := fun k hk => by
    rw [atV_at' _ _ _ hk, hl]
    exact nVar_pos ⟨hok, by decide, by decide, by omega, (by show (i : Int) < n + 1; omega), by omega, (by show (k : Int) < S; omega)⟩
  have hcg := cntT_cg (f := fun k => tAt M ((atV n S i S).getD k 0)) (g := srF n S M i) S fun k hk => by simp only [atV_at' _ _ _ hk]; rfl
  rw [← hcg.1, ← hcg.2]
  clear hcg
  have hln := atV_len n S i S
  generalize atV n S i S = xs at *
  (refine SF_of_bodyX (aload tt) (aload_ok tyOK) Tryz.func95 rfl (by kernel_rfl) ?_; simp only [Tryz.ntmps95, List.length_cons, List.length_nil, Nat.reduceAdd, Nat.reduceSub, List.replicate_succ, List.replicate_zero, List.cons_append, List.nil_append])
  unfold iBools
  unfold iInts at hA
  (repeat (first | (first | (with_reducible first | refine AX_block ?_ | refine AX_skip ?_ | refine AX_exit ?_ | refine AX_ret ?_ | refine AX_ift ?_ | refine AX_iff ?_ | refine AX_seq_k (fun K hK => ?_) | refine ContX.use (by assumption) ?_) | simp only [thenX, inBlockX, if_true, if_false, reduceCtorEq]) | (first | ((with_reducible first | refine XOP tyOK ?_ | refine AOP tyOK ?_); simp (maxSteps := 2000000) (disch := omega) only [go_sem , iInts, iBools, szG, hs1, hs2, hs3, hs4, hs5, hs6, rep_lb, List.length_nil, Int.add_sub_cancel]; (with_reducible first | refine XRes_id ?_ | refine ADF_id ?_)) | ((with_reducible first | refine XSK ?_ | refine ASK ?_); (simp only [putL, List.set_cons_succ, List.set_cons_zero]))) | ((first | (with_reducible refine XRes_nil ?_) | (with_reducible refine ADF_nil ?_)); (first | refine hK _ ?_ | refine hK _ _ ?_); clear hK K) | ((first | (with_reducible refine AX_reg0 fun K hK => ?_) | (refine AX_drawG1 tyOK (by kernel_rfl) (by rfl) (by kernel_rfl) fun K hK => ?_)); simp only [go_sem]) | (first | ((first | refine XTL (by rfl) hCk ?_ | refine ATL tyOK (by rfl) hCk ?_ | refine XTL (by rfl) hVs ?_ | refine ATL tyOK (by rfl) hVs ?_ | refine XTL (by rfl) hG ?_ | refine ATL tyOK (by rfl) hG ?_ | refine XTL (by rfl) hA ?_ | refine ATL tyOK (by rfl) hA ?_); (simp only [putL, List.set_cons_succ, List.set_cons_zero])))))
  (refine AX_wh (σ := Nat × Nat × Nat) [14, 15, 16, 17, 7, 8, 18, 19, 20, 21, 22, 23, 24, 25, 26] (fun (k, a, c) => [(13, lint k), (4, lint a), (6, lint c)]) (fun (k, a, c) => []) (fun (k, a, c) => []) (fun (k, a, c) => k ≤ S ∧ a = lastT (fun i => tAt M (xs.getD i 0)) k ∧ c = cntT (fun i => tAt M (xs.getD i 0)) k ∧ c ≤ k) (fun (k, a, c) => S - k) (0, 0, 0) (fun d => by first | ((simp only [deadS, updS, List.set_cons_succ, List.set_cons_zero, lint, List.length_nil, List.length_cons]); done) | ((simp only [deadS, updS, List.set_cons_succ, List.set_cons_zero, lint, List.length_nil, List.length_cons]); rfl) | rfl) (by first | (with_reducible rfl) | (simp only [hinit]; done) | rfl) (by first | (with_reducible rfl) | rfl) (by first | exact ⟨Nat.zero_le _, rfl, rfl, Nat.le_refl _⟩) ?_; rintro ⟨k, a, c⟩ d fr hfr ⟨hk, ha, hc, hck⟩; simp only [updS, deadS, List.set_cons_succ, List.set_cons_zero, lint] at hfr; subst hfr; (try dsimp only))
  by_cases hlt : k < S
  · have hbk := hb k hlt
    cases ht : tAt M (xs.getD k 0) with
    | true =>
      have hs1 : M.getD (xs.getD k 0 - 1).toNat false = true := ht
      (repeat (first | (first | (with_reducible first | refine AX_block ?_ | refine AX_skip ?_ | refine AX_exit ?_ | refine AX_ret ?_ | refine AX_ift ?_ | refine AX_iff ?_ | refine AX_seq_k (fun K hK => ?_) | refine ContX.use (by assumption) ?_) | simp only [thenX, inBlockX, if_true, if_false, reduceCtorEq]) | (first | ((with_reducible first | refine XOP tyOK ?_ | refine AOP tyOK ?_); simp (maxSteps := 2000000) (disch := omega) only [go_sem , iInts, iBools, szG, hs1, hs2, hs3, hs4, hs5, hs6, rep_lb, List.length_nil, Int.add_sub_cancel]; (with_reducible first | refine XRes_id ?_ | refine ADF_id ?_)) | ((with_reducible first | refine XSK ?_ | refine ASK ?_); (simp only [putL, List.set_cons_succ, List.set_cons_zero]))) | ((first | (with_reducible refine XRes_nil ?_) | (with_reducible refine ADF_nil ?_)); (first | refine hK _ ?_ | refine hK _ _ ?_); clear hK K) | ((first | (with_reducible refine AX_reg0 fun K hK => ?_) | (refine AX_drawG1 tyOK (by kernel_rfl) (by rfl) (by kernel_rfl) fun K hK => ?_)); simp only [go_sem]) | (first | ((first | refine XTL (by rfl) hCk ?_ | refine ATL tyOK (by rfl) hCk ?_ | refine XTL (by rfl) hVs ?_ | refine ATL tyOK (by rfl) hVs ?_ | refine XTL (by rfl) hG ?_ | refine ATL tyOK (by rfl) hG ?_ | refine XTL (by rfl) hA ?_ | refine ATL tyOK (by rfl) hA ?_); (simp only [putL, List.set_cons_succ, List.set_cons_zero])))))
      exact whx_ren [] (k + 1, k, c + 1) ⟨by omega, by simp only [lastT, ht, if_true], by simp only [cntT, ht, if_true, hc], by (first | omega | (dsimp only; omega) | (simp only; omega))⟩ (by (first | omega | (dsimp only; omega) | (simp only; omega))) rfl (by decide) (by decide) (by (simp (maxSteps := 2000000) (disch := omega) only [go_sem, lint])) (by (simp (maxSteps := 2000000) (disch := omega) only [go_sem, lint])) (by (simp (maxSteps := 2000000) (disch := omega) only [go_sem, lint])) (fun d => by (simp (maxSteps := 2000000) (disch := omega) only [go_sem, lint]))
    | false =>
      have hs1 : M.getD (xs.getD k 0 - 1).toNat false = false := ht
      (repeat (first | (first | (with_reducible first | refine AX_block ?_ | refine AX_skip ?_ | refine AX_exit ?_ | refine AX_ret ?_ | refine AX_ift ?_ | refine AX_iff ?_ | refine AX_seq_k (fun K hK => ?_) | refine ContX.use (by assumption) ?_) | simp only [thenX, inBlockX, if_true, if_false, reduceCtorEq]) | (first | ((with_reducible first | refine XOP tyOK ?_ | refine AOP tyOK ?_); simp (maxSteps := 2000000) (disch := omega) only [go_sem , iInts, iBools, szG, hs1, hs2, hs3, hs4, hs5, hs6, rep_lb, List.length_nil, Int.add_sub_cancel]; (with_reducible first | refine XRes_id ?_ | refine ADF_id ?_)) | ((with_reducible first | refine XSK ?_ | refine ASK ?_); (simp only [putL, List.set_cons_succ, List.set_cons_zero]))) | ((first | (with_reducible refine XRes_nil ?_) | (with_reducible refine ADF_nil ?_)); (first | refine hK _ ?_ | refine hK _ _ ?_); clear hK K) | ((first | (with_reducible refine AX_reg0 fun K hK => ?_) | (refine AX_drawG1 tyOK (by kernel_rfl) (by rfl) (by kernel_rfl) fun K hK => ?_)); simp only [go_sem]) | (first | ((first | refine XTL (by rfl) hCk ?_ | refine ATL tyOK (by rfl) hCk ?_ | refine XTL (by rfl) hVs ?_ | refine ATL tyOK (by rfl) hVs ?_ | refine XTL (by rfl) hG ?_ | refine ATL tyOK (by rfl) hG ?_ | refine XTL (by rfl) hA ?_ | refine ATL tyOK (by rfl) hA ?_); (simp only [putL, List.set_cons_succ, List.set_cons_zero])))))
      exact whx_ren [] (k + 1, a, c) ⟨by omega, by simp only [lastT, ht, Bool.false_eq_true, if_false, ha], by simp only [cntT, ht, Bool.false_eq_true, if_false, hc], by (first | omega | (dsimp only; omega) | (simp only; omega))⟩ (by (first | omega | (dsimp only; omega) | (simp only; omega))) rfl (by decide) (by decide) (by (simp (maxSteps := 2000000) (disch := omega) only [go_sem, lint])) (by (simp (maxSteps := 2000000) (disch := omega) only [go_sem, lint])) (by (simp (maxSteps := 2000000) (disch := omega) only [go_sem, lint])) (fun d => by (simp (maxSteps := 2000000) (disch := omega) only [go_sem, lint]))
  · obtain rfl : k = S := by omega
    by_cases h1 : c = 1
    · subst h1
      (repeat (first | (first | (with_reducible first | refine AX_block ?_ | refine AX_skip ?_ | refine AX_exit ?_ | refine AX_ret ?_ | refine AX_ift ?_ | refine AX_iff ?_ | refine AX_seq_k (fun K hK => ?_) | refine ContX.use (by assumption) ?_) | simp only [thenX, inBlockX, if_true, if_false, reduceCtorEq]) | (first | ((with_reducible first | refine XOP tyOK ?_ | refine AOP tyOK ?_); simp (maxSteps := 2000000) (disch := omega) only [go_sem , iInts, iBools, szG, hs1, hs2, hs3, hs4, hs5, hs6, rep_lb, List.length_nil, Int.add_sub_cancel]; (with_reducible first | refine XRes_id ?_ | refine ADF_id ?_)) | ((with_reducible first | refine XSK ?_ | refine ASK ?_); (simp only [putL, List.set_cons_succ, List.set_cons_zero]))) | ((first | (with_reducible refine XRes_nil ?_) | (with_reducible refine ADF_nil ?_)); (first | refine hK _ ?_ | refine hK _ _ ?_); clear hK K) | ((first | (with_reducible refine AX_reg0 fun K hK => ?_) | (refine AX_drawG1 tyOK (by kernel_rfl) (by rfl) (by kernel_rfl) fun K hK => ?_)); simp only [go_sem]) | (first | ((first | refine XTL (by rfl) hCk ?_ | refine ATL tyOK (by rfl) hCk ?_ | refine XTL (by rfl) hVs ?_ | refine ATL tyOK (by rfl) hVs ?_ | refine XTL (by rfl) hG ?_ | refine ATL tyOK (by rfl) hG ?_ | refine XTL (by rfl) hA ?_ | refine ATL tyOK (by rfl) hA ?_); (simp only [putL, List.set_cons_succ, List.set_cons_zero])))))
      (simp only [bodyX]; refine ⟨_, by simp only [aresults, aresult, XS.as, Tryz.results95, aload, go_sem, Option.bind_some]; rfl, ?_⟩)
      exact ⟨ids_idB rfl, by rw [← ha, ← hc]; rfl, trivial⟩
    · (repeat (first | (first | (with_reducible first | refine AX_block ?_ | refine AX_skip ?_ | refine AX_exit ?_ | refine AX_ret ?_ | refine AX_ift ?_ | refine AX_iff ?_ | refine AX_seq_k (fun K hK => ?_) | refine ContX.use (by assumption) ?_) | simp only [thenX, inBlockX, if_true, if_false, reduceCtorEq]) | (first | ((with_reducible first | refine XOP tyOK ?_ | refine AOP tyOK ?_); simp (maxSteps := 2000000) (disch := omega) only [go_sem , iInts, iBools, szG, hs1, hs2, hs3, hs4, hs5, hs6, rep_lb, List.length_nil, Int.add_sub_cancel]; (with_reducible first | refine XRes_id ?_ | refine ADF_id ?_)) | ((with_reducible first | refine XSK ?_ | refine ASK ?_); (simp only [putL, List.set_cons_succ, List.set_cons_zero]))) | ((first | (with_reducible refine XRes_nil ?_) | (with_reducible refine ADF_nil ?_)); (first | refine hK _ ?_ | refine hK _ _ ?_); clear hK K) | ((first | (with_reducible refine AX_reg0 fun K hK => ?_) | (refine AX_drawG1 tyOK (by kernel_rfl) (by rfl) (by kernel_rfl) fun K hK => ?_)); simp only [go_sem]) | (first | ((first | refine XTL (by rfl) hCk ?_ | refine ATL tyOK (by rfl) hCk ?_ | refine XTL (by rfl) hVs ?_ | refine ATL tyOK (by rfl) hVs ?_ | refine XTL (by rfl) hG ?_ | refine ATL tyOK (by rfl) hG ?_ | refine XTL (by rfl) hA ?_ | refine ATL tyOK (by rfl) hA ?_); (simp only [putL, List.set_cons_succ, List.set_cons_zero])))))
      (simp only [bodyX]; refine ⟨_, by simp only [aresults, aresult, XS.as, Tryz.results95, aload, go_sem, Option.bind_some]; rfl, ?_⟩)
      exact ⟨ids_idB rfl, by rw [← ha, ← hc, decide_eq_false h1], trivial⟩
set_option maxRecDepth 100000 in
set_option maxHeartbeats 4000000 in
theorem pf_Row (n m : Int) (M : List Bool) (hM : M.length ≤ 1000000) : PF Tryz.prog 39 [szA n m, .iv (iBools M)] fun r H' => r = .tup [.iv (iInts (sxX n m M)), lt (.bool (decide (sxOk n m M)))] ∧ H' = [] := by
  refine SF.frozen ?_
  have hs1 := trivial; have hs2 := trivial; have hs3 := trivial; have hs4 := trivial; have hs5 := trivial; have hs6 := trivial; have hA := trivial
  have hCk := pf_nCheck n m
  have hVs := pf_nVars n m
  by_cases hok : nOk n m
  · rw [nCheck_yes hok] at hCk
    by_cases hl : (M.length : Int) = nVars n m
    · obtain ⟨n, rfl⟩ : ∃ N : Nat, n = N := ⟨n.toNat, by unfold nOk at hok; omega⟩
      obtain ⟨m, rfl⟩ : ∃ N : Nat, m = N := ⟨m.toNat, by unfold nOk at hok; omega⟩
      have hn : n ≤ 64 := by unfold nOk at hok; omega
      have hG := pf_gatherI (n + 1) (by omega) 95 (.ptr (szG n m) 2) (.ptr (fun _ => iBools M) 1) (fun i => (lastT (srF n m M i) m : Int)) (fun i => decide (cntT (srF n m M i) m = 1)) fun i hi => pf_row1 n m M i hok hl hi
      have e1 : (gB (fun i => decide (cntT (srF n m M i) m = 1)) (n + 1)) = decide (sxOk n m M) := by
        unfold gB
        congr 1
        unfold gOk sxOk sxG
        rw [Int.toNat_natCast, Int.toNat_natCast]
        simp only [decide_eq_true_eq]
        exact propext ⟨fun h => ⟨hok, hl, h⟩, fun h => h.2.2⟩
      have e2 : gXs (fun i => (lastT (srF n m M i) m : Int)) (fun i => decide (cntT (srF n m M i) m = 1)) (n + 1) = sxX n m M := by
        by_cases hs : sxOk n m M
        · rw [(sx_yes hs).1]
          have hs' := hs
          unfold sxOk sxG at hs'
          rw [Int.toNat_natCast, Int.toNat_natCast] at hs'
          rw [(g_yes (v := fun i => (lastT (srF n m M i) m : Int)) (ok := fun i => decide (cntT (srF n m M i) m = 1)) fun i hi => decide_eq_true (hs'.2.2 i hi)).1]
          unfold sxR; rw [Int.toNat_natCast, Int.toNat_natCast]
        · rw [(sx_no hs).1]
          refine (g_no (v := fun i => (lastT (srF n m M i) m : Int)) fun hg => hs ⟨hok, hl, fun a ha => ?_⟩).1
          have := hg a (by rw [Int.toNat_natCast] at ha; exact ha)
          unfold sxG; rw [Int.toNat_natCast]; exact of_decide_eq_true this
      rw [e1, e2] at hG
      rw [← hl] at hVs
      generalize decide (sxOk n m M) = B at *
      generalize sxX n m M = X at *
      (refine SF_of_bodyX (aload tt) (aload_ok tyOK) Tryz.func39 rfl (by kernel_rfl) ?_; simp only [Tryz.ntmps39, List.length_cons, List.length_nil, Nat.reduceAdd, Nat.reduceSub, List.replicate_succ, List.replicate_zero, List.cons_append, List.nil_append])
      (repeat (first | (with_reducible first | refine AX_block ?_ | refine AX_skip ?_ | refine AX_exit ?_ | refine AX_ret ?_ | refine AX_ift ?_ | refine AX_iff ?_ | refine AX_seq_k (fun K hK => ?_) | refine ContX.use (by assumption) ?_) | simp only [thenX, inBlockX, if_true, if_false, reduceCtorEq]))
      ((first | (with_reducible refine AX_reg0 fun K hK => ?_) | (refine AX_drawG1 tyOK (by kernel_rfl) (by rfl) (by kernel_rfl) fun K hK => ?_)); simp only [go_sem])
      repeat (first | ((with_reducible first | refine XOP tyOK ?_ | refine AOP tyOK ?_); simp (maxSteps := 2000000) (disch := omega) only [go_sem , iInts, iBools, szG, hs1, hs2, hs3, hs4, hs5, hs6, rep_lb, List.length_nil, Int.add_sub_cancel]; (with_reducible first | refine XRes_id ?_ | refine ADF_id ?_)) | ((with_reducible first | refine XSK ?_ | refine ASK ?_); (simp only [putL, List.set_cons_succ, List.set_cons_zero])))
      ((first | (with_reducible refine XRes_nil ?_) | (with_reducible refine ADF_nil ?_)); (first | refine hK _ ?_ | refine hK _ _ ?_); clear hK K)
      (repeat (first | (with_reducible first | refine AX_block ?_ | refine AX_skip ?_ | refine AX_exit ?_ | refine AX_ret ?_ | refine AX_ift ?_ | refine AX_iff ?_ | refine AX_seq_k (fun K hK => ?_) | refine ContX.use (by assumption) ?_) | simp only [thenX, inBlockX, if_true, if_false, reduceCtorEq]))
      refine AX_freeze [0, 1] [(2, .iv (.ptr (szG n m) 2)), (3, .iv (.ptr (fun _ => iBools M) 1))] (fun p hp => ?_) ?_
      · rcases List.mem_cons.1 hp with rfl | hp
        · exact frz_sz (by decide) rfl
        · rw [List.mem_singleton.1 hp]; exact frz_row (by decide) rfl
      simp only [setN, updS, List.set_cons_succ, List.set_cons_zero]
      (repeat (first | (first | (with_reducible first | refine AX_block ?_ | refine AX_skip ?_ | refine AX_exit ?_ | refine AX_ret ?_ | refine AX_ift ?_ | refine AX_iff ?_ | refine AX_seq_k (fun K hK => ?_) | refine ContX.use (by assumption) ?_) | simp only [thenX, inBlockX, if_true, if_false, reduceCtorEq]) | (first | ((with_reducible first | refine XOP tyOK ?_ | refine AOP tyOK ?_); simp (maxSteps := 2000000) (disch := omega) only [go_sem , iInts, iBools, szG, hs1, hs2, hs3, hs4, hs5, hs6, rep_lb, List.length_nil, Int.add_sub_cancel]; (with_reducible first | refine XRes_id ?_ | refine ADF_id ?_)) | ((with_reducible first | refine XSK ?_ | refine ASK ?_); (simp only [putL, List.set_cons_succ, List.set_cons_zero]))) | ((first | (with_reducible refine XRes_nil ?_) | (with_reducible refine ADF_nil ?_)); (first | refine hK _ ?_ | refine hK _ _ ?_); clear hK K) | ((first | (with_reducible refine AX_reg0 fun K hK => ?_) | (refine AX_drawG1 tyOK (by kernel_rfl) (by rfl) (by kernel_rfl) fun K hK => ?_)); simp only [go_sem]) | (first | ((first | refine XTL (by rfl) hCk ?_ | refine ATL tyOK (by rfl) hCk ?_ | refine XTL (by rfl) hVs ?_ | refine ATL tyOK (by rfl) hVs ?_ | refine XTL (by rfl) hG ?_ | refine ATL tyOK (by rfl) hG ?_ | refine XTL (by rfl) hA ?_ | refine ATL tyOK (by rfl) hA ?_); (simp only [putL, List.set_cons_succ, List.set_cons_zero])))))
      (simp only [bodyX]; refine ⟨_, by simp only [aresults, aresult, XS.as, Tryz.results39, aload, go_sem, Option.bind_some]; rfl, ?_⟩)
      exact ⟨_, Snap.twoP (.same _ (.iv _)) (.same _ (.iv _)), rfl, trivial⟩
    · have hno : ¬ sxOk n m M := fun h => hl h.2.1
      have hvb : 0 ≤ nVars n m ∧ nVars n m ≤ 6240 := nVars_nonneg n m
      generalize nVars n m = V at *
      have hG := trivial
      (refine SF_of_bodyX (aload tt) (aload_ok tyOK) Tryz.func39 rfl (by kernel_rfl) ?_; simp only [Tryz.ntmps39, List.length_cons, List.length_nil, Nat.reduceAdd, Nat.reduceSub, List.replicate_succ, List.replicate_zero, List.cons_append, List.nil_append])
      (repeat (first | (with_reducible first | refine AX_block ?_ | refine AX_skip ?_ | refine AX_exit ?_ | refine AX_ret ?_ | refine AX_ift ?_ | refine AX_iff ?_ | refine AX_seq_k (fun K hK => ?_) | refine ContX.use (by assumption) ?_) | simp only [thenX, inBlockX, if_true, if_false, reduceCtorEq]))
      ((first | (with_reducible refine AX_reg0 fun K hK => ?_) | (refine AX_drawG1 tyOK (by kernel_rfl) (by rfl) (by kernel_rfl) fun K hK => ?_)); simp only [go_sem])
      repeat (first | ((with_reducible first | refine XOP tyOK ?_ | refine AOP tyOK ?_); simp (maxSteps := 2000000) (disch := omega) only [go_sem , iInts, iBools, szG, hs1, hs2, hs3, hs4, hs5, hs6, rep_lb, List.length_nil, Int.add_sub_cancel]; (with_reducible first | refine XRes_id ?_ | refine ADF_id ?_)) | ((with_reducible first | refine XSK ?_ | refine ASK ?_); (simp only [putL, List.set_cons_succ, List.set_cons_zero])))
      ((first | (with_reducible refine XRes_nil ?_) | (with_reducible refine ADF_nil ?_)); (first | refine hK _ ?_ | refine hK _ _ ?_); clear hK K)
      (repeat (first | (with_reducible first | refine AX_block ?_ | refine AX_skip ?_ | refine AX_exit ?_ | refine AX_ret ?_ | refine AX_ift ?_ | refine AX_iff ?_ | refine AX_seq_k (fun K hK => ?_) | refine ContX.use (by assumption) ?_) | simp only [thenX, inBlockX, if_true, if_false, reduceCtorEq]))
      refine AX_freeze [0, 1] [(2, .iv (.ptr (szG n m) 2)), (3, .iv (.ptr (fun _ => iBools M) 1))] (fun p hp => ?_) ?_
      · rcases List.mem_cons.1 hp with rfl | hp
        · exact frz_sz (by decide) rfl
        · rw [List.mem_singleton.1 hp]; exact frz_row (by decide) rfl
      simp only [setN, updS, List.set_cons_succ, List.set_cons_zero]
      (repeat (first | (first | (with_reducible first | refine AX_block ?_ | refine AX_skip ?_ | refine AX_exit ?_ | refine AX_ret ?_ | refine AX_ift ?_ | refine AX_iff ?_ | refine AX_seq_k (fun K hK => ?_) | refine ContX.use (by assumption) ?_) | simp only [thenX, inBlockX, if_true, if_false, reduceCtorEq]) | (first | ((with_reducible first | refine XOP tyOK ?_ | refine AOP tyOK ?_); simp (maxSteps := 2000000) (disch := omega) only [go_sem , iInts, iBools, szG, hs1, hs2, hs3, hs4, hs5, hs6, rep_lb, List.length_nil, Int.add_sub_cancel]; (with_reducible first | refine XRes_id ?_ | refine ADF_id ?_)) | ((with_reducible first | refine XSK ?_ | refine ASK ?_); (simp only [putL, List.set_cons_succ, List.set_cons_zero]))) | ((first | (with_reducible refine XRes_nil ?_) | (with_reducible refine ADF_nil ?_)); (first | refine hK _ ?_ | refine hK _ _ ?_); clear hK K) | ((first | (with_reducible refine AX_reg0 fun K hK => ?_) | (refine AX_drawG1 tyOK (by kernel_rfl) (by rfl) (by kernel_rfl) fun K hK => ?_)); simp only [go_sem]) | (first | ((first | refine XTL (by rfl) hCk ?_ | refine ATL tyOK (by rfl) hCk ?_ | refine XTL (by rfl) hVs ?_ | refine ATL tyOK (by rfl) hVs ?_ | refine XTL (by rfl) hG ?_ | refine ATL tyOK (by rfl) hG ?_ | refine XTL (by rfl) hA ?_ | refine ATL tyOK (by rfl) hA ?_); (simp only [putL, List.set_cons_succ, List.set_cons_zero])))))
      ((simp only [bodyX]; refine ⟨_, by simp only [aresults, aresult, XS.as, Tryz.results39, aload, go_sem, Option.bind_some]; rfl, ?_⟩); exact ⟨_, Snap.twoP (.iv _ _ (.nil _ _)) (.same _ (.iv _)), by (rw [(sx_no hno).1, (sx_no hno).2]) <;> rfl, trivial⟩)
  · have hno : ¬ sxOk n m M := fun h => hok h.1
    rw [nCheck_no hok] at hCk
    have hG := trivial
    (refine SF_of_bodyX (aload tt) (aload_ok tyOK) Tryz.func39 rfl (by kernel_rfl) ?_; simp only [Tryz.ntmps39, List.length_cons, List.length_nil, Nat.reduceAdd, Nat.reduceSub, List.replicate_succ, List.replicate_zero, List.cons_append, List.nil_append])
    (repeat (first | (with_reducible first | refine AX_block ?_ | refine AX_skip ?_ | refine AX_exit ?_ | refine AX_ret ?_ | refine AX_ift ?_ | refine AX_iff ?_ | refine AX_seq_k (fun K hK => ?_) | refine ContX.use (by assumption) ?_) | simp only [thenX, inBlockX, if_true, if_false, reduceCtorEq]))
    ((first | (with_reducible refine AX_reg0 fun K hK => ?_) | (refine AX_drawG1 tyOK (by kernel_rfl) (by rfl) (by kernel_rfl) fun K hK => ?_)); simp only [go_sem])
    repeat (first | ((with_reducible first | refine XOP tyOK ?_ | refine AOP tyOK ?_); simp (maxSteps := 2000000) (disch := omega) only [go_sem , iInts, iBools, szG, hs1, hs2, hs3, hs4, hs5, hs6, rep_lb, List.length_nil, Int.add_sub_cancel]; (with_reducible first | refine XRes_id ?_ | refine ADF_id ?_)) | ((with_reducible first | refine XSK ?_ | refine ASK ?_); (simp only [putL, List.set_cons_succ, List.set_cons_zero])))
    ((first | (with_reducible refine XRes_nil ?_) | (with_reducible refine ADF_nil ?_)); (first | refine hK _ ?_ | refine hK _ _ ?_); clear hK K)
    (repeat (first | (with_reducible first | refine AX_block ?_ | refine AX_skip ?_ | refine AX_exit ?_ | refine AX_ret ?_ | refine AX_ift ?_ | refine AX_iff ?_ | refine AX_seq_k (fun K hK => ?_) | refine ContX.use (by assumption) ?_) | simp only [thenX, inBlockX, if_true, if_false, reduceCtorEq]))
    refine AX_freeze [0, 1] [(2, .iv (.ptr (szG n m) 2)), (3, .iv (.ptr (fun _ => iBools M) 1))] (fun p hp => ?_) ?_
    · rcases List.mem_cons.1 hp with rfl | hp
      · exact frz_sz (by decide) rfl
      · rw [List.mem_singleton.1 hp]; exact frz_row (by decide) rfl
    simp only [setN, updS, List.set_cons_succ, List.set_cons_zero]
    (repeat (first | (first | (with_reducible first | refine AX_block ?_ | refine AX_skip ?_ | refine AX_exit ?_ | refine AX_ret ?_ | refine AX_ift ?_ | refine AX_iff ?_ | refine AX_seq_k (fun K hK => ?_) | refine ContX.use (by assumption) ?_) | simp only [thenX, inBlockX, if_true, if_false, reduceCtorEq]) | (first | ((with_reducible first | refine XOP tyOK ?_ | refine AOP tyOK ?_); simp (maxSteps := 2000000) (disch := omega) only [go_sem , iInts, iBools, szG, hs1, hs2, hs3, hs4, hs5, hs6, rep_lb, List.length_nil, Int.add_sub_cancel]; (with_reducible first | refine XRes_id ?_ | refine ADF_id ?_)) | ((with_reducible first | refine XSK ?_ | refine ASK ?_); (simp only [putL, List.set_cons_succ, List.set_cons_zero]))) | ((first | (with_reducible refine XRes_nil ?_) | (with_reducible refine ADF_nil ?_)); (first | refine hK _ ?_ | refine hK _ _ ?_); clear hK K) | ((first | (with_reducible refine AX_reg0 fun K hK => ?_) | (refine AX_drawG1 tyOK (by kernel_rfl) (by rfl) (by kernel_rfl) fun K hK => ?_)); simp only [go_sem]) | (first | ((first | refine XTL (by rfl) hCk ?_ | refine ATL tyOK (by rfl) hCk ?_ | refine XTL (by rfl) hVs ?_ | refine ATL tyOK (by rfl) hVs ?_ | refine XTL (by rfl) hG ?_ | refine ATL tyOK (by rfl) hG ?_ | refine XTL (by rfl) hA ?_ | refine ATL tyOK (by rfl) hA ?_); (simp only [putL, List.set_cons_succ, List.set_cons_zero])))))
    ((simp only [bodyX]; refine ⟨_, by simp only [aresults, aresult, XS.as, Tryz.results39, aload, go_sem, Option.bind_some]; rfl, ?_⟩); exact ⟨_, Snap.twoP (.iv _ _ (.nil _ _)) (.same _ (.iv _)), by (rw [(sx_no hno).1, (sx_no hno).2]) <;> rfl, trivial⟩)
end Go.Proofs.YtcjnikkmjhagmaaGreatDoor
