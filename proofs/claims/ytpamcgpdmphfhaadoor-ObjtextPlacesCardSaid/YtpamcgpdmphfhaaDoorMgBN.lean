import Derived.Test.YtpamcgpdmphfhaaDoorMgBM
import Derived.Test.YtpamcgpdmphfhaaDoorMgAU
import Derived.Test.YtpamcgpdmphfhaaDoorMgBK
namespace Go.Proofs.YtpamcgpdmphfhaaDoor
open Go.RowKit Go.Lib
set_option linter.unusedVariables false
set_option linter.unusedSimpArgs false
theorem obSm_self (o : Ob) : obSm o o = true := decide_eq_true ⟨rfl, rfl, rfl, rfl⟩
theorem pf_OfL {L : List (List Tok3)} (h : OfRows L) : PF Tryd.prog 17 [.iv (iLs L)] fun r H' => r = .iv (iLs L) ∧ H' = [] := by
  obtain ⟨rs, rfl, h1, h2⟩ := h
  rw [← iLn_ls]
  exact pf_Of5 rs h1 h2
theorem pf_SameL {L : List (List Tok3)} (h : OfRows L) : PF Tryd.prog 16 [.iv (iLs L), .iv (iLs L)] fun r H' => r = lt (.bool true) ∧ H' = [] := by
  obtain ⟨rs, rfl, h1, h2⟩ := h
  rw [← iLn_ls]
  exact pf_rSame5 rs h1 h2
theorem W4feea {A B : Prop} (h9 : B) (w : B → A := by (intro h9; (repeat intro K hK); refine ⟨?_⟩; (repeat (first | (first | (with_reducible first | refine AX_block ?_ | refine AX_skip ?_ | refine AX_exit ?_ | refine AX_ret ?_ | refine AX_ift ?_ | refine AX_iff ?_ | refine AX_seq_k (fun K hK => ?_) | refine ContX.use (by assumption) ?_) | simp only [thenX, inBlockX, if_true, if_false, reduceCtorEq]) | (first | ((first | (with_reducible refine XRes_op tyOK ?_ ?_) | ((with_reducible first | refine ADF_op tyOK ?_ ?_ ?_ | refine ADX_op tyOK ?_ ?_ ?_); (focus rfl)) | (with_reducible refine ADR_alloc1 tyOK ?_ ?_) | ((with_reducible refine ADR_free1 tyOK ?_ ?_ ?_); (focus rfl)) | ((with_reducible refine ADR_free0 tyOK ?_ ?_ ?_); (focus rfl)) | ((with_reducible refine ADR_read1 tyOK ?_ ?_ ?_); (focus rfl)) | (with_reducible refine ADR_chg1 tyOK ?_ ?_)); (focus (first | (with_reducible rfl) | ((simp (disch := omega) only [go_sem]); done))); simp (disch := omega) only [go_sem , hs1, hs2, hs3, hs4, hs5, Int.toNat_zero, Int.toNat_one, Int.toNat_natCast, List.length_nil, ba_size, ls_tail]; (first | (with_reducible refine XRes_id ?_) | (with_reducible refine ADF_id ?_) | (with_reducible refine ADR_id1 ?_) | (with_reducible refine ADX_id ?_))) | ((first | (with_reducible refine XRes_skip ?_ ?_) | (with_reducible refine ADF_skip (b := true) ?_ ?_) | (with_reducible refine ADX_skip ?_ ?_) | ((with_reducible refine ADR_skip1 ?_ ?_ ?_); (focus rfl))); (focus (first | rfl | ((simp (disch := omega) only [go_sem]); done))); (simp only [putL, List.set_cons_succ, List.set_cons_zero]))) | ((first | (with_reducible refine XRes_nil ?_) | (with_reducible refine ADF_nil ?_) | (with_reducible refine ADR_nil ?_) | (with_reducible refine ADX_nil ?_)); (first | refine hK _ ?_ | refine hK _ _ ?_); clear hK K) | ((first | (with_reducible refine AX_reg0 fun K hK => ?_) | (refine AX_drawG1 tyOK (by kernel_rfl) (by rfl) (by kernel_rfl) fun K hK => ?_) | (refine AX_drawT tyOK (by kernel_rfl) (by decide +kernel) fun K hK => ?_) | (refine AX_drawM1 (by kernel_rfl) (by rfl) (by decide +kernel) fun K hK => ?_) | (refine AX_drawA tyOK (by kernel_rfl) (by decide +kernel) fun K hK => ?_)); (first | simp only [go_sem, preN, effOp, runF, alM, mapOp, alD2, kdOf2, Bool.not_false, Bool.not_true, reduceCtorEq] | simp only [go_sem, preN, effOp, runF, alM, mapOp, Bool.not_false, Bool.not_true, reduceCtorEq] | simp only [go_sem, preN, effOp, runF, alD2, kdOf2, Bool.not_false, Bool.not_true, reduceCtorEq] | simp only [go_sem, alD2, kdOf2, Bool.not_false, Bool.not_true, reduceCtorEq] | simp only [go_sem, preN, effOp, runF, Bool.not_false, Bool.not_true, reduceCtorEq] | simp only [go_sem])) | (first | (first | refine XTL (by rfl) hAw ?_ | refine ATL tyOK (by rfl) hAw ?_ | refine XTL (by rfl) hP1 ?_ | refine ATL tyOK (by rfl) hP1 ?_ | refine XTL (by rfl) hP2 ?_ | refine ATL tyOK (by rfl) hP2 ?_ | refine XTL (by rfl) hS1 ?_ | refine ATL tyOK (by rfl) hS1 ?_ | refine XTL (by rfl) hLn ?_ | refine ATL tyOK (by rfl) hLn ?_ | refine XTL (by rfl) hT ?_ | refine ATL tyOK (by rfl) hT ?_ | refine XTL (by rfl) hRn ?_ | refine ATL tyOK (by rfl) hRn ?_ | refine XTL (by rfl) hSd ?_ | refine ATL tyOK (by rfl) hSd ?_ | refine XTL (by rfl) hRT ?_ | refine ATL tyOK (by rfl) hRT ?_ | refine XTL (by rfl) hS2 ?_ | refine ATL tyOK (by rfl) hS2 ?_ | refine XTL (by rfl) hOf ?_ | refine ATL tyOK (by rfl) hOf ?_ | refine XTL (by rfl) hS3 ?_ | refine ATL tyOK (by rfl) hS3 ?_ | refine XTL (by rfl) hSr ?_ | refine ATL tyOK (by rfl) hSr ?_)))); refine Wk.o ?_; (repeat revert hK K); exact h9)) : A := w h9
set_option maxRecDepth 100000 in
set_option maxHeartbeats 4000000 in
theorem pf_ObjtextReads (s : ByteArray) (n : Int) (hAw : PF Tryd.prog 7 [] fun r H' => r = lt (.bool true) ∧ H' = []) : PF Tryd.prog 3 [lt (.string s), lt (.int .i64 n)] fun r H' => r = lt (.bool true) ∧ H' = [] := by
  refine SF.forgetAll ?_
  have hs1 := trivial; have hs2 := trivial; have hs3 := trivial; have hs4 := trivial; have hs5 := trivial; have hP1 := trivial; have hP2 := trivial; have hS1 := trivial; have hLn := trivial; have hT := trivial; have hRn := trivial; have hSd := trivial; have hRT := trivial; have hS2 := trivial; have hOf := trivial; have hS3 := trivial; have hSr := trivial
  obtain ⟨l, rfl⟩ : ∃ l, s = ba l := ⟨s.data.toList, (ba_of s).symm⟩
  by_cases hl : 3000 < l.length
  · have hs1 : decide ((3000 : Int) < (l.length : Int)) = true := decide_eq_true (by omega)
    (refine SF_of_bodyX (aload tt) (aload_ok tyOK) Tryd.func3 rfl (by kernel_rfl) ?_; simp only [Tryd.ntmps3, List.length_cons, List.length_nil, Nat.reduceAdd, Nat.reduceSub, List.replicate_succ, List.replicate_zero, List.cons_append, List.nil_append])
    (refine Wk.o ?_; (repeat revert hK K); refine W4feea ?_; (repeat intro K hK); refine ⟨?_⟩)
    (simp only [bodyX]; refine ⟨_, by simp only [aresults, aresult, XS.as, Tryd.results3, aload, go_sem, Option.bind_some]; rfl, ?_⟩)
    exact ⟨ids_idB rfl, rfl, trivial⟩
  · have hs1 : decide ((3000 : Int) < (l.length : Int)) = false := decide_eq_false (by omega)
    have hok := lnsT_ok (l := l) (by omega)
    have hrw := lnsT_rows (l := l) (by omega)
    have hP1 := pf_oParse l (by omega)
    have hP2 := pf_roParse l (by omega)
    have hS1 := pf_rObSame (opr l).1 (opr l).1 (opr_len (by omega)) (opr_len (by omega))
    rw [obSm_self] at hS1
    have hLn := pf_LinesT l (by omega)
    have hRn := pf_rLinesT l (by omega)
    have hT := pf_Take (lnsT l) n hok
    have hSd := pf_rSaid (lnsT l) hok
    have hRT := pf_rTake (lnsT l) n hok
    have hS2 := pf_rObSame (takeP (lnsT l) n).1 (takeP (lnsT l) n).1 (takeP_len hok) (takeP_len hok)
    rw [obSm_self] at hS2
    have f1 := @takeP_badR (lnsT l) n
    have f2 := fun h => (@takeP_said (lnsT l) n h).1
    have f3 := @takeP_cnt (lnsT l) n
    have f4 := takeP_ls (z := n) hok
    have f5 := takeP_rows (z := n) hrw
    generalize opr l = P at *
    obtain ⟨o1, at1, e1⟩ := P
    generalize lnsT l = L at *
    generalize takeP L n = Q at *
    obtain ⟨o2, rest, at2, e2⟩ := Q
    dsimp only at *
    by_cases he : e2 = 0
    · subst he
      rw [taken_ok] at hRT
      have f2 := f2 rfl
      have f3 := f3 rfl
      have hOf := pf_OfL f5
      have hSr := pf_rSaid rest f4
      have hS3 := pf_SameL f5.said
      rw [show ((o2.R.length : Int) + 1) = ((o2.R.length + 1 : Nat) : Int) by omega] at hRT
      generalize o2.R.length + 1 = k at *
      have hU : iLs (said L) = .sl (fun j => iTokL ((said L).getD j [])) (said L).length 1 := rfl
      have hU2 : iLs (said rest) = .sl (fun j => iTokL (((said L).drop k).getD j [])) ((said L).length - k) 1 := by rw [f2]; unfold iLs; rw [List.length_drop]
      rw [hU] at hSd hRT
      rw [hU2] at hSr hS3
      unfold obA at hP1 hP2 hS1 hT hRT hS2
      (refine SF_of_bodyX (aload tt) (aload_ok tyOK) Tryd.func3 rfl (by kernel_rfl) ?_; simp only [Tryd.ntmps3, List.length_cons, List.length_nil, Nat.reduceAdd, Nat.reduceSub, List.replicate_succ, List.replicate_zero, List.cons_append, List.nil_append])
      (refine Wk.o ?_; (repeat revert hK K); refine W4feea ?_; (repeat intro K hK); refine ⟨?_⟩)
      (simp only [bodyX]; refine ⟨_, by simp only [aresults, aresult, XS.as, Tryd.results3, aload, go_sem, Option.bind_some]; rfl, ?_⟩)
      exact ⟨ids_idB rfl, rfl, trivial⟩
    · rw [taken_bad he] at hRT
      have f1 := f1 he
      subst f1
      have hs2 : (e2 != 0) = true := by simpa using he
      have hU : iLs ([] : List (List Tok3)) = .sl (fun j => iTokL (([] : List (List Tok3)).getD j [])) 0 1 := rfl
      rw [hU] at hT
      unfold obA at hP1 hP2 hS1 hT hRT hS2
      (refine SF_of_bodyX (aload tt) (aload_ok tyOK) Tryd.func3 rfl (by kernel_rfl) ?_; simp only [Tryd.ntmps3, List.length_cons, List.length_nil, Nat.reduceAdd, Nat.reduceSub, List.replicate_succ, List.replicate_zero, List.cons_append, List.nil_append])
      (refine Wk.o ?_; (repeat revert hK K); refine W4feea ?_; (repeat intro K hK); refine ⟨?_⟩)
      (simp only [bodyX]; refine ⟨_, by simp only [aresults, aresult, XS.as, Tryd.results3, aload, go_sem, Option.bind_some]; rfl, ?_⟩)
      exact ⟨ids_idB rfl, rfl, trivial⟩
end Go.Proofs.YtpamcgpdmphfhaaDoor
namespace Go.Proofs.YtpamcgpdmphfhaaDoor
open Go.RowKit
set_option linter.unusedVariables false
theorem objtextReads_walk (w : World) (hB : BaseAt fun b => w.heap[b]?) (s : ByteArray) (hs : s.size ≤ maxLen) (n : Int) (wn : (Lit.int .i64 n).wf = true) :
    Calls Tryd.prog 3 #[.string s, .int .i64 n] w fun e w' => e = .returned (.bool true) ∧ Below w.heap.size w w' :=
  haveI := hB
  law_of (SF.mono (pf_ObjtextReads s n pf_awake24) fun r H' h => h.1) w _ (RL.two (.iv _ _ (.lit _)) (.iv _ _ (.lit _)))
end Go.Proofs.YtpamcgpdmphfhaaDoor
namespace Go.Proofs.YtpamcgpdmphfhaaDoor
open Go.RowKit Go.Lib
def txL (T : List Tok3) : List (List UInt8) := T.map (·.2.2)
theorem txL_row (a c : Nat) (ts : List (Nat × List UInt8)) : txL (rowT (a, c, ts)) = ts.map (·.2) := by unfold txL rowT; rw [List.map_map]; rfl
theorem tk_nums : ∀ (ns : List Int) (k : Nat) {w : List UInt8}, w ≠ [] → (∀ b ∈ w, isSp b = false) → (tk k (w ++ ns.flatMap numB)).map (·.2) = w :: ns.map itoa
  | [], k, w, hn, hw => by rw [List.flatMap_nil, List.append_nil, tk_wend k hn hw]; rfl
  | x :: ns, k, w, hn, hw => by
    have e : w ++ (x :: ns).flatMap numB = w ++ 32 :: (itoa x ++ ns.flatMap numB) := by rw [List.flatMap_cons]; unfold numB; simp
    obtain ⟨k2, h⟩ := tk_wsp k hn hw (itoa x ++ ns.flatMap numB)
    have hx := itoa_word x
    rw [e, h, List.map_cons, tk_nums ns k2 hx.ne fun b hb => (hx.ok b hb).1]; rfl
theorem nGo_itoa {le z : Int} : ∀ (T : List Tok3) (ns : List Int) (bs : List (Int × Int)) (acc : List Int), txL T = ns.map itoa → bs.length = ns.length → (∀ p ∈ bs, p = (0, 1000000)) → (∀ x ∈ ns, 0 ≤ x ∧ x ≤ 1000000) → nGo le z T bs acc = (acc ++ ns, z, 0)
  | [], [], [], acc, _, _, _, _ => by rw [nGo, List.append_nil]
  | [], [], _ :: _, _, _, h, _, _ => by cases h
  | [], _ :: _, _, _, h, _, _, _ => by cases h
  | _ :: _, [], _, _, h, _, _, _ => by cases h
  | _ :: _, _ :: _, [], _, _, h, _, _ => by cases h
  | t :: T, x :: ns, b :: bs, acc, h, hl, hb, hx => by
    unfold txL at h
    rw [List.map_cons, List.map_cons] at h
    injection h with h1 h2
    have hp := hb b (by simp)
    have hx0 := hx x (by simp)
    subst hp
    have hr : numR t.2.2 0 1000000 = (x, 0) := by rw [h1]; exact numR_itoa hx0 ⟨by omega, by omega⟩
    rw [nGo, if_neg (by rw [hr]; simp), hr, nGo_itoa T ns bs _ h2 (by simpa using hl) (fun p hp => hb p (by simp [hp])) fun y hy => hx y (by simp [hy])]
    simp
theorem nums_itoa {T : List Tok3} {w : List UInt8} {a b c d z : Int} (h : txL T = w :: [a, b, c, d].map itoa) (hx : ∀ x ∈ [a, b, c, d], 0 ≤ x ∧ x ≤ 1000000) : T.length ≠ 0 ∧ nums T w lo4 hi4 z = ([a, b, c, d], z, 0) := by
  cases T with
  | nil => cases h
  | cons t T =>
    unfold txL at h
    rw [List.map_cons] at h
    injection h with h1 h2
    refine ⟨by simp, ?_⟩
    unfold nums
    rw [if_neg (by simp), if_neg (by simpa using h1)]
    exact nGo_itoa T [a, b, c, d] _ [] h2 rfl (fun p hp => by
      simp only [lo4, hi4, List.zip_cons_cons, List.zip_nil_left, List.mem_cons, List.not_mem_nil, or_false] at hp
      rcases hp with rfl | rfl | rfl | rfl <;> rfl) hx
theorem lns_lineB {c : UInt8} {w : List UInt8} (ns : List Int) (ln k : Nat) (rest : List UInt8) (hc : c ≠ 99) (hw : ∀ b ∈ c :: w, isSp b = false ∧ b ≠ 10) : ∃ T k2, (lns ln k (lineB (c :: w) ns ++ rest)).map rowT = T :: (lns (ln + 1) k2 rest).map rowT ∧ txL T = (c :: w) :: ns.map itoa := by
  have e : lineB (c :: w) ns ++ rest = ((c :: w) ++ ns.flatMap numB) ++ 10 :: rest := by unfold lineB; simp
  have hm : ∀ b ∈ (c :: w) ++ ns.flatMap numB, b ≠ 10 := fun b hb => by
    rcases List.mem_append.1 hb with hb | hb
    · exact (hw b hb).2
    · obtain ⟨x, _, hx⟩ := List.mem_flatMap.1 hb
      unfold numB at hx
      rcases List.mem_cons.1 hx with rfl | hx
      · decide
      · exact ((itoa_word x).ok b hx).2.1
  refine ⟨rowT (ln, k, lineTk ((c :: w) ++ ns.flatMap numB)), k + (((c :: w) ++ ns.flatMap numB).length + 1), ?_, ?_⟩
  · rw [e, lns_line ln k hm rest, List.map_cons]
  · have hlt : lineTk ((c :: w) ++ ns.flatMap numB) = _ := line_tk ⟨c, w ++ ns.flatMap numB, rfl, hc⟩
    rw [txL_row, hlt, tk_nums ns 0 (by simp) fun b hb => (hw b hb).1]
theorem nxt_cons {T : List Tok3} {L : List (List Tok3)} (h : T.length ≠ 0) : nxt (T :: L) = (T, L) := by rw [nxt, if_neg h]
theorem wRow_ok : ∀ b ∈ wRow, isSp b = false ∧ b ≠ 10 := by decide
theorem wObj_ok : ∀ b ∈ wObj, isSp b = false ∧ b ≠ 10 := by decide
theorem rowsGo_back {z : Int} : ∀ (R A : List Rw) (P : List Int) (ln k : Nat), (∀ r ∈ R, RwSm r) → ∃ P', rowsGo z R.length ((lns ln k (R.flatMap rowB4)).map rowT) A P = (A ++ R, P', [], z, 0)
  | [], A, P, ln, k, _ => ⟨P, by rw [List.flatMap_nil, lns_nil, List.append_nil]; rfl⟩
  | r :: R, A, P, ln, k, h => by
    obtain ⟨g1, g2, g3, g4⟩ := h r (by simp)
    obtain ⟨T, k2, h1, h2⟩ := lns_lineB (c := 114) (w := [111, 119]) [r.s, r.k, r.n, r.r] ln k (R.flatMap rowB4) (by decide) wRow_ok
    obtain ⟨n1, n2⟩ := nums_itoa (z := z) h2 (fun x hx => by
      simp only [List.mem_cons, List.not_mem_nil, or_false] at hx
      rcases hx with rfl | rfl | rfl | rfl
      · exact g1
      · exact g2
      · exact g3
      · exact g4)
    have e : (r :: R).flatMap rowB4 = lineB (114 :: [111, 119]) [r.s, r.k, r.n, r.r] ++ R.flatMap rowB4 := List.flatMap_cons
    have hq : nums (nxt (T :: (lns (ln + 1) k2 (R.flatMap rowB4)).map rowT)).1 wRow lo4 hi4 z = ([r.s, r.k, r.n, r.r], z, 0) := by rw [nxt_cons n1]; exact n2
    rw [e, h1, List.length_cons, rowsGo_ok (by rw [hq]), hq, nxt_cons n1]
    obtain ⟨P', hp⟩ := rowsGo_back (z := z) R (A ++ [rwOf [r.s, r.k, r.n, r.r]]) (P ++ [(T.getD 0 tok0).2.1]) (ln + 1) k2 fun q hq => h q (by simp [hq])
    refine ⟨P', hp.trans ?_⟩
    rw [List.append_assoc]; rfl
theorem opr_back {o : Ob} (he : obE o = 0) (hs : ObSm o) : opr (obB o) = (o, ((obB o).length : Int), 0) := by
  unfold opr
  generalize ((obB o).length : Int) = z
  obtain ⟨S, Kn, I, R⟩ := o
  have hR : ∀ r ∈ R, RwSm r := fun r hr => by
    obtain ⟨i, hi, e⟩ := List.getElem_of_mem hr
    have := hs.row i hi
    rw [rwAt_get hi, e] at this
    exact this
  have hl : ((R.length : Nat) : Int) ≤ 1000000 := by have : R.length ≤ 3000 := hs.len; omega
  obtain ⟨T, k2, h1, h2⟩ := lns_lineB (c := 111) (w := [98, 106, 101, 99, 116]) [S, Kn, I, R.length] 1 0 (R.flatMap rowB4) (by decide) wObj_ok
  have e : lnsT (obB ⟨S, Kn, I, R⟩) = T :: (lns 2 k2 (R.flatMap rowB4)).map rowT := h1
  rw [e]
  generalize hL : (lns 2 k2 (R.flatMap rowB4)).map rowT = L
  obtain ⟨n1, n2⟩ := nums_itoa (z := z) h2 (fun x hx => by
      simp only [List.mem_cons, List.not_mem_nil, or_false] at hx
      rcases hx with rfl | rfl | rfl | rfl
      · exact hs.S
      · exact hs.K
      · exact hs.I
      · exact ⟨by omega, hl⟩)
  have hq : tq (T :: L) z = ([S, Kn, I, (R.length : Int)], z, 0) := by unfold tq; rw [nxt_cons n1]; exact n2
  obtain ⟨P', hp⟩ := rowsGo_back (z := z) R [] [] 2 k2 hR
  have hg : tg (T :: L) z = (R, P', [], z, 0) := by
    unfold tg; rw [hq, nxt_cons n1, ← hL]; exact hp
  have ho : tob (T :: L) z = ⟨S, Kn, I, R⟩ := by unfold tob; rw [hq, hg]; rfl
  have ht := takeP_o (L := T :: L) (z := z) (by rw [hq]) (by rw [hg])
  rw [ho, if_neg (by rw [he]; decide), if_neg (by rw [he]; simp), hg] at ht
  rw [oprs_ok (by rw [ht]), ht]
  exact if_neg (by simp [nxt])
theorem opr_sm {l : List UInt8} (hl : l.length ≤ 3000) (h : (opr l).2.2 = 0) : obE (opr l).1 = 0 ∧ ObSm (opr l).1 := by
  unfold opr at h ⊢
  by_cases h0 : (takeP (lnsT l) l.length).2.2.2 = 0
  · rw [oprs_ok h0] at h ⊢
    split at h
    · cases h
    · rename_i h2
      rw [if_neg h2]
      obtain ⟨a1, a2, a3, a4, a5, a6⟩ := takeP_sm h0
      have hs := lns_sum l.length 1 0 l (Nat.le_refl _)
      have hL : (lnsT l).length = (lns 1 0 l).length := List.length_map ..
      refine ⟨a1, ⟨a2, a3, a4, ?_, fun i hi => ?_⟩⟩
      · show (takeP (lnsT l) l.length).1.R.length ≤ 3000
        omega
      · rw [rwAt_get hi]; exact a6 _ (List.getElem_mem hi)
  · rw [oprs_bad h0] at h; exact absurd h h0
theorem ob_sm {o : Ob} (he : obE o = 0) (hl : o.R.length ≤ 3000) : ObSm o := by
  obtain ⟨h1, h2⟩ := obE_zero.1 he
  unfold obHead at h1
  exact ⟨by omega, by omega, by omega, hl, fun i hi => by
    obtain ⟨g1, g2, g3, g4, _⟩ := obErr_zero (h2 i hi)
    omega⟩
theorem lns_rows4 : ∀ (R : List Rw) (ln k : Nat), ((lns ln k (R.flatMap rowB4)).map rowT).length = R.length
  | [], ln, k => by rw [List.flatMap_nil, lns_nil]; rfl
  | r :: R, ln, k => by
    obtain ⟨T, k2, h1, _⟩ := lns_lineB (c := 114) (w := [111, 119]) [r.s, r.k, r.n, r.r] ln k (R.flatMap rowB4) (by decide) wRow_ok
    have e : (r :: R).flatMap rowB4 = lineB (114 :: [111, 119]) [r.s, r.k, r.n, r.r] ++ R.flatMap rowB4 := List.flatMap_cons
    rw [e, h1, List.length_cons, lns_rows4 R, List.length_cons]
theorem lnsT_back {o : Ob} (hs : ObSm o) : LsOK (lnsT (obB o)) := by
  have ht := hs.tot
  have hl := hs.len
  obtain ⟨S, Kn, I, R⟩ := o
  obtain ⟨T, k2, h1, _⟩ := lns_lineB (c := 111) (w := [98, 106, 101, 99, 116]) [S, Kn, I, R.length] 1 0 (R.flatMap rowB4) (by decide) wObj_ok
  refine lnsT_okG (by omega) ?_
  have e : ((lns 1 0 (obB ⟨S, Kn, I, R⟩)).map rowT).length = _ := congrArg List.length h1
  rw [List.length_cons, lns_rows4, List.length_map] at e
  dsimp only at hl
  omega
theorem opr_bad {l : List UInt8} (h : (opr l).2.2 ≠ 0) : (opr l).1 = ob0 := by
  unfold opr at h ⊢
  by_cases h0 : (takeP (lnsT l) l.length).2.2.2 = 0
  · rw [oprs_ok h0] at h ⊢
    split
    · rfl
    · rename_i h2
      rw [if_neg h2] at h; exact absurd rfl h
  · rw [oprs_bad h0]
end Go.Proofs.YtpamcgpdmphfhaaDoor
