import Derived.Test.YthgmjboldboclaaDoorMgBI
import Derived.Test.YthgmjboldboclaaDoorMgBM
import Derived.Test.YthgmjboldboclaaDoorMgAN
import Derived.Test.YthgmjboldboclaaDoorMgAQ
import Derived.Test.YthgmjboldboclaaDoorMgAR
namespace Go.Proofs.YthgmjboldboclaaDoor
open Go.RowKit Go.Lib
set_option linter.unusedSimpArgs false
def hdT (T : List Tok3) (i : Nat) : List UInt8 := (T.getD i tok0).2.2
def hdQ (i : Nat) : List UInt8 → Int := if i = 0 then wordE [112] else if i = 1 then wordE [99, 110, 102] else if i = 2 then numE 0 100000 else numE 0 1000000
def hdE (T : List Tok3) (i : Nat) : Int := if i < T.length then hdQ i (hdT T i) else 4
def hdI (T : List Tok3) : Nat := if hdE T 0 ≠ 0 then 0 else if hdE T 1 ≠ 0 then 1 else if hdE T 2 ≠ 0 then 2 else if hdE T 3 ≠ 0 then 3 else 4
def hdV (T : List Tok3) : Int := (numR (hdT T 2) 0 100000).1
def hdN (T : List Tok3) : Int := (numR (hdT T 3) 0 1000000).1
def pParse (T : List Tok3) (z : Int) : Int × List (List Int) × Int × Int :=
  if hdI T < 4 then (0, [], rdAt T z (hdI T), hdE T (hdI T)) else
  if (pRun (hdV T) (hdN T) z (T.drop 4) [] []).2.2 ≠ 0 then (0, [], (pRun (hdV T) (hdN T) z (T.drop 4) [] []).2) else (hdV T, pRun (hdV T) (hdN T) z (T.drop 4) [] [])
theorem rd_step {T : List Tok3} {z : Int} (i : Nat) (w : Int) : rdTake T z (hdQ i) (i, 0, w) = (if i < T.length then i + 1 else i, hdE T i, rdAt T z i) := by
  unfold rdTake hdE
  rw [if_neg (by simp)]
  by_cases h : i < T.length
  · rw [if_pos h, if_pos h, if_pos h]; rfl
  · rw [if_neg h, if_neg h, if_neg h]
theorem hdE_lt {T : List Tok3} {i : Nat} (h : hdE T i = 0) : i < T.length := by
  unfold hdE at h
  by_cases h1 : i < T.length
  · exact h1
  · rw [if_neg h1] at h; exact absurd h (by decide)
theorem rd_step0 {T : List Tok3} {z : Int} (i : Nat) (w : Int) (h : hdE T i = 0) : rdTake T z (hdQ i) (i, 0, w) = (i + 1, 0, rdAt T z i) := by
  rw [rd_step, if_pos (hdE_lt h), h]
def hd1 (T : List Tok3) (z : Int) : Rd := rdTake T z (wordE [112]) (0, 0, 0)
def hd2 (T : List Tok3) (z : Int) : Rd := rdTake T z (wordE [99, 110, 102]) (hd1 T z)
def hd3 (T : List Tok3) (z : Int) : Rd := rdTake T z (numE 0 100000) (hd2 T z)
def hd4 (T : List Tok3) (z : Int) : Rd := rdTake T z (numE 0 1000000) (hd3 T z)
theorem hd_code (T : List Tok3) (z : Int) : ((hd4 T z).2.1 ≠ 0 ∧ hdI T < 4 ∧ (hd4 T z).2.1 = hdE T (hdI T) ∧ (hd4 T z).2.2 = rdAt T z (hdI T)) ∨ (4 ≤ T.length ∧ hdI T = 4 ∧ hd4 T z = (4, 0, rdAt T z 3) ∧ rdNum T 0 100000 (hd2 T z) = hdV T ∧ rdNum T 0 1000000 (hd3 T z) = hdN T) := by
  have q0 : hdQ 0 = wordE [112] := rfl
  have q1 : hdQ 1 = wordE [99, 110, 102] := rfl
  have q2 : hdQ 2 = numE 0 100000 := rfl
  have q3 : hdQ 3 = numE 0 1000000 := rfl
  unfold hd4
  by_cases h0 : hdE T 0 = 0
  · have s1 : hd1 T z = (1, 0, rdAt T z 0) := by unfold hd1; rw [← q0, rd_step0 _ _ h0]
    by_cases h1 : hdE T 1 = 0
    · have s2 : hd2 T z = (2, 0, rdAt T z 1) := by unfold hd2; rw [s1, ← q1, rd_step0 _ _ h1]
      by_cases h2 : hdE T 2 = 0
      · have s3 : hd3 T z = (3, 0, rdAt T z 2) := by unfold hd3; rw [s2, ← q2, rd_step0 _ _ h2]
        by_cases h3 : hdE T 3 = 0
        · right
          rw [s2, s3, ← q3, rd_step0 _ _ h3]
          exact ⟨hdE_lt h3, by simp [hdI, h0, h1, h2, h3], rfl, rdNum_go (hdE_lt h2), rdNum_go (hdE_lt h3)⟩
        · left
          have hI : hdI T = 3 := by simp [hdI, h0, h1, h2, h3]
          rw [hI, s3, ← q3, rd_step]
          exact ⟨h3, by decide, rfl, rfl⟩
      · left
        have hI : hdI T = 2 := by simp [hdI, h0, h1, h2]
        have s3 : hd3 T z = (if 2 < T.length then 2 + 1 else 2, hdE T 2, rdAt T z 2) := by unfold hd3; rw [s2, ← q2, rd_step]
        rw [hI, s3, rdTake_bad h2]
        exact ⟨h2, by decide, rfl, rfl⟩
    · left
      have hI : hdI T = 1 := by simp [hdI, h0, h1]
      have s2 : hd2 T z = (if 1 < T.length then 1 + 1 else 1, hdE T 1, rdAt T z 1) := by unfold hd2; rw [s1, ← q1, rd_step]
      unfold hd3
      rw [hI, s2, rdTake_bad h1, rdTake_bad h1]
      exact ⟨h1, by decide, rfl, rfl⟩
  · left
    have hI : hdI T = 0 := by simp [hdI, h0]
    have s1 : hd1 T z = (if 0 < T.length then 0 + 1 else 0, hdE T 0, rdAt T z 0) := by unfold hd1; rw [← q0, rd_step]
    unfold hd3 hd2
    rw [hI, s1, rdTake_bad h0, rdTake_bad h0, rdTake_bad h0]
    exact ⟨h0, by decide, rfl, rfl⟩
theorem pParse_bad {T : List Tok3} {z : Int} (h : hdI T < 4) : pParse T z = (0, [], rdAt T z (hdI T), hdE T (hdI T)) := if_pos h
theorem pParse_run {T : List Tok3} {z : Int} (h : hdI T = 4) : pParse T z = if (pRun (hdV T) (hdN T) z (T.drop 4) [] []).2.2 ≠ 0 then (0, [], (pRun (hdV T) (hdN T) z (T.drop 4) [] []).2) else (hdV T, pRun (hdV T) (hdN T) z (T.drop 4) [] []) := if_neg (by omega)
end Go.Proofs.YthgmjboldboclaaDoor
namespace Go.Proofs.YthgmjboldboclaaDoor
open Go.RowKit Go.Lib
set_option linter.unusedSimpArgs false
theorem tkok_len {m : List UInt8} : ∀ {p : Nat} {ts : List (Nat × List UInt8)}, TkOK m p ts → ∀ t ∈ ts, t.2.length ≤ m.length
  | p, [], _, t, h => by cases h
  | p, x :: ts, h, t, ht => by
    rcases List.mem_cons.1 ht with rfl | ht
    · have := h.2.1.fit; omega
    · exact tkok_len h.2.2 t ht
theorem allT_cons (r : Nat × Nat × List (Nat × List UInt8)) (rs : List (Nat × Nat × List (Nat × List UInt8))) : allT (r :: rs) = (r.2.2.map fun t => ((r.1 : Int), (r.2.1 : Int) + t.1, t.2)) ++ allT rs := rfl
theorem allT_len (n : Nat) : ∀ (ln k : Nat) (l : List UInt8), l.length ≤ n → (allT (lns ln k l)).length ≤ l.length ∧ ∀ t ∈ allT (lns ln k l), t.2.2.length ≤ l.length := by
  induction n with
  | zero => intro ln k l h; have : l = [] := List.length_eq_zero_iff.1 (by omega); subst this; rw [lns_nil]; exact ⟨Nat.zero_le _, fun t ht => by cases ht⟩
  | succ n ih =>
    intro ln k l h
    cases l with
    | nil => rw [lns_nil]; exact ⟨Nat.zero_le _, fun t ht => by cases ht⟩
    | cons c r =>
      have hle := lnLen_le (c :: r)
      have s2 := (lineTk_sum ((c :: r).take (lnLen (c :: r)))).2
      have s3 := tkok_len (line_ok ((c :: r).take (lnLen (c :: r))))
      have hl : ((c :: r).take (lnLen (c :: r))).length = lnLen (c :: r) := by rw [List.length_take]; omega
      rw [hl] at s2 s3
      have hd : ((c :: r).drop (lnLen (c :: r) + 1)).length = (c :: r).length - (lnLen (c :: r) + 1) := by rw [List.length_drop]
      have hc : (c :: r).length = r.length + 1 := rfl
      obtain ⟨h1, h2⟩ := ih (ln + 1) (k + (lnLen (c :: r) + 1)) ((c :: r).drop (lnLen (c :: r) + 1)) (by rw [hd]; omega)
      rw [hd] at h1 h2
      rw [lns, allT_cons]
      refine ⟨?_, fun t ht => ?_⟩
      · rw [List.length_append, List.length_map]; dsimp only; omega
      · rcases List.mem_append.1 ht with ht | ht
        · obtain ⟨x, hx, rfl⟩ := List.mem_map.1 ht
          have := s3 x hx; dsimp only; omega
        · have := h2 t ht; omega
def toks (l : List UInt8) : List Tok3 := allT (lns 1 0 l)
theorem toks_len (l : List UInt8) : (toks l).length ≤ l.length := (allT_len l.length 1 0 l (Nat.le_refl _)).1
theorem toks_txt (l : List UInt8) (j : Nat) : ((toks l).getD j tok0).2.2.length ≤ l.length := by
  by_cases h : j < (toks l).length
  · rw [List.getD_eq_getElem?_getD, List.getElem?_eq_getElem h]; exact (allT_len l.length 1 0 l (Nat.le_refl _)).2 _ (List.getElem_mem h)
  · rw [List.getD_eq_getElem?_getD, List.getElem?_eq_none (by omega)]; exact Nat.zero_le _
theorem lns_rowlen (l : List UInt8) (i : Nat) : ((lns 1 0 l).getD i (0, 0, [])).2.2.length ≤ l.length := by
  by_cases h : i < (lns 1 0 l).length
  · rw [List.getD_eq_getElem?_getD, List.getElem?_eq_getElem h]; exact (lns_sum l.length 1 0 l (Nat.le_refl _)).2.2 _ (List.getElem_mem h)
  · rw [List.getD_eq_getElem?_getD, List.getElem?_eq_none (by omega)]; exact Nat.zero_le _
def prs (l : List UInt8) : Int × List (List Int) × Int × Int := pParse (toks l) l.length
def tx61 : List UInt8 := [99, 32, 111, 110, 101, 10, 112, 32, 99, 110, 102, 32, 50, 32, 50, 10, 49, 32, 45, 50, 32, 48, 32, 50, 10, 48, 10]
def rs61 : List (Nat × Nat × List (Nat × List UInt8)) := [(1, 0, []), (2, 6, [(0, [112]), (2, [99, 110, 102]), (6, [50]), (8, [50])]), (3, 16, [(0, [49]), (2, [45, 50]), (5, [48]), (7, [50])]), (4, 25, [(0, [48])])]
def tx62 : List UInt8 := [112, 32, 99, 110, 102, 32, 50, 32, 49, 10, 49, 32, 51, 32, 48]
def rs62 : List (Nat × Nat × List (Nat × List UInt8)) := [(1, 0, [(0, [112]), (2, [99, 110, 102]), (6, [50]), (8, [49])]), (2, 10, [(0, [49]), (2, [51]), (4, [48])])]
def tx63 : List UInt8 := [112, 32, 99, 110, 102, 32, 50, 32, 49, 10, 49, 32, 45, 49, 32, 48]
def rs63 : List (Nat × Nat × List (Nat × List UInt8)) := [(1, 0, [(0, [112]), (2, [99, 110, 102]), (6, [50]), (8, [49])]), (2, 10, [(0, [49]), (2, [45, 49]), (5, [48])])]
theorem lns_61 : lns 1 0 tx61 = rs61 := by
  unfold tx61 rs61
  simp [lns, lnLen, noNl, lineTk, remark, hasPrefix, tk, isSp, noSp, List.takeWhile, List.dropWhile]
theorem lns_62 : lns 1 0 tx62 = rs62 := by
  unfold tx62 rs62
  simp [lns, lnLen, noNl, lineTk, remark, hasPrefix, tk, isSp, noSp, List.takeWhile, List.dropWhile]
theorem lns_63 : lns 1 0 tx63 = rs63 := by
  unfold tx63 rs63
  simp [lns, lnLen, noNl, lineTk, remark, hasPrefix, tk, isSp, noSp, List.takeWhile, List.dropWhile]
theorem prs_61 : prs tx61 = (2, [[1, -2], [2]], 27, 0) := by
  unfold prs toks; rw [lns_61]; decide +kernel
theorem prs_62 : prs tx62 = (0, [], 12, 7) := by
  unfold prs toks; rw [lns_62]; decide +kernel
theorem prs_63 : prs tx63 = (0, [], 12, 11) := by
  unfold prs toks; rw [lns_63]; decide +kernel
theorem prB_6 : prB 2 [[1, -2], [2]] = [112, 32, 99, 110, 102, 32, 50, 32, 50, 10, 49, 32, 45, 50, 32, 48, 10, 50, 32, 48, 10] := by
  unfold prB headB; simp [clB, litB, itoa, decDigits]
theorem headB_6 : headB 1 0 = [112, 32, 99, 110, 102, 32, 49, 32, 48, 10] := by
  unfold headB; simp [itoa, decDigits]
end Go.Proofs.YthgmjboldboclaaDoor
namespace Go.Proofs.YthgmjboldboclaaDoor
open Go.RowKit Go.Lib
set_option linter.unusedVariables false
set_option linter.unusedSimpArgs false
attribute [go_sem] rnL_tokC idL_tokC tokC_len
set_option maxRecDepth 100000 in
set_option maxHeartbeats 4000000 in
theorem sx_takeGo (T : List Tok3) (k : Nat) (z w e : Int) (hT : T.length ≤ 1000000) (hk : k < T.length) (g : FuncId) (first caps : List AV) (X Y : AHeap) (M MY : MS) (hXY : X.length ≤ Y.length)
    (hWW : SX Tryd.prog g (first ++ [lt (.string (ba (T.getD k tok0).2.2))] ++ caps) ((some ⟨53, [.osl 1 0 T.length 3, lt (.int .i64 k), lt (.int .i64 z), lt (.int .i64 4), lt (.int .i64 (rdAt T z k))]⟩) :: (some ⟨47, tokC T⟩) :: X) M fun r H' M' => r = lt (.int .i64 e) ∧ H' = (some ⟨53, [.osl 1 0 T.length 3, lt (.int .i64 k), lt (.int .i64 z), lt (.int .i64 4), lt (.int .i64 (rdAt T z k))]⟩) :: (some ⟨47, tokC T⟩) :: Y ∧ M' = MY) :
    SX Tryd.prog 41 [.optr 0 0, .fn g first caps] ((some ⟨53, [.osl 1 0 T.length 3, lt (.int .i64 k), lt (.int .i64 z), lt (.int .i64 0), lt (.int .i64 w)]⟩) :: (some ⟨47, tokC T⟩) :: X) M fun r H' M' => r = .tup [] ∧ H' = (some ⟨53, [.osl 1 0 T.length 3, lt (.int .i64 ((k + 1 : Nat) : Int)), lt (.int .i64 z), lt (.int .i64 e), lt (.int .i64 (rdAt T z k))]⟩) :: (some ⟨47, tokC T⟩) :: Y ∧ M' = MY := by
  have hs1 := trivial; have hs2 := trivial; have hs3 := trivial; have hs4 := trivial; have hs5 := trivial; have hs6 := trivial; have hA := trivial; have hW := trivial
  have hA := sf_at T k z 0 w X hT
  have hW0 := hWW
  obtain ⟨g1, g2, g3⟩ := tokC_at hk
  have hs1 := g1; have hs2 := g2; have hs3 := g3
  (refine SX_of_bodyL (aload tt) (aload_ok tyOK) Tryd.func41 rfl (by kernel_rfl) ?_; simp only [Tryd.ntmps41, List.length_cons, List.length_nil, Nat.reduceAdd, Nat.reduceSub, List.replicate_succ, List.replicate_zero, List.cons_append, List.nil_append])
  repeat (first | (first | (with_reducible first | refine AX_block ?_ | refine AX_skip ?_ | refine AX_exit ?_ | refine AX_ret ?_ | refine AX_ift ?_ | refine AX_iff ?_ | refine AX_seq_k (fun K hK => ?_) | refine ContX.use (by assumption) ?_) | simp only [thenX, inBlockX, if_true, if_false, reduceCtorEq]) | (first | ((first | (with_reducible refine XRes_op tyOK ?_ ?_) | ((with_reducible first | refine ADF_op tyOK ?_ ?_ ?_ | refine ADX_op tyOK ?_ ?_ ?_); (focus rfl)) | (with_reducible refine ADR_alloc1 tyOK ?_ ?_) | ((with_reducible refine ADR_free1 tyOK ?_ ?_ ?_); (focus rfl)) | ((with_reducible refine ADR_free0 tyOK ?_ ?_ ?_); (focus rfl)) | ((with_reducible refine ADR_read1 tyOK ?_ ?_ ?_); (focus rfl)) | (with_reducible refine ADR_chg1 tyOK ?_ ?_)); (focus (first | (with_reducible rfl) | ((simp (disch := omega) only [go_sem]); done))); simp (disch := omega) only [go_sem , hs1, hs2, hs3, hs4, hs5, hs6, Int.toNat_natCast, ba_size, Nat.zero_add]; (first | (with_reducible refine XRes_id ?_) | (with_reducible refine ADF_id ?_) | (with_reducible refine ADR_id1 ?_) | (with_reducible refine ADX_id ?_))) | ((first | (with_reducible refine XRes_skip ?_ ?_) | (with_reducible refine ADF_skip (b := true) ?_ ?_) | (with_reducible refine ADX_skip ?_ ?_) | ((with_reducible refine ADR_skip1 ?_ ?_ ?_); (focus rfl))); (focus (first | rfl | ((simp (disch := omega) only [go_sem]); done))); (simp only [putL, List.set_cons_succ, List.set_cons_zero]))) | ((first | (with_reducible refine XRes_nil ?_) | (with_reducible refine ADF_nil ?_) | (with_reducible refine ADR_nil ?_) | (with_reducible refine ADX_nil ?_)); (first | refine hK _ ?_ | refine hK _ _ ?_); clear hK K) | ((first | ((with_reducible refine ADH_free tyOK ?_ ?_ ?_); (focus rfl); (focus (first | (with_reducible rfl) | ((simp (disch := omega) only [go_sem]); done)))) | ((with_reducible refine ADH_read tyOK ?_ ?_ ?_); (focus rfl); (focus (first | (with_reducible rfl) | ((simp (disch := omega) only [go_sem]); done)))) | ((with_reducible refine ADH_chg tyOK ?_ ?_ ?_); (focus (simp only [List.length_cons]; omega)); (focus (first | (with_reducible rfl) | ((simp (disch := omega) only [go_sem]); done))))); simp (disch := omega) only [go_sem , hs1, hs2, hs3, hs4, hs5, hs6, Int.toNat_natCast, ba_size, Nat.zero_add]; (with_reducible refine ADH_id ?_)) | ((refine ADH_callX (by simp only [List.length_cons]; omega) (by rfl) (by rfl) hW0 (by simp only [List.length_cons]; omega) ?_); (simp only [putL, List.set_cons_succ, List.set_cons_zero])) | ((refine ADH_nil ?_); (refine hK _ _ _ (by simp only [List.length_cons]; omega) ?_); clear hK K) | (first | ((refine XRes_fn (by rfl) hA ?_); (rintro r H' ⟨rfl, rfl⟩); (simp only [putL, List.set_cons_succ, List.set_cons_zero]))) | ((with_reducible refine AX_reg0 fun K hK => ?_); simp only [go_sem]) | ((refine AX_drawH (by kernel_rfl) (by decide +kernel) fun K hK => ?_); (simp only [go_sem, alH, kdH, List.map_cons, List.map_nil])))
  refine LeadX.now ?_
  (simp only [bodyXM]; refine ⟨_, by simp only [aresults, aresult, XS.as, Tryd.results41, aload, go_sem, Option.bind_some]; rfl, ?_⟩)
  exact ⟨by first | trivial | rfl, by first | trivial | rfl, by first | trivial | rfl⟩
end Go.Proofs.YthgmjboldboclaaDoor
