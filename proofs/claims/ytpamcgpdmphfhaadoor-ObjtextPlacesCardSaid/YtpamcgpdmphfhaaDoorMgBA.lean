import Derived.Test.YtpamcgpdmphfhaaDoorMgAZ
import Derived.Test.YtpamcgpdmphfhaaDoorMgAP
import Derived.Test.YtpamcgpdmphfhaaDoorMgAY
import Derived.Test.YtpamcgpdmphfhaaDoorMgAX
namespace Go.Proofs.YtpamcgpdmphfhaaDoor
open Go.RowKit Go.Lib
set_option linter.unusedVariables false
set_option linter.unusedSimpArgs false
def pz : Bool → AV
  | true => .xptr 0 2
  | false => lt (.pointer none)
theorem tkL_at {a b : Int} {ts : List (Nat × List UInt8)} {k : Nat} (h : k < ts.length) : (tkL a b ts).getD (k * 3) undef = .int .i64 a ∧ (tkL a b ts).getD (k * 3 + 1) undef = .int .i64 (b + (ts.getD k (0, [])).1) ∧ (tkL a b ts).getD (k * 3 + 2) undef = .string (ba (ts.getD k (0, [])).2) := by
  induction ts generalizing k with
  | nil => simp at h
  | cons t ts ih =>
    cases k with
    | zero => exact ⟨rfl, rfl, rfl⟩
    | succ k =>
      have := ih (k := k) (by simpa using h)
      have e : ∀ j, (tkL a b (t :: ts)).getD ((k + 1) * 3 + j) undef = (tkL a b ts).getD (k * 3 + j) undef := fun j => by
        rw [show (k + 1) * 3 + j = (k * 3 + j) + 3 by omega]; rfl
      exact ⟨(e 0).trans this.1, (e 1).trans this.2.1, (e 2).trans this.2.2⟩
theorem rnL_u8C (r : Nat → Nat) (l : List UInt8) : rnL r (u8C l) = u8C l := by unfold u8C; rw [rnL_map, List.map_map]; rfl
theorem idL_u8C (p : Nat → Bool) (l : List UInt8) : idL p (u8C l) = true := by unfold u8C; rw [idL_all, List.all_map, List.all_eq_true]; exact fun _ _ => rfl
attribute [go_sem] rnL_u8C idL_u8C
end Go.Proofs.YtpamcgpdmphfhaaDoor
namespace Go.Proofs.YtpamcgpdmphfhaaDoor
open Go.RowKit Go.Lib
set_option linter.unusedVariables false
set_option linter.unusedSimpArgs false
theorem frz_tk {HD : AHeap} {o n : Nat} {t : TypeId} {ln st : Int} {ts : List (Nat × List UInt8)} (h : HD[o]? = some (some ⟨t, tkC ln st ts⟩)) (hn : n = ts.length) : FrzV HD (.osl o 0 n 3) (.iv (iTk ln st ts)) := by
  subst hn
  exact .iv _ _ (.osl _ 0 _ 3 _ ⟨t, tkC ln st ts⟩ (fun j => lt ((tkL ln st ts).getD j undef)) (by decide) h (fun j hj => by
    have hj' : j < (tkL ln st ts).length := by rw [tkL_len]; exact hj
    rw [Nat.zero_add]
    show ((tkL ln st ts).map lt)[j]? = _
    rw [List.getElem?_map, List.getElem?_eq_getElem hj']
    simp [List.getD_eq_getElem?_getD, List.getElem?_eq_getElem hj']) fun j _ => .iv _)
theorem W4b69a {A B : Prop} (h9 : B) (w : B → A := by (intro h9; (repeat intro K hK); refine ⟨?_⟩; (repeat (first | (first | (with_reducible first | refine AX_block ?_ | refine AX_skip ?_ | refine AX_exit ?_ | refine AX_ret ?_ | refine AX_ift ?_ | refine AX_iff ?_ | refine AX_seq_k (fun K hK => ?_) | refine ContX.use (by assumption) ?_) | simp only [thenX, inBlockX, if_true, if_false, reduceCtorEq]) | (first | ((with_reducible refine XOP tyOK ?_); simp (disch := omega) only [go_sem , hs1, hs2, hs3, hs4, hs5, hs6, hs7, hs8, Int.toNat_natCast, tkC_nil, tkC_snoc, tkC_len, tkC_take3, lnC_nil, lnC_len, lnC_take, lnC_snocU, List.length_take]; (with_reducible refine XRes_id ?_)) | (with_reducible refine XSK ?_)) | ((with_reducible refine XRes_nil ?_); refine hK _ ?_; clear hK K) | ((with_reducible refine AX_reg0 fun K hK => ?_); simp only [go_sem]) | (fail))); refine Wk.o ?_; (repeat revert hK K); exact h9)) : A := w h9
set_option maxRecDepth 100000 in
set_option maxHeartbeats 4000000 in
theorem pf_Of5 (rs : List (Nat × Nat × List (Nat × List UInt8))) (hR : rs.length ≤ 1000000) (hT : ∀ r ∈ rs, r.2.2.length ≤ 1000000) : PF Tryd.prog 17 [.iv (iLn rs)] fun r H' => r = .iv (iLn rs) ∧ H' = [] := by
  refine SF.frozen ?_
  have hs1 := trivial; have hs2 := trivial; have hs3 := trivial; have hs4 := trivial; have hs5 := trivial; have hs6 := trivial; have hs7 := trivial; have hs8 := trivial
  have hU : iLn rs = .sl (fun j => rowIV (rs.getD j (0, 0, []))) rs.length 1 := rfl
  rw [hU]
  (refine SF_of_bodyX (aload tt) (aload_ok tyOK) Tryd.func17 rfl (by kernel_rfl) ?_; simp only [Tryd.ntmps17, List.length_cons, List.length_nil, Nat.reduceAdd, Nat.reduceSub, List.replicate_succ, List.replicate_zero, List.cons_append, List.nil_append])
  (refine Wk.o ?_; (repeat revert hK K); refine W4b69a ?_; (repeat intro K hK); refine ⟨?_⟩)
  refine AX_nil 3 56 1 rfl ?_
  (refine AWH (σ := Nat) [8, 9, 10, 11, 5, 6, 14, 15, 16, 17, 18, 19, 20, 23, 24, 25, 26, 27, 28, 29, 7, 30, 31, 32, 33, 34, 35, 36, 37, 38, 39, 21, 22, 40, 41, 42, 43, 12, 13] (fun k => [(4, lint k), (3, .osl 0 0 k 1)]) (fun k => [some ⟨56, lnC (rs.take k)⟩]) (fun k => []) (fun k => k ≤ rs.length) (fun k => rs.length - k) 0 (by first | exact Nat.zero_le _) ?_; rintro k d fr hfr hk; simp only [updS, deadS, List.set_cons_succ, List.set_cons_zero, lint] at hfr; subst hfr; (try dsimp only))
  by_cases hlt : k < rs.length
  · have htk := tk_snocD (0, 0, []) hlt
    rcases hr : rs.getD k (0, 0, []) with ⟨a, c, ts⟩
    rw [hr] at htk
    have hs1 : rowIV (rs.getD k (0, 0, [])) = .sl (fun j => .lit ((tkL a c ts).getD j undef)) ts.length 3 := by rw [hr]; rfl
    have hs2 : decide ((k : Int) < (rs.length : Int)) = true := decide_eq_true (by omega)
    have hTl : ts.length ≤ 1000000 := by
      have := hT (rs.getD k (0, 0, [])) (by rw [List.getD_eq_getElem?_getD, List.getElem?_eq_getElem hlt]; exact List.getElem_mem hlt)
      rw [hr] at this; exact this
    have hI2 : k + 1 ≤ rs.length := by omega
    have hAl : (rs.take k).length = k := by rw [List.length_take]; omega
    generalize hA : rs.take k = A at *
    (refine Wk.o ?_; (repeat revert hK K); refine W4b69a ?_; (repeat intro K hK); refine ⟨?_⟩)
    refine AX_nil 5 69 3 rfl ?_
    (refine AWH (σ := Nat) [14, 15, 16, 17, 18, 19, 20, 23, 24, 25, 26, 27, 28, 29, 7, 30, 31, 32, 33, 34, 35, 36, 37, 38, 39, 21, 22] (fun j => [(6, lint j), (5, .osl 1 0 j 3)]) (fun j => [some ⟨56, lnC A⟩, some ⟨69, tkC a c (ts.take j)⟩]) (fun j => []) (fun j => j ≤ ts.length) (fun j => ts.length - j) 0 (by first | exact Nat.zero_le _) ?_; rintro j d fr hfr hj; simp only [updS, deadS, List.set_cons_succ, List.set_cons_zero, lint] at hfr; subst hfr; (try dsimp only))
    by_cases hj2 : j < ts.length
    · obtain ⟨e1, e2, e3⟩ := tkL_at (a := a) (b := c) hj2
      have hs3 : decide ((j : Int) < (ts.length : Int)) = true := decide_eq_true (by omega)
      have hts := tk_snocD (0, []) hj2
      rcases ht : ts.getD j (0, []) with ⟨ta, tx⟩
      rw [ht] at e2 e3 hts
      dsimp only at e2 e3
      have hs5 := e1
      have hs6 := e2
      have hs7 := e3
      have hI3 : j + 1 ≤ ts.length := by omega
      have hTl2 : (ts.take j).length = j := by rw [List.length_take]; omega
      have hs4 : (tkC a c (ts.take j)).take (j * 3) = tkC a c (ts.take j) := by have := tkC_take3 a c (ts.take j); rw [hTl2] at this; exact this
      generalize hT0 : ts.take j = T0 at *
      have hs8 := hts
      (refine Wk.o ?_; (repeat revert hK K); refine W4b69a ?_; (repeat intro K hK); refine ⟨?_⟩)
      exact whx_ren [0, 4] (j + 1) hI3 (by (first | omega | (dsimp only; omega) | (simp only; omega))) rfl (by decide) (by decide) (by (simp (disch := omega) only [go_sem, lint , hs1, hs2, hs3, hs4, hs5, hs6, hs7, hs8, Int.toNat_natCast, tkC_nil, tkC_snoc, tkC_len, tkC_take3, lnC_nil, lnC_len, lnC_take, lnC_snocU, List.length_take])) (by (simp (disch := omega) only [go_sem, lint , hs1, hs2, hs3, hs4, hs5, hs6, hs7, hs8, Int.toNat_natCast, tkC_nil, tkC_snoc, tkC_len, tkC_take3, lnC_nil, lnC_len, lnC_take, lnC_snocU, List.length_take])) (by (simp (disch := omega) only [go_sem, lint , hs1, hs2, hs3, hs4, hs5, hs6, hs7, hs8, Int.toNat_natCast, tkC_nil, tkC_snoc, tkC_len, tkC_take3, lnC_nil, lnC_len, lnC_take, lnC_snocU, List.length_take])) (fun d => by first | ((simp (disch := omega) only [go_sem, lint , hs1, hs2, hs3, hs4, hs5, hs6, hs7, hs8, Int.toNat_natCast, tkC_nil, tkC_snoc, tkC_len, tkC_take3, lnC_nil, lnC_len, lnC_take, lnC_snocU, List.length_take]); done) | ((simp (disch := omega) only [go_sem, lint , hs1, hs2, hs3, hs4, hs5, hs6, hs7, hs8, Int.toNat_natCast, tkC_nil, tkC_snoc, tkC_len, tkC_take3, lnC_nil, lnC_len, lnC_take, lnC_snocU, List.length_take]); rfl))
    · have hs3 : decide ((j : Int) < (ts.length : Int)) = false := decide_eq_false (by omega)
      have hjt : ts.take j = ts := List.take_of_length_le (by omega)
      obtain rfl : j = ts.length := by omega
      rw [hjt]
      refine AX_freeze [1] [(5, .iv (iTk a c ts))] (fun p hp => ?_) ?_
      · rw [List.mem_singleton.1 hp]; exact frz_tk rfl rfl
      have hs8 := htk
      have hs4 : (lnC A).take k = lnC A := List.take_of_length_le (by rw [lnC_len]; omega)
      simp only [setN, updS, List.set_cons_succ, List.set_cons_zero]
      unfold iTk
      (refine Wk.o ?_; (repeat revert hK K); refine W4b69a ?_; (repeat intro K hK); refine ⟨?_⟩)
      exact whx_ren [3] (k + 1) hI2 (by (first | omega | (dsimp only; omega) | (simp only; omega))) rfl (by decide) (by decide) (by (simp (disch := omega) only [go_sem, lint , hs1, hs2, hs3, hs4, hs5, hs6, hs7, hs8, Int.toNat_natCast, tkC_nil, tkC_snoc, tkC_len, tkC_take3, lnC_nil, lnC_len, lnC_take, lnC_snocU, List.length_take])) (by (simp (disch := omega) only [go_sem, lint , hs1, hs2, hs3, hs4, hs5, hs6, hs7, hs8, Int.toNat_natCast, tkC_nil, tkC_snoc, tkC_len, tkC_take3, lnC_nil, lnC_len, lnC_take, lnC_snocU, List.length_take])) (by (simp (disch := omega) only [go_sem, lint , hs1, hs2, hs3, hs4, hs5, hs6, hs7, hs8, Int.toNat_natCast, tkC_nil, tkC_snoc, tkC_len, tkC_take3, lnC_nil, lnC_len, lnC_take, lnC_snocU, List.length_take])) (fun d => by first | ((simp (disch := omega) only [go_sem, lint , hs1, hs2, hs3, hs4, hs5, hs6, hs7, hs8, Int.toNat_natCast, tkC_nil, tkC_snoc, tkC_len, tkC_take3, lnC_nil, lnC_len, lnC_take, lnC_snocU, List.length_take]); done) | ((simp (disch := omega) only [go_sem, lint , hs1, hs2, hs3, hs4, hs5, hs6, hs7, hs8, Int.toNat_natCast, tkC_nil, tkC_snoc, tkC_len, tkC_take3, lnC_nil, lnC_len, lnC_take, lnC_snocU, List.length_take]); rfl))
  · have hd : rs.take k = rs := List.take_of_length_le (by omega)
    have hs1 : decide ((k : Int) < (rs.length : Int)) = false := decide_eq_false (by omega)
    obtain rfl : k = rs.length := by omega
    rw [hd]
    (refine Wk.o ?_; (repeat revert hK K); refine W4b69a ?_; (repeat intro K hK); refine ⟨?_⟩)
    (simp only [bodyX]; refine ⟨_, by simp only [aresults, aresult, XS.as, Tryd.results17, aload, go_sem, Option.bind_some]; rfl, ?_⟩)
    exact ⟨_, snap_ln rfl rfl, rfl, trivial⟩
end Go.Proofs.YtpamcgpdmphfhaaDoor
namespace Go.Proofs.YtpamcgpdmphfhaaDoor
open Go.RowKit Go.Lib
set_option linter.unusedVariables false
set_option linter.unusedSimpArgs false
theorem We761a {A B : Prop} (h9 : B) (w : B → A := by (intro h9; (repeat intro K hK); refine ⟨?_⟩; (repeat (first | (first | (with_reducible first | refine AX_block ?_ | refine AX_skip ?_ | refine AX_exit ?_ | refine AX_ret ?_ | refine AX_ift ?_ | refine AX_iff ?_ | refine AX_seq_k (fun K hK => ?_) | refine ContX.use (by assumption) ?_) | simp only [thenX, inBlockX, if_true, if_false, reduceCtorEq]) | (first | ((with_reducible refine XOP tyOK ?_); simp (disch := omega) only [go_sem , hs1, hs2, hs3, hs4, hs5, ba_toList, ba_size, byteAt_ba, Int.toNat_zero, Int.toNat_natCast]; (with_reducible refine XRes_id ?_)) | (with_reducible refine XSK ?_)) | ((with_reducible refine XRes_nil ?_); refine hK _ ?_; clear hK K) | ((with_reducible refine AX_reg0 fun K hK => ?_); simp only [go_sem]) | (first | (first | refine XTL (by rfl) hC ?_ | refine XTL (by rfl) hI ?_)))); refine Wk.o ?_; (repeat revert hK K); exact h9)) : A := w h9
set_option maxRecDepth 100000 in
set_option maxHeartbeats 4000000 in
theorem pf_gap (c : UInt8) : PF Tryd.prog 31 [lt (.int .u8 (c.toNat : Int))] fun r H' => r = lt (.bool (isSp c)) ∧ H' = [] := by
  refine SF.forgetAll ?_
  have hs1 := trivial; have hs2 := trivial; have hs3 := trivial; have hs4 := trivial; have hs5 := trivial; have hC := trivial; have hI := trivial
  rw [isSp_int]
  generalize (c.toNat : Int) = n
  by_cases h1 : n = 32
  · subst h1
    (refine SF_of_bodyX (aload tt) (aload_ok tyOK) Tryd.func31 rfl (by kernel_rfl) ?_; simp only [Tryd.ntmps31, List.length_cons, List.length_nil, Nat.reduceAdd, Nat.reduceSub, List.replicate_succ, List.replicate_zero, List.cons_append, List.nil_append])
    (refine Wk.o ?_; (repeat revert hK K); refine We761a ?_; (repeat intro K hK); refine ⟨?_⟩)
    (simp only [bodyX]; refine ⟨_, by simp only [aresults, aresult, XS.as, Tryd.results31, aload, go_sem, Option.bind_some]; rfl, ?_⟩)
    exact ⟨.iv _, rfl, trivial⟩
  · by_cases h2 : n = 9
    · subst h2
      (refine SF_of_bodyX (aload tt) (aload_ok tyOK) Tryd.func31 rfl (by kernel_rfl) ?_; simp only [Tryd.ntmps31, List.length_cons, List.length_nil, Nat.reduceAdd, Nat.reduceSub, List.replicate_succ, List.replicate_zero, List.cons_append, List.nil_append])
      (refine Wk.o ?_; (repeat revert hK K); refine We761a ?_; (repeat intro K hK); refine ⟨?_⟩)
      (simp only [bodyX]; refine ⟨_, by simp only [aresults, aresult, XS.as, Tryd.results31, aload, go_sem, Option.bind_some]; rfl, ?_⟩)
      exact ⟨.iv _, rfl, trivial⟩
    · by_cases h3 : n = 13
      · subst h3
        (refine SF_of_bodyX (aload tt) (aload_ok tyOK) Tryd.func31 rfl (by kernel_rfl) ?_; simp only [Tryd.ntmps31, List.length_cons, List.length_nil, Nat.reduceAdd, Nat.reduceSub, List.replicate_succ, List.replicate_zero, List.cons_append, List.nil_append])
        (refine Wk.o ?_; (repeat revert hK K); refine We761a ?_; (repeat intro K hK); refine ⟨?_⟩)
        (simp only [bodyX]; refine ⟨_, by simp only [aresults, aresult, XS.as, Tryd.results31, aload, go_sem, Option.bind_some]; rfl, ?_⟩)
        exact ⟨.iv _, rfl, trivial⟩
      · (refine SF_of_bodyX (aload tt) (aload_ok tyOK) Tryd.func31 rfl (by kernel_rfl) ?_; simp only [Tryd.ntmps31, List.length_cons, List.length_nil, Nat.reduceAdd, Nat.reduceSub, List.replicate_succ, List.replicate_zero, List.cons_append, List.nil_append])
        (refine Wk.o ?_; (repeat revert hK K); refine We761a ?_; (repeat intro K hK); refine ⟨?_⟩)
        (simp only [bodyX]; refine ⟨_, by simp only [aresults, aresult, XS.as, Tryd.results31, aload, go_sem, Option.bind_some]; rfl, ?_⟩)
        exact ⟨.iv _, by simp [h1, h2, h3], trivial⟩
def wordOk (l : List UInt8) : Bool := !l.isEmpty && l.all fun b => !(isSp b) && !(b == 10)
theorem nl_int (c : UInt8) : (c == 10) = decide ((c.toNat : Int) = 10) := by
  rw [Bool.eq_iff_iff]; simp only [beq_iff_eq, decide_eq_true_eq]; exact (u8_int c 10 (by omega)).symm
end Go.Proofs.YtpamcgpdmphfhaaDoor
