import Derived.Test.YtghdacijcnmhlaaDoorMgBA
import Derived.Test.YtghdacijcnmhlaaDoorMgAL
import Derived.Test.YtghdacijcnmhlaaDoorMgAZ
import Derived.Test.YtghdacijcnmhlaaDoorMgAK
namespace Go.Proofs.YtghdacijcnmhlaaDoor
open Go.RowKit Go.Lib
set_option linter.unusedVariables false
set_option linter.unusedSimpArgs false
def pz : Bool → AV
  | true => .xptr 0 2
  | false => lt (.pointer none)
theorem rnL_u8C (r : Nat → Nat) (l : List UInt8) : rnL r (u8C l) = u8C l := by unfold u8C; rw [rnL_map, List.map_map]; rfl
theorem idL_u8C (p : Nat → Bool) (l : List UInt8) : idL p (u8C l) = true := by unfold u8C; rw [idL_all, List.all_map, List.all_eq_true]; exact fun _ _ => rfl
attribute [go_sem] rnL_u8C idL_u8C
end Go.Proofs.YtghdacijcnmhlaaDoor
namespace Go.Proofs.YtghdacijcnmhlaaDoor
open Go.RowKit Go.Lib
set_option linter.unusedVariables false
set_option linter.unusedSimpArgs false
theorem frz_tk {HD : AHeap} {o n : Nat} {t : TypeId} {ln st : Int} {ts : List (Nat × List UInt8)} (h : HD[o]? = some (some ⟨t, tkC ln st ts⟩)) (hn : n = ts.length) : FrzV HD (.osl o 0 n 3) (.iv (iTk ln st ts)) := by
  subst hn
  exact .iv _ _ (.osl _ 0 _ 3 _ ⟨t, tkC ln st ts⟩ (fun j => lt ((tkL ln st ts).getD j undef)) (by decide) h (fun j hj => by
    have hj' : j < (tkL ln st ts).length := by rw [tkL_len]; exact hj
    rw [Nat.zero_add]
    show ((tkL ln st ts).map lt)[j]? = _
    rw [List.getElem?_map, List.getElem?_eq_getElem hj']
    simp [List.getD_eq_getElem?_getD, List.getElem?_eq_getElem hj']) fun j _ => .iv _)
end Go.Proofs.YtghdacijcnmhlaaDoor
namespace Go.Proofs.YtghdacijcnmhlaaDoor
open Go.RowKit Go.Lib
set_option linter.unusedVariables false
set_option linter.unusedSimpArgs false
theorem We761a {A B : Prop} (h9 : B) (w : B → A := by (intro h9; (repeat intro K hK); refine ⟨?_⟩; (repeat (first | (first | (with_reducible first | refine AX_block ?_ | refine AX_skip ?_ | refine AX_exit ?_ | refine AX_ret ?_ | refine AX_ift ?_ | refine AX_iff ?_ | refine AX_seq_k (fun K hK => ?_) | refine ContX.use (by assumption) ?_) | simp only [thenX, inBlockX, if_true, if_false, reduceCtorEq]) | (first | ((with_reducible refine XOP tyOK ?_); simp (disch := omega) only [go_sem , hs1, hs2, hs3, hs4, hs5, ba_toList, ba_size, byteAt_ba, Int.toNat_zero, Int.toNat_natCast]; (with_reducible refine XRes_id ?_)) | (with_reducible refine XSK ?_)) | ((with_reducible refine XRes_nil ?_); refine hK _ ?_; clear hK K) | ((with_reducible refine AX_reg0 fun K hK => ?_); simp only [go_sem]) | (first | (first | refine XTL (by rfl) hC ?_ | refine XTL (by rfl) hI ?_)))); refine Wk.o ?_; (repeat revert hK K); exact h9)) : A := w h9
set_option maxRecDepth 100000 in
set_option maxHeartbeats 4000000 in
theorem pf_gap (c : UInt8) : PF Tryd.prog 44 [lt (.int .u8 (c.toNat : Int))] fun r H' => r = lt (.bool (isSp c)) ∧ H' = [] := by
  refine SF.forgetAll ?_
  have hs1 := trivial; have hs2 := trivial; have hs3 := trivial; have hs4 := trivial; have hs5 := trivial; have hC := trivial; have hI := trivial
  rw [isSp_int]
  generalize (c.toNat : Int) = n
  by_cases h1 : n = 32
  · subst h1
    (refine SF_of_bodyX (aload tt) (aload_ok tyOK) Tryd.func44 rfl (by kernel_rfl) ?_; simp only [Tryd.ntmps44, List.length_cons, List.length_nil, Nat.reduceAdd, Nat.reduceSub, List.replicate_succ, List.replicate_zero, List.cons_append, List.nil_append])
    (refine Wk.o ?_; (repeat revert hK K); refine We761a ?_; (repeat intro K hK); refine ⟨?_⟩)
    (simp only [bodyX]; refine ⟨_, by simp only [aresults, aresult, XS.as, Tryd.results44, aload, go_sem, Option.bind_some]; rfl, ?_⟩)
    exact ⟨.iv _, rfl, trivial⟩
  · by_cases h2 : n = 9
    · subst h2
      (refine SF_of_bodyX (aload tt) (aload_ok tyOK) Tryd.func44 rfl (by kernel_rfl) ?_; simp only [Tryd.ntmps44, List.length_cons, List.length_nil, Nat.reduceAdd, Nat.reduceSub, List.replicate_succ, List.replicate_zero, List.cons_append, List.nil_append])
      (refine Wk.o ?_; (repeat revert hK K); refine We761a ?_; (repeat intro K hK); refine ⟨?_⟩)
      (simp only [bodyX]; refine ⟨_, by simp only [aresults, aresult, XS.as, Tryd.results44, aload, go_sem, Option.bind_some]; rfl, ?_⟩)
      exact ⟨.iv _, rfl, trivial⟩
    · by_cases h3 : n = 13
      · subst h3
        (refine SF_of_bodyX (aload tt) (aload_ok tyOK) Tryd.func44 rfl (by kernel_rfl) ?_; simp only [Tryd.ntmps44, List.length_cons, List.length_nil, Nat.reduceAdd, Nat.reduceSub, List.replicate_succ, List.replicate_zero, List.cons_append, List.nil_append])
        (refine Wk.o ?_; (repeat revert hK K); refine We761a ?_; (repeat intro K hK); refine ⟨?_⟩)
        (simp only [bodyX]; refine ⟨_, by simp only [aresults, aresult, XS.as, Tryd.results44, aload, go_sem, Option.bind_some]; rfl, ?_⟩)
        exact ⟨.iv _, rfl, trivial⟩
      · (refine SF_of_bodyX (aload tt) (aload_ok tyOK) Tryd.func44 rfl (by kernel_rfl) ?_; simp only [Tryd.ntmps44, List.length_cons, List.length_nil, Nat.reduceAdd, Nat.reduceSub, List.replicate_succ, List.replicate_zero, List.cons_append, List.nil_append])
        (refine Wk.o ?_; (repeat revert hK K); refine We761a ?_; (repeat intro K hK); refine ⟨?_⟩)
        (simp only [bodyX]; refine ⟨_, by simp only [aresults, aresult, XS.as, Tryd.results44, aload, go_sem, Option.bind_some]; rfl, ?_⟩)
        exact ⟨.iv _, by simp [h1, h2, h3], trivial⟩
def wordOk (l : List UInt8) : Bool := !l.isEmpty && l.all fun b => !(isSp b) && !(b == 10)
theorem nl_int (c : UInt8) : (c == 10) = decide ((c.toNat : Int) = 10) := by
  rw [Bool.eq_iff_iff]; simp only [beq_iff_eq, decide_eq_true_eq]; exact (u8_int c 10 (by omega)).symm
end Go.Proofs.YtghdacijcnmhlaaDoor
namespace Go.Proofs.YtghdacijcnmhlaaDoor
open Go.RowKit Go.Lib
set_option linter.unusedVariables false
set_option linter.unusedSimpArgs false
theorem lnC_snoc0 (rs : List (Nat × Nat × List (Nat × List UInt8))) (a b : Nat) : lnC rs ++ [.iv (.sl (fun j => .lit ((tkL a b []).getD j undef)) 0 3)] = lnC (rs ++ [(a, b, [])]) := lnC_snocU rs a b []
theorem W4733a {A B : Prop} (h9 : B) (w : B → A := by (intro h9; (repeat intro K hK); refine ⟨?_⟩; (repeat (first | (first | (with_reducible first | refine AX_block ?_ | refine AX_skip ?_ | refine AX_exit ?_ | refine AX_ret ?_ | refine AX_ift ?_ | refine AX_iff ?_ | refine AX_seq_k (fun K hK => ?_) | refine ContX.use (by assumption) ?_) | simp only [thenX, inBlockX, if_true, if_false, reduceCtorEq]) | (first | ((with_reducible refine XOP tyOK ?_); simp (disch := omega) only [go_sem , lnC_snoc0, hs1, hs2, hs3, hs4, hs5, hs6, hs7, hs8, Int.toNat_natCast, ba_toList, ba_size, byteAt_ba, ba_extract, tkC_nil, tkC_len, tkC_take3, lnC_nil, lnC_len, lnC_take, lnC_snocU]; (with_reducible refine XRes_id ?_)) | (with_reducible refine XSK ?_)) | ((with_reducible refine XRes_nil ?_); refine hK _ ?_; clear hK K) | ((with_reducible refine AX_reg0 fun K hK => ?_); simp only [go_sem]) | (first | (first | refine XTL (by rfl) hC ?_)))); refine Wk.o ?_; (repeat revert hK K); exact h9)) : A := w h9
theorem W4733b {A B : Prop} (h9 : B) (w : B → A := by (intro h9; (repeat intro K hK); refine ⟨?_⟩; (repeat (first | (first | (with_reducible first | refine AX_skip ?_ | refine AX_exit ?_ | refine AX_ret ?_) | ((with_reducible refine AX_if_t ?_ ?_); focus (simp only [go_sem]; done)) | ((with_reducible refine AX_if_f ?_ ?_); focus (simp only [go_sem]; done)) | (with_reducible refine AX_seq_k (fun K hK => ?_)) | ((with_reducible refine ContX.use (by assumption) ?_)) | (simp only [thenX, inBlockX, if_true, if_false, reduceCtorEq])) | (first | ((with_reducible refine XOP tyOK ?_); simp (disch := omega) only [go_sem , lnC_snoc0, hs1, hs2, hs3, hs4, hs5, hs6, hs7, hs8, Int.toNat_natCast, ba_toList, ba_size, byteAt_ba, ba_extract, tkC_nil, tkC_len, tkC_take3, lnC_nil, lnC_len, lnC_take, lnC_snocU]; (with_reducible refine XRes_id ?_)) | (with_reducible refine XSK ?_)) | ((with_reducible refine XRes_nil ?_); refine hK _ ?_; clear hK K) | ((with_reducible refine AX_reg0 fun K hK => ?_); simp only [go_sem]) | (first | (first | refine XTL (by rfl) hC ?_)))); refine Wk.o ?_; (repeat revert hK K); exact h9)) : A := w h9
set_option maxRecDepth 100000 in
set_option maxHeartbeats 4000000 in
theorem pf_rLines (l : List UInt8) (hl : l.length ≤ 1000000) : PF Tryd.prog 24 [lt (.string (ba l))] fun r H' => r = .iv (iLn (lns 1 0 l)) ∧ H' = [] := by
  refine SF.frozen ?_
  have hs1 := trivial; have hs2 := trivial; have hs3 := trivial; have hs4 := trivial; have hs5 := trivial; have hs6 := trivial; have hs7 := trivial; have hs8 := trivial; have hC := trivial
  (refine SF_of_bodyX (aload tt) (aload_ok tyOK) Tryd.func24 rfl (by kernel_rfl) ?_; simp only [Tryd.ntmps24, List.length_cons, List.length_nil, Nat.reduceAdd, Nat.reduceSub, List.replicate_succ, List.replicate_zero, List.cons_append, List.nil_append])
  (refine Wk.o ?_; (repeat revert hK K); refine W4733a ?_; (repeat intro K hK); refine ⟨?_⟩)
  refine AX_nil 3 62 1 rfl ?_
  (refine AWH (σ := Nat × List (Nat × Nat × List (Nat × List UInt8))) [10, 11, 12, 13, 14, 5, 15, 16, 17, 18, 19, 20, 21, 22, 23, 24, 25, 26, 6, 27, 28, 29, 30, 31, 32, 33, 34, 35, 36, 37, 38, 39, 40, 41, 42, 43, 44, 45, 7, 46, 8, 47, 48, 49, 50, 51, 52, 53, 56, 57, 58, 59, 60, 9, 61, 62, 63, 64, 65, 66, 67, 68, 69, 70, 71, 72, 73, 74, 75, 76, 77, 78, 79, 80, 81, 82, 83, 84, 85, 54, 55, 86, 87, 88, 89, 90, 91] (fun (k, rs) => [(4, lint k), (3, .osl 0 0 rs.length 1)]) (fun (k, rs) => [some ⟨62, lnC rs⟩]) (fun (k, rs) => []) (fun (k, rs) => k ≤ l.length + 1 ∧ rs.length ≤ k ∧ lns 1 0 l = rs ++ lns (rs.length + 1) k (l.drop k)) (fun (k, rs) => l.length + 1 - k) (0, []) (by first | exact ⟨Nat.zero_le _, Nat.zero_le _, rfl⟩) ?_; rintro ⟨k, rs⟩ d fr hfr ⟨hk, hr, hz⟩; simp only [updS, deadS, List.set_cons_succ, List.set_cons_zero, lint] at hfr; subst hfr; (try dsimp only))
  by_cases hlt : k < l.length
  · have hle := lnLen_le (l.drop k)
    have hin : ∀ e, k ≤ e → e < k + lnLen (l.drop k) → l.getD e 0 ≠ 10 := fun e h1 h2 => by
      have := lnLen_in (m := l.drop k) (j := e - k) (by omega)
      rw [dropD, show k + (e - k) = e by omega] at this; exact this
    have hat10 : k + lnLen (l.drop k) < l.length → l.getD (k + lnLen (l.drop k)) 0 = 10 := fun h => by
      have := lnLen_at (m := l.drop k) (by rw [List.length_drop]; omega)
      rw [dropD] at this; exact this
    have hat := lns_at (ln := rs.length + 1) hlt
    rw [List.length_drop] at hle
    generalize hn : lnLen (l.drop k) = n at *
    have hkn : k + n ≤ l.length := by omega
    have hL := line_len (l := l) (k := k) (n := n) hkn
    (refine Wk.o ?_; (repeat revert hK K); refine W4733b ?_; (repeat intro K hK); refine ⟨?_⟩)
    refine AX_block ?_
    (refine Wk.o ?_; (repeat revert hK K); refine W4733b ?_; (repeat intro K hK); refine ⟨?_⟩)
    (refine AX_mid [15, 16, 17, 18, 19, 20, 21, 22, 23, 24, 25, 26] [(5, lint ((k + n : Nat) : Int))] [some ⟨62, lnC rs⟩] [] (by assumption) (fun K hK => ?_) (fun d fr hfr => ?_); rotate_left; (simp only [updS, deadS, List.set_cons_succ, List.set_cons_zero, lint] at hfr); (subst hfr); rotate_left)
    · refine AX_block ?_
      (refine AWH (σ := Nat) [15, 16, 17, 18, 19, 20, 21, 22, 23, 24, 25, 26] (fun e => [(5, lint e)]) (fun e => [some ⟨62, lnC rs⟩]) (fun e => []) (fun e => k ≤ e ∧ e ≤ k + n) (fun e => k + n - e) k (by first | exact ⟨Nat.le_refl _, by omega⟩) ?_; rintro e d fr hfr ⟨he1, he2⟩; simp only [updS, deadS, List.set_cons_succ, List.set_cons_zero, lint] at hfr; subst hfr; (try dsimp only))
      by_cases he3 : e < k + n
      · have h10 := nl_int (l.getD e 0)
        have hne : ¬ ((l.getD e 0).toNat : Int) = 10 := fun h => hin e he1 he3 (by rw [decide_eq_true h] at h10; simpa using h10)
        (refine Wk.o ?_; (repeat revert hK K); refine W4733a ?_; (repeat intro K hK); refine ⟨?_⟩)
        exact WEND (e + 1) ⟨by omega, by omega⟩ (by (first | omega | (dsimp only; omega) | (simp only; omega)))
      · obtain rfl : e = k + n := by omega
        by_cases he4 : k + n < l.length
        · have heq : ((l.getD (k + n) 0).toNat : Int) = 10 := by rw [hat10 he4]; rfl
          (refine Wk.o ?_; (repeat revert hK K); refine W4733a ?_; (repeat intro K hK); refine ⟨?_⟩)
          exact mid_end rfl rfl (fun d => by first | ((simp (disch := omega) only [go_sem, lint , lnC_snoc0, hs1, hs2, hs3, hs4, hs5, hs6, hs7, hs8, Int.toNat_natCast, ba_toList, ba_size, byteAt_ba, ba_extract, tkC_nil, tkC_len, tkC_take3, lnC_nil, lnC_len, lnC_take, lnC_snocU]); done) | ((simp (disch := omega) only [go_sem, lint , lnC_snoc0, hs1, hs2, hs3, hs4, hs5, hs6, hs7, hs8, Int.toNat_natCast, ba_toList, ba_size, byteAt_ba, ba_extract, tkC_nil, tkC_len, tkC_take3, lnC_nil, lnC_len, lnC_take, lnC_snocU]); rfl))
        · (refine Wk.o ?_; (repeat revert hK K); refine W4733a ?_; (repeat intro K hK); refine ⟨?_⟩)
          exact mid_end rfl rfl (fun d => by first | ((simp (disch := omega) only [go_sem, lint , lnC_snoc0, hs1, hs2, hs3, hs4, hs5, hs6, hs7, hs8, Int.toNat_natCast, ba_toList, ba_size, byteAt_ba, ba_extract, tkC_nil, tkC_len, tkC_take3, lnC_nil, lnC_len, lnC_take, lnC_snocU]); done) | ((simp (disch := omega) only [go_sem, lint , lnC_snoc0, hs1, hs2, hs3, hs4, hs5, hs6, hs7, hs8, Int.toNat_natCast, ba_toList, ba_size, byteAt_ba, ba_extract, tkC_nil, tkC_len, tkC_take3, lnC_nil, lnC_len, lnC_take, lnC_snocU]); rfl))
    · have hs1 : k + n - k = n := by omega
      have hI2 : ∀ T, lineTk ((l.drop k).take n) = T → k + (n + 1) ≤ l.length + 1 ∧ (rs ++ [(rs.length + 1, k, T)]).length ≤ k + (n + 1) ∧ lns 1 0 l = (rs ++ [(rs.length + 1, k, T)]) ++ lns ((rs ++ [(rs.length + 1, k, T)]).length + 1) (k + (n + 1)) (l.drop (k + (n + 1))) := fun T hT => by
        rw [hT] at hat
        exact ⟨by omega, by rw [List.length_append]; show _ + 1 ≤ _; omega, by rw [hz, hat, List.append_assoc, List.length_append]; rfl⟩
      have hREM : ((((l.drop k).take n == ([99] : List UInt8)) = true) ∨ ((((l.drop k).take n == ([99] : List UInt8)) = false) ∧ 2 ≤ n ∧ (((l.drop k).take 2 == ([99, 32] : List UInt8)) = true))) ∨ ((((l.drop k).take n == ([99] : List UInt8)) = false) ∧ 2 ≤ n ∧ (((l.drop k).take 2 == ([99, 32] : List UInt8)) = false)) ∨ ((((l.drop k).take n == ([99] : List UInt8)) = false) ∧ n < 2) := by
        cases ((l.drop k).take n == ([99] : List UInt8)) <;> cases ((l.drop k).take 2 == ([99, 32] : List UInt8)) <;> rcases Nat.lt_or_ge n 2 with h | h <;> simp <;> omega
      have ht2 : 2 ≤ n → ((l.drop k).take n).take 2 = (l.drop k).take 2 := fun h => by rw [List.take_take, Nat.min_eq_left h]
      have hs2 : (⟨#[99]⟩ : ByteArray).toList = [99] := ba_toList [99]
      have hs3 : (⟨#[99, 32]⟩ : ByteArray).toList = [99, 32] := ba_toList [99, 32]
      have hs4 : ((k : Int) + 2).toNat - k = 2 := by omega
      have hs7 : (((k + n : Nat) : Int) - (k : Int)) = (n : Int) := by omega
      rcases hREM with (hb1 | ⟨hb1, hn2, hb2⟩) | ⟨hb1, hn2, hb2⟩ | ⟨hb1, hn2⟩
      · have hs5 := hb1
        have hT := lineTk_rem (.inl hb1)
        have hn1 : n = 1 := by have := congrArg List.length (eq_of_beq hb1); rw [hL] at this; exact this
        (refine Wk.o ?_; (repeat revert hK K); refine W4733a ?_; (repeat intro K hK); refine ⟨?_⟩)
        refine AX_nil 6 63 3 rfl ?_
        refine AX_freeze [1] [(6, .iv (iTk ((rs.length + 1 : Nat) : Int) k []))] (fun p hp => ?_) ?_
        · rw [List.mem_singleton.1 hp]; exact frz_tk rfl rfl
        unfold iTk
        simp only [setN, updS, List.set_cons_succ, List.set_cons_zero]
        (refine AWH (σ := Unit) [47, 48, 49, 50, 51, 52, 53, 56, 57, 58, 59, 60, 9, 61, 62, 63, 64, 65, 66, 67, 68, 69, 70, 71, 72, 73, 74, 75, 76, 77, 78, 79, 80, 81, 82, 83, 84, 85, 54, 55] (fun u => [(8, lint k), (6, .iv (.sl (fun j => .lit ((tkL ((rs.length + 1 : Nat) : Int) (k : Int) ([] : List (Nat × List UInt8))).getD j undef)) ([] : List (Nat × List UInt8)).length 3))]) (fun u => [some ⟨62, lnC rs⟩, none]) (fun u => []) (fun u => True) (fun u => 0) () (by first | exact trivial) ?_; rintro u d fr hfr -; simp only [updS, deadS, List.set_cons_succ, List.set_cons_zero, lint] at hfr; subst hfr; (try dsimp only))
        have hs8 : decide ((k : Int) < ((k + n : Nat) : Int)) = true := decide_eq_true (by omega)
        (refine Wk.o ?_; (repeat revert hK K); refine W4733a ?_; (repeat intro K hK); refine ⟨?_⟩)
        exact whx_ren [3] (k + (n + 1), rs ++ [(rs.length + 1, k, [])]) (hI2 _ hT) (by (first | omega | (dsimp only; omega) | (simp only; omega))) rfl (by decide) (by decide) (by (simp (disch := omega) only [go_sem, lint , lnC_snoc0, hs1, hs2, hs3, hs4, hs5, hs6, hs7, hs8, Int.toNat_natCast, ba_toList, ba_size, byteAt_ba, ba_extract, tkC_nil, tkC_len, tkC_take3, lnC_nil, lnC_len, lnC_take, lnC_snocU])) (by (simp (disch := omega) only [go_sem, lint , lnC_snoc0, hs1, hs2, hs3, hs4, hs5, hs6, hs7, hs8, Int.toNat_natCast, ba_toList, ba_size, byteAt_ba, ba_extract, tkC_nil, tkC_len, tkC_take3, lnC_nil, lnC_len, lnC_take, lnC_snocU])) (by (simp (disch := omega) only [go_sem, lint , lnC_snoc0, hs1, hs2, hs3, hs4, hs5, hs6, hs7, hs8, Int.toNat_natCast, ba_toList, ba_size, byteAt_ba, ba_extract, tkC_nil, tkC_len, tkC_take3, lnC_nil, lnC_len, lnC_take, lnC_snocU])) (fun d => by first | ((simp (disch := omega) only [go_sem, lint , lnC_snoc0, hs1, hs2, hs3, hs4, hs5, hs6, hs7, hs8, Int.toNat_natCast, ba_toList, ba_size, byteAt_ba, ba_extract, tkC_nil, tkC_len, tkC_take3, lnC_nil, lnC_len, lnC_take, lnC_snocU]); done) | ((simp (disch := omega) only [go_sem, lint , lnC_snoc0, hs1, hs2, hs3, hs4, hs5, hs6, hs7, hs8, Int.toNat_natCast, ba_toList, ba_size, byteAt_ba, ba_extract, tkC_nil, tkC_len, tkC_take3, lnC_nil, lnC_len, lnC_take, lnC_snocU]); rfl))
      · have hs5 := hb1
        have hs6 := hb2
        have hT := lineTk_rem (.inr ⟨by rw [hL]; exact hn2, by rw [ht2 hn2]; exact hb2⟩)
        (refine Wk.o ?_; (repeat revert hK K); refine W4733a ?_; (repeat intro K hK); refine ⟨?_⟩)
        refine AX_nil 6 63 3 rfl ?_
        refine AX_freeze [1] [(6, .iv (iTk ((rs.length + 1 : Nat) : Int) k []))] (fun p hp => ?_) ?_
        · rw [List.mem_singleton.1 hp]; exact frz_tk rfl rfl
        unfold iTk
        simp only [setN, updS, List.set_cons_succ, List.set_cons_zero]
        (refine AWH (σ := Unit) [47, 48, 49, 50, 51, 52, 53, 56, 57, 58, 59, 60, 9, 61, 62, 63, 64, 65, 66, 67, 68, 69, 70, 71, 72, 73, 74, 75, 76, 77, 78, 79, 80, 81, 82, 83, 84, 85, 54, 55] (fun u => [(8, lint k), (6, .iv (.sl (fun j => .lit ((tkL ((rs.length + 1 : Nat) : Int) (k : Int) ([] : List (Nat × List UInt8))).getD j undef)) ([] : List (Nat × List UInt8)).length 3))]) (fun u => [some ⟨62, lnC rs⟩, none]) (fun u => []) (fun u => True) (fun u => 0) () (by first | exact trivial) ?_; rintro u d fr hfr -; simp only [updS, deadS, List.set_cons_succ, List.set_cons_zero, lint] at hfr; subst hfr; (try dsimp only))
        have hs8 : decide ((k : Int) < ((k + n : Nat) : Int)) = true := decide_eq_true (by omega)
        (refine Wk.o ?_; (repeat revert hK K); refine W4733a ?_; (repeat intro K hK); refine ⟨?_⟩)
        exact whx_ren [3] (k + (n + 1), rs ++ [(rs.length + 1, k, [])]) (hI2 _ hT) (by (first | omega | (dsimp only; omega) | (simp only; omega))) rfl (by decide) (by decide) (by (simp (disch := omega) only [go_sem, lint , lnC_snoc0, hs1, hs2, hs3, hs4, hs5, hs6, hs7, hs8, Int.toNat_natCast, ba_toList, ba_size, byteAt_ba, ba_extract, tkC_nil, tkC_len, tkC_take3, lnC_nil, lnC_len, lnC_take, lnC_snocU])) (by (simp (disch := omega) only [go_sem, lint , lnC_snoc0, hs1, hs2, hs3, hs4, hs5, hs6, hs7, hs8, Int.toNat_natCast, ba_toList, ba_size, byteAt_ba, ba_extract, tkC_nil, tkC_len, tkC_take3, lnC_nil, lnC_len, lnC_take, lnC_snocU])) (by (simp (disch := omega) only [go_sem, lint , lnC_snoc0, hs1, hs2, hs3, hs4, hs5, hs6, hs7, hs8, Int.toNat_natCast, ba_toList, ba_size, byteAt_ba, ba_extract, tkC_nil, tkC_len, tkC_take3, lnC_nil, lnC_len, lnC_take, lnC_snocU])) (fun d => by first | ((simp (disch := omega) only [go_sem, lint , lnC_snoc0, hs1, hs2, hs3, hs4, hs5, hs6, hs7, hs8, Int.toNat_natCast, ba_toList, ba_size, byteAt_ba, ba_extract, tkC_nil, tkC_len, tkC_take3, lnC_nil, lnC_len, lnC_take, lnC_snocU]); done) | ((simp (disch := omega) only [go_sem, lint , lnC_snoc0, hs1, hs2, hs3, hs4, hs5, hs6, hs7, hs8, Int.toNat_natCast, ba_toList, ba_size, byteAt_ba, ba_extract, tkC_nil, tkC_len, tkC_take3, lnC_nil, lnC_len, lnC_take, lnC_snocU]); rfl))
      · have hs5 := hb1
        have hs6 := hb2
        have hT := lineTk_not hb1 (.inr (by rw [ht2 hn2]; exact hb2))
        (refine Wk.o ?_; (repeat revert hK K); refine W4733a ?_; (repeat intro K hK); refine ⟨?_⟩)
        refine AX_nil 6 63 3 rfl ?_
        (refine AWH (σ := Nat × List (Nat × List UInt8)) [47, 48, 49, 50, 51, 52, 53, 56, 57, 58, 59, 60, 9, 61, 62, 63, 64, 65, 66, 67, 68, 69, 70, 71, 72, 73, 74, 75, 76, 77, 78, 79, 80, 81, 82, 83, 84, 85, 54, 55] (fun (i, T) => [(8, lint i), (6, .osl 1 0 T.length 3)]) (fun (i, T) => [some ⟨62, lnC rs⟩, some ⟨63, tkC ((rs.length + 1 : Nat) : Int) k T⟩]) (fun (i, T) => []) (fun (i, T) => k ≤ i ∧ i ≤ k + n + 1 ∧ T.length ≤ i - k ∧ lineTk ((l.drop k).take n) = T ++ tk (i - k) (((l.drop k).take n).drop (i - k))) (fun (i, T) => k + n + 1 - i) (k, []) (by first | exact ⟨Nat.le_refl _, by omega, Nat.zero_le _, by rw [hT, Nat.sub_self]; rfl⟩) ?_; rintro ⟨i, T⟩ d fr hfr ⟨hi1, hi2, hi3, hi4⟩; simp only [updS, deadS, List.set_cons_succ, List.set_cons_zero, lint] at hfr; subst hfr; (try dsimp only))
        by_cases hi5 : i < k + n
        · have hs8 : decide ((i : Int) < ((k + n : Nat) : Int)) = true := decide_eq_true (by omega)
          have hC := pf_gap (l.getD i 0)
          cases hsp : isSp (l.getD i 0) with
          | true =>
            rw [hsp] at hC
            have hI3 : k ≤ i + 1 ∧ i + 1 ≤ k + n + 1 ∧ T.length ≤ i + 1 - k ∧ lineTk ((l.drop k).take n) = T ++ tk (i + 1 - k) (((l.drop k).take n).drop (i + 1 - k)) := ⟨by omega, by omega, by omega, by rw [hi4, line_sp hkn hi1 hi5 hsp]⟩
            (refine Wk.o ?_; (repeat revert hK K); refine W4733a ?_; (repeat intro K hK); refine ⟨?_⟩)
            exact WEND (i + 1, T) hI3 (by (first | omega | (dsimp only; omega) | (simp only; omega)))
          | false =>
            rw [hsp] at hC
            (refine Wk.o ?_; (repeat revert hK K); refine W4733a ?_; (repeat intro K hK); refine ⟨?_⟩)
            (refine AWH (σ := Nat) [61, 62, 63, 64, 65, 66, 67, 68, 69, 70, 71, 72] (fun e => [(9, lint e)]) (fun e => [some ⟨62, lnC rs⟩, some ⟨63, tkC ((rs.length + 1 : Nat) : Int) k T⟩]) (fun e => []) (fun e => i ≤ e ∧ e ≤ k + n ∧ ∀ j, i ≤ j → j < e → isSp (l.getD j 0) = false) (fun e => k + n - e) i (by first | exact ⟨Nat.le_refl _, by omega, fun j h1 h2 => absurd h2 (by omega)⟩) ?_; rintro e d fr hfr ⟨he1, he2, he3⟩; simp only [updS, deadS, List.set_cons_succ, List.set_cons_zero, lint] at hfr; subst hfr; (try dsimp only))
            have hw : i < e → (e < k + n → isSp (l.getD e 0) = true) → k ≤ e + 1 ∧ e + 1 ≤ k + n + 1 ∧ (T ++ [(i - k, (l.drop i).take (e - i))]).length ≤ e + 1 - k ∧ lineTk ((l.drop k).take n) = (T ++ [(i - k, (l.drop i).take (e - i))]) ++ tk (e + 1 - k) (((l.drop k).take n).drop (e + 1 - k)) := fun g1 g2 =>
              ⟨by omega, by omega, by rw [List.length_append]; show _ + 1 ≤ _; omega, by rw [hi4, line_word hkn hi1 g1 he2 he3 g2, List.append_assoc]; rfl⟩
            have hs6 : tkC ((rs.length + 1 : Nat) : Int) k T ++ [lt (.int .i64 ((rs.length + 1 : Nat) : Int)), lt (.int .i64 (i : Int)), lt (.string (ba ((l.drop i).take (e - i))))] = tkC ((rs.length + 1 : Nat) : Int) k (T ++ [(i - k, (l.drop i).take (e - i))]) := by
              rw [← tkC_snoc, show (k : Int) + ((i - k : Nat) : Int) = (i : Int) by omega]
            by_cases he4 : e < k + n
            · have hs5 : decide ((e : Int) < ((k + n : Nat) : Int)) = true := decide_eq_true (by omega)
              have hC := pf_gap (l.getD e 0)
              cases hsp2 : isSp (l.getD e 0) with
              | false =>
                rw [hsp2] at hC
                have hI4 : i ≤ e + 1 ∧ e + 1 ≤ k + n ∧ ∀ j, i ≤ j → j < e + 1 → isSp (l.getD j 0) = false := ⟨by omega, by omega, fun j g1 g2 => by
                  rcases Nat.lt_or_ge j e with g3 | g3
                  · exact he3 j g1 g3
                  · rw [show j = e by omega]; exact hsp2⟩
                (refine Wk.o ?_; (repeat revert hK K); refine W4733a ?_; (repeat intro K hK); refine ⟨?_⟩)
                exact WEND (e + 1) hI4 (by (first | omega | (dsimp only; omega) | (simp only; omega)))
              | true =>
                rw [hsp2] at hC
                have hie : i < e := by
                  rcases Nat.lt_or_ge i e with g | g
                  · exact g
                  · rw [show e = i by omega] at hsp2; rw [hsp] at hsp2; cases hsp2
                first
                | (exfalso; omega)
                | ((refine Wk.o ?_; (repeat revert hK K); refine W4733a ?_; (repeat intro K hK); refine ⟨?_⟩)
                   exact whx_ren [0, 3] (e + 1, T ++ [(i - k, (l.drop i).take (e - i))]) (hw hie (fun _ => hsp2)) (by (first | omega | (dsimp only; omega) | (simp only; omega))) rfl (by decide) (by decide) (by (simp (disch := omega) only [go_sem, lint , lnC_snoc0, hs1, hs2, hs3, hs4, hs5, hs6, hs7, hs8, Int.toNat_natCast, ba_toList, ba_size, byteAt_ba, ba_extract, tkC_nil, tkC_len, tkC_take3, lnC_nil, lnC_len, lnC_take, lnC_snocU])) (by (simp (disch := omega) only [go_sem, lint , lnC_snoc0, hs1, hs2, hs3, hs4, hs5, hs6, hs7, hs8, Int.toNat_natCast, ba_toList, ba_size, byteAt_ba, ba_extract, tkC_nil, tkC_len, tkC_take3, lnC_nil, lnC_len, lnC_take, lnC_snocU])) (by (simp (disch := omega) only [go_sem, lint , lnC_snoc0, hs1, hs2, hs3, hs4, hs5, hs6, hs7, hs8, Int.toNat_natCast, ba_toList, ba_size, byteAt_ba, ba_extract, tkC_nil, tkC_len, tkC_take3, lnC_nil, lnC_len, lnC_take, lnC_snocU])) (fun d => by first | ((simp (disch := omega) only [go_sem, lint , lnC_snoc0, hs1, hs2, hs3, hs4, hs5, hs6, hs7, hs8, Int.toNat_natCast, ba_toList, ba_size, byteAt_ba, ba_extract, tkC_nil, tkC_len, tkC_take3, lnC_nil, lnC_len, lnC_take, lnC_snocU]); done) | ((simp (disch := omega) only [go_sem, lint , lnC_snoc0, hs1, hs2, hs3, hs4, hs5, hs6, hs7, hs8, Int.toNat_natCast, ba_toList, ba_size, byteAt_ba, ba_extract, tkC_nil, tkC_len, tkC_take3, lnC_nil, lnC_len, lnC_take, lnC_snocU]); rfl)))
            · have hs5 : decide ((e : Int) < ((k + n : Nat) : Int)) = false := decide_eq_false (by omega)
              (refine Wk.o ?_; (repeat revert hK K); refine W4733a ?_; (repeat intro K hK); refine ⟨?_⟩)
              exact whx_ren [0, 3] (e + 1, T ++ [(i - k, (l.drop i).take (e - i))]) (hw (by omega) (fun g => absurd g he4)) (by (first | omega | (dsimp only; omega) | (simp only; omega))) rfl (by decide) (by decide) (by (simp (disch := omega) only [go_sem, lint , lnC_snoc0, hs1, hs2, hs3, hs4, hs5, hs6, hs7, hs8, Int.toNat_natCast, ba_toList, ba_size, byteAt_ba, ba_extract, tkC_nil, tkC_len, tkC_take3, lnC_nil, lnC_len, lnC_take, lnC_snocU])) (by (simp (disch := omega) only [go_sem, lint , lnC_snoc0, hs1, hs2, hs3, hs4, hs5, hs6, hs7, hs8, Int.toNat_natCast, ba_toList, ba_size, byteAt_ba, ba_extract, tkC_nil, tkC_len, tkC_take3, lnC_nil, lnC_len, lnC_take, lnC_snocU])) (by (simp (disch := omega) only [go_sem, lint , lnC_snoc0, hs1, hs2, hs3, hs4, hs5, hs6, hs7, hs8, Int.toNat_natCast, ba_toList, ba_size, byteAt_ba, ba_extract, tkC_nil, tkC_len, tkC_take3, lnC_nil, lnC_len, lnC_take, lnC_snocU])) (fun d => by first | ((simp (disch := omega) only [go_sem, lint , lnC_snoc0, hs1, hs2, hs3, hs4, hs5, hs6, hs7, hs8, Int.toNat_natCast, ba_toList, ba_size, byteAt_ba, ba_extract, tkC_nil, tkC_len, tkC_take3, lnC_nil, lnC_len, lnC_take, lnC_snocU]); done) | ((simp (disch := omega) only [go_sem, lint , lnC_snoc0, hs1, hs2, hs3, hs4, hs5, hs6, hs7, hs8, Int.toNat_natCast, ba_toList, ba_size, byteAt_ba, ba_extract, tkC_nil, tkC_len, tkC_take3, lnC_nil, lnC_len, lnC_take, lnC_snocU]); rfl))
        · have hs8 : decide ((i : Int) < ((k + n : Nat) : Int)) = false := decide_eq_false (by omega)
          have hT2 : lineTk ((l.drop k).take n) = T := by rw [hi4, line_end hkn (by omega), List.append_nil]
          refine AX_freeze [1] [(6, .iv (iTk ((rs.length + 1 : Nat) : Int) k T))] (fun p hp => ?_) ?_
          · rw [List.mem_singleton.1 hp]; exact frz_tk rfl rfl
          unfold iTk
          simp only [setN, updS, List.set_cons_succ, List.set_cons_zero]
          (refine Wk.o ?_; (repeat revert hK K); refine W4733a ?_; (repeat intro K hK); refine ⟨?_⟩)
          exact whx_ren [3] (k + (n + 1), rs ++ [(rs.length + 1, k, T)]) (hI2 _ hT2) (by (first | omega | (dsimp only; omega) | (simp only; omega))) rfl (by decide) (by decide) (by (simp (disch := omega) only [go_sem, lint , lnC_snoc0, hs1, hs2, hs3, hs4, hs5, hs6, hs7, hs8, Int.toNat_natCast, ba_toList, ba_size, byteAt_ba, ba_extract, tkC_nil, tkC_len, tkC_take3, lnC_nil, lnC_len, lnC_take, lnC_snocU])) (by (simp (disch := omega) only [go_sem, lint , lnC_snoc0, hs1, hs2, hs3, hs4, hs5, hs6, hs7, hs8, Int.toNat_natCast, ba_toList, ba_size, byteAt_ba, ba_extract, tkC_nil, tkC_len, tkC_take3, lnC_nil, lnC_len, lnC_take, lnC_snocU])) (by (simp (disch := omega) only [go_sem, lint , lnC_snoc0, hs1, hs2, hs3, hs4, hs5, hs6, hs7, hs8, Int.toNat_natCast, ba_toList, ba_size, byteAt_ba, ba_extract, tkC_nil, tkC_len, tkC_take3, lnC_nil, lnC_len, lnC_take, lnC_snocU])) (fun d => by first | ((simp (disch := omega) only [go_sem, lint , lnC_snoc0, hs1, hs2, hs3, hs4, hs5, hs6, hs7, hs8, Int.toNat_natCast, ba_toList, ba_size, byteAt_ba, ba_extract, tkC_nil, tkC_len, tkC_take3, lnC_nil, lnC_len, lnC_take, lnC_snocU]); done) | ((simp (disch := omega) only [go_sem, lint , lnC_snoc0, hs1, hs2, hs3, hs4, hs5, hs6, hs7, hs8, Int.toNat_natCast, ba_toList, ba_size, byteAt_ba, ba_extract, tkC_nil, tkC_len, tkC_take3, lnC_nil, lnC_len, lnC_take, lnC_snocU]); rfl))
      · have hs5 := hb1
        have hT := lineTk_not hb1 (.inl (by rw [hL]; exact hn2))
        (refine Wk.o ?_; (repeat revert hK K); refine W4733a ?_; (repeat intro K hK); refine ⟨?_⟩)
        refine AX_nil 6 63 3 rfl ?_
        (refine AWH (σ := Nat × List (Nat × List UInt8)) [47, 48, 49, 50, 51, 52, 53, 56, 57, 58, 59, 60, 9, 61, 62, 63, 64, 65, 66, 67, 68, 69, 70, 71, 72, 73, 74, 75, 76, 77, 78, 79, 80, 81, 82, 83, 84, 85, 54, 55] (fun (i, T) => [(8, lint i), (6, .osl 1 0 T.length 3)]) (fun (i, T) => [some ⟨62, lnC rs⟩, some ⟨63, tkC ((rs.length + 1 : Nat) : Int) k T⟩]) (fun (i, T) => []) (fun (i, T) => k ≤ i ∧ i ≤ k + n + 1 ∧ T.length ≤ i - k ∧ lineTk ((l.drop k).take n) = T ++ tk (i - k) (((l.drop k).take n).drop (i - k))) (fun (i, T) => k + n + 1 - i) (k, []) (by first | exact ⟨Nat.le_refl _, by omega, Nat.zero_le _, by rw [hT, Nat.sub_self]; rfl⟩) ?_; rintro ⟨i, T⟩ d fr hfr ⟨hi1, hi2, hi3, hi4⟩; simp only [updS, deadS, List.set_cons_succ, List.set_cons_zero, lint] at hfr; subst hfr; (try dsimp only))
        by_cases hi5 : i < k + n
        · have hs8 : decide ((i : Int) < ((k + n : Nat) : Int)) = true := decide_eq_true (by omega)
          have hC := pf_gap (l.getD i 0)
          cases hsp : isSp (l.getD i 0) with
          | true =>
            rw [hsp] at hC
            have hI3 : k ≤ i + 1 ∧ i + 1 ≤ k + n + 1 ∧ T.length ≤ i + 1 - k ∧ lineTk ((l.drop k).take n) = T ++ tk (i + 1 - k) (((l.drop k).take n).drop (i + 1 - k)) := ⟨by omega, by omega, by omega, by rw [hi4, line_sp hkn hi1 hi5 hsp]⟩
            (refine Wk.o ?_; (repeat revert hK K); refine W4733a ?_; (repeat intro K hK); refine ⟨?_⟩)
            exact WEND (i + 1, T) hI3 (by (first | omega | (dsimp only; omega) | (simp only; omega)))
          | false =>
            rw [hsp] at hC
            (refine Wk.o ?_; (repeat revert hK K); refine W4733a ?_; (repeat intro K hK); refine ⟨?_⟩)
            (refine AWH (σ := Nat) [61, 62, 63, 64, 65, 66, 67, 68, 69, 70, 71, 72] (fun e => [(9, lint e)]) (fun e => [some ⟨62, lnC rs⟩, some ⟨63, tkC ((rs.length + 1 : Nat) : Int) k T⟩]) (fun e => []) (fun e => i ≤ e ∧ e ≤ k + n ∧ ∀ j, i ≤ j → j < e → isSp (l.getD j 0) = false) (fun e => k + n - e) i (by first | exact ⟨Nat.le_refl _, by omega, fun j h1 h2 => absurd h2 (by omega)⟩) ?_; rintro e d fr hfr ⟨he1, he2, he3⟩; simp only [updS, deadS, List.set_cons_succ, List.set_cons_zero, lint] at hfr; subst hfr; (try dsimp only))
            have hw : i < e → (e < k + n → isSp (l.getD e 0) = true) → k ≤ e + 1 ∧ e + 1 ≤ k + n + 1 ∧ (T ++ [(i - k, (l.drop i).take (e - i))]).length ≤ e + 1 - k ∧ lineTk ((l.drop k).take n) = (T ++ [(i - k, (l.drop i).take (e - i))]) ++ tk (e + 1 - k) (((l.drop k).take n).drop (e + 1 - k)) := fun g1 g2 =>
              ⟨by omega, by omega, by rw [List.length_append]; show _ + 1 ≤ _; omega, by rw [hi4, line_word hkn hi1 g1 he2 he3 g2, List.append_assoc]; rfl⟩
            have hs6 : tkC ((rs.length + 1 : Nat) : Int) k T ++ [lt (.int .i64 ((rs.length + 1 : Nat) : Int)), lt (.int .i64 (i : Int)), lt (.string (ba ((l.drop i).take (e - i))))] = tkC ((rs.length + 1 : Nat) : Int) k (T ++ [(i - k, (l.drop i).take (e - i))]) := by
              rw [← tkC_snoc, show (k : Int) + ((i - k : Nat) : Int) = (i : Int) by omega]
            by_cases he4 : e < k + n
            · have hs5 : decide ((e : Int) < ((k + n : Nat) : Int)) = true := decide_eq_true (by omega)
              have hC := pf_gap (l.getD e 0)
              cases hsp2 : isSp (l.getD e 0) with
              | false =>
                rw [hsp2] at hC
                have hI4 : i ≤ e + 1 ∧ e + 1 ≤ k + n ∧ ∀ j, i ≤ j → j < e + 1 → isSp (l.getD j 0) = false := ⟨by omega, by omega, fun j g1 g2 => by
                  rcases Nat.lt_or_ge j e with g3 | g3
                  · exact he3 j g1 g3
                  · rw [show j = e by omega]; exact hsp2⟩
                (refine Wk.o ?_; (repeat revert hK K); refine W4733a ?_; (repeat intro K hK); refine ⟨?_⟩)
                exact WEND (e + 1) hI4 (by (first | omega | (dsimp only; omega) | (simp only; omega)))
              | true =>
                rw [hsp2] at hC
                have hie : i < e := by
                  rcases Nat.lt_or_ge i e with g | g
                  · exact g
                  · rw [show e = i by omega] at hsp2; rw [hsp] at hsp2; cases hsp2
                first
                | (exfalso; omega)
                | ((refine Wk.o ?_; (repeat revert hK K); refine W4733a ?_; (repeat intro K hK); refine ⟨?_⟩)
                   exact whx_ren [0, 3] (e + 1, T ++ [(i - k, (l.drop i).take (e - i))]) (hw hie (fun _ => hsp2)) (by (first | omega | (dsimp only; omega) | (simp only; omega))) rfl (by decide) (by decide) (by (simp (disch := omega) only [go_sem, lint , lnC_snoc0, hs1, hs2, hs3, hs4, hs5, hs6, hs7, hs8, Int.toNat_natCast, ba_toList, ba_size, byteAt_ba, ba_extract, tkC_nil, tkC_len, tkC_take3, lnC_nil, lnC_len, lnC_take, lnC_snocU])) (by (simp (disch := omega) only [go_sem, lint , lnC_snoc0, hs1, hs2, hs3, hs4, hs5, hs6, hs7, hs8, Int.toNat_natCast, ba_toList, ba_size, byteAt_ba, ba_extract, tkC_nil, tkC_len, tkC_take3, lnC_nil, lnC_len, lnC_take, lnC_snocU])) (by (simp (disch := omega) only [go_sem, lint , lnC_snoc0, hs1, hs2, hs3, hs4, hs5, hs6, hs7, hs8, Int.toNat_natCast, ba_toList, ba_size, byteAt_ba, ba_extract, tkC_nil, tkC_len, tkC_take3, lnC_nil, lnC_len, lnC_take, lnC_snocU])) (fun d => by first | ((simp (disch := omega) only [go_sem, lint , lnC_snoc0, hs1, hs2, hs3, hs4, hs5, hs6, hs7, hs8, Int.toNat_natCast, ba_toList, ba_size, byteAt_ba, ba_extract, tkC_nil, tkC_len, tkC_take3, lnC_nil, lnC_len, lnC_take, lnC_snocU]); done) | ((simp (disch := omega) only [go_sem, lint , lnC_snoc0, hs1, hs2, hs3, hs4, hs5, hs6, hs7, hs8, Int.toNat_natCast, ba_toList, ba_size, byteAt_ba, ba_extract, tkC_nil, tkC_len, tkC_take3, lnC_nil, lnC_len, lnC_take, lnC_snocU]); rfl)))
            · have hs5 : decide ((e : Int) < ((k + n : Nat) : Int)) = false := decide_eq_false (by omega)
              (refine Wk.o ?_; (repeat revert hK K); refine W4733a ?_; (repeat intro K hK); refine ⟨?_⟩)
              exact whx_ren [0, 3] (e + 1, T ++ [(i - k, (l.drop i).take (e - i))]) (hw (by omega) (fun g => absurd g he4)) (by (first | omega | (dsimp only; omega) | (simp only; omega))) rfl (by decide) (by decide) (by (simp (disch := omega) only [go_sem, lint , lnC_snoc0, hs1, hs2, hs3, hs4, hs5, hs6, hs7, hs8, Int.toNat_natCast, ba_toList, ba_size, byteAt_ba, ba_extract, tkC_nil, tkC_len, tkC_take3, lnC_nil, lnC_len, lnC_take, lnC_snocU])) (by (simp (disch := omega) only [go_sem, lint , lnC_snoc0, hs1, hs2, hs3, hs4, hs5, hs6, hs7, hs8, Int.toNat_natCast, ba_toList, ba_size, byteAt_ba, ba_extract, tkC_nil, tkC_len, tkC_take3, lnC_nil, lnC_len, lnC_take, lnC_snocU])) (by (simp (disch := omega) only [go_sem, lint , lnC_snoc0, hs1, hs2, hs3, hs4, hs5, hs6, hs7, hs8, Int.toNat_natCast, ba_toList, ba_size, byteAt_ba, ba_extract, tkC_nil, tkC_len, tkC_take3, lnC_nil, lnC_len, lnC_take, lnC_snocU])) (fun d => by first | ((simp (disch := omega) only [go_sem, lint , lnC_snoc0, hs1, hs2, hs3, hs4, hs5, hs6, hs7, hs8, Int.toNat_natCast, ba_toList, ba_size, byteAt_ba, ba_extract, tkC_nil, tkC_len, tkC_take3, lnC_nil, lnC_len, lnC_take, lnC_snocU]); done) | ((simp (disch := omega) only [go_sem, lint , lnC_snoc0, hs1, hs2, hs3, hs4, hs5, hs6, hs7, hs8, Int.toNat_natCast, ba_toList, ba_size, byteAt_ba, ba_extract, tkC_nil, tkC_len, tkC_take3, lnC_nil, lnC_len, lnC_take, lnC_snocU]); rfl))
        · have hs8 : decide ((i : Int) < ((k + n : Nat) : Int)) = false := decide_eq_false (by omega)
          have hT2 : lineTk ((l.drop k).take n) = T := by rw [hi4, line_end hkn (by omega), List.append_nil]
          refine AX_freeze [1] [(6, .iv (iTk ((rs.length + 1 : Nat) : Int) k T))] (fun p hp => ?_) ?_
          · rw [List.mem_singleton.1 hp]; exact frz_tk rfl rfl
          unfold iTk
          simp only [setN, updS, List.set_cons_succ, List.set_cons_zero]
          (refine Wk.o ?_; (repeat revert hK K); refine W4733a ?_; (repeat intro K hK); refine ⟨?_⟩)
          exact whx_ren [3] (k + (n + 1), rs ++ [(rs.length + 1, k, T)]) (hI2 _ hT2) (by (first | omega | (dsimp only; omega) | (simp only; omega))) rfl (by decide) (by decide) (by (simp (disch := omega) only [go_sem, lint , lnC_snoc0, hs1, hs2, hs3, hs4, hs5, hs6, hs7, hs8, Int.toNat_natCast, ba_toList, ba_size, byteAt_ba, ba_extract, tkC_nil, tkC_len, tkC_take3, lnC_nil, lnC_len, lnC_take, lnC_snocU])) (by (simp (disch := omega) only [go_sem, lint , lnC_snoc0, hs1, hs2, hs3, hs4, hs5, hs6, hs7, hs8, Int.toNat_natCast, ba_toList, ba_size, byteAt_ba, ba_extract, tkC_nil, tkC_len, tkC_take3, lnC_nil, lnC_len, lnC_take, lnC_snocU])) (by (simp (disch := omega) only [go_sem, lint , lnC_snoc0, hs1, hs2, hs3, hs4, hs5, hs6, hs7, hs8, Int.toNat_natCast, ba_toList, ba_size, byteAt_ba, ba_extract, tkC_nil, tkC_len, tkC_take3, lnC_nil, lnC_len, lnC_take, lnC_snocU])) (fun d => by first | ((simp (disch := omega) only [go_sem, lint , lnC_snoc0, hs1, hs2, hs3, hs4, hs5, hs6, hs7, hs8, Int.toNat_natCast, ba_toList, ba_size, byteAt_ba, ba_extract, tkC_nil, tkC_len, tkC_take3, lnC_nil, lnC_len, lnC_take, lnC_snocU]); done) | ((simp (disch := omega) only [go_sem, lint , lnC_snoc0, hs1, hs2, hs3, hs4, hs5, hs6, hs7, hs8, Int.toNat_natCast, ba_toList, ba_size, byteAt_ba, ba_extract, tkC_nil, tkC_len, tkC_take3, lnC_nil, lnC_len, lnC_take, lnC_snocU]); rfl))
  · have hd : lns 1 0 l = rs := by rw [hz, List.drop_of_length_le (by omega), lns_nil, List.append_nil]
    (refine Wk.o ?_; (repeat revert hK K); refine W4733a ?_; (repeat intro K hK); refine ⟨?_⟩)
    (simp only [bodyX]; refine ⟨_, by simp only [aresults, aresult, XS.as, Tryd.results24, aload, go_sem, Option.bind_some]; rfl, ?_⟩)
    exact ⟨_, snap_ln rfl rfl, by rw [hd], trivial⟩
end Go.Proofs.YtghdacijcnmhlaaDoor
