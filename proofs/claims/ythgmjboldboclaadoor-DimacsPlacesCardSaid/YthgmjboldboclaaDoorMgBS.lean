import Derived.Test.YthgmjboldboclaaDoorMgAQ
import Derived.Test.YthgmjboldboclaaDoorMgBR
import Derived.Test.YthgmjboldboclaaDoorMgBH
import Derived.Test.YthgmjboldboclaaDoorMgBK
namespace Go.Proofs.YthgmjboldboclaaDoor
open Go.RowKit Go.Lib
set_option linter.unusedVariables false
set_option linter.unusedSimpArgs false
theorem lnC_snoc0 (rs : List (Nat × Nat × List (Nat × List UInt8))) (a b : Nat) : lnC rs ++ [.iv (.sl (fun j => .lit ((tkL a b []).getD j undef)) 0 3)] = lnC (rs ++ [(a, b, [])]) := lnC_snocU rs a b []
theorem W4733a {A B : Prop} (h9 : B) (w : B → A := by (intro h9; (repeat intro K hK); refine ⟨?_⟩; (repeat (first | (first | (with_reducible first | refine AX_block ?_ | refine AX_skip ?_ | refine AX_exit ?_ | refine AX_ret ?_ | refine AX_ift ?_ | refine AX_iff ?_ | refine AX_seq_k (fun K hK => ?_) | refine ContX.use (by assumption) ?_) | simp only [thenX, inBlockX, if_true, if_false, reduceCtorEq]) | (first | ((with_reducible refine XOP tyOK ?_); simp (disch := omega) only [go_sem , lnC_snoc0, hs1, hs2, hs3, hs4, hs5, hs6, hs7, hs8, Int.toNat_natCast, ba_toList, ba_size, byteAt_ba, ba_extract, tkC_nil, tkC_len, tkC_take3, lnC_nil, lnC_len, lnC_take, lnC_snocU]; (with_reducible refine XRes_id ?_)) | (with_reducible refine XSK ?_)) | ((with_reducible refine XRes_nil ?_); refine hK _ ?_; clear hK K) | ((with_reducible refine AX_reg0 fun K hK => ?_); simp only [go_sem]) | (first | (first | refine XTL (by rfl) hC ?_)))); refine Wk.o ?_; (repeat revert hK K); exact h9)) : A := w h9
theorem W4733b {A B : Prop} (h9 : B) (w : B → A := by (intro h9; (repeat intro K hK); refine ⟨?_⟩; (repeat (first | (first | (with_reducible first | refine AX_skip ?_ | refine AX_exit ?_ | refine AX_ret ?_) | ((with_reducible refine AX_if_t ?_ ?_); focus (simp only [go_sem]; done)) | ((with_reducible refine AX_if_f ?_ ?_); focus (simp only [go_sem]; done)) | (with_reducible refine AX_seq_k (fun K hK => ?_)) | ((with_reducible refine ContX.use (by assumption) ?_)) | (simp only [thenX, inBlockX, if_true, if_false, reduceCtorEq])) | (first | ((with_reducible refine XOP tyOK ?_); simp (disch := omega) only [go_sem , lnC_snoc0, hs1, hs2, hs3, hs4, hs5, hs6, hs7, hs8, Int.toNat_natCast, ba_toList, ba_size, byteAt_ba, ba_extract, tkC_nil, tkC_len, tkC_take3, lnC_nil, lnC_len, lnC_take, lnC_snocU]; (with_reducible refine XRes_id ?_)) | (with_reducible refine XSK ?_)) | ((with_reducible refine XRes_nil ?_); refine hK _ ?_; clear hK K) | ((with_reducible refine AX_reg0 fun K hK => ?_); simp only [go_sem]) | (first | (first | refine XTL (by rfl) hC ?_)))); refine Wk.o ?_; (repeat revert hK K); exact h9)) : A := w h9
set_option maxRecDepth 100000 in
set_option maxHeartbeats 4000000 in
theorem pf_rLines (l : List UInt8) (hl : l.length ≤ 1000000) : PF Tryd.prog 48 [lt (.string (ba l))] fun r H' => r = .iv (iLn (lns 1 0 l)) ∧ H' = [] := by
  refine SF.frozen ?_
  have hs1 := trivial; have hs2 := trivial; have hs3 := trivial; have hs4 := trivial; have hs5 := trivial; have hs6 := trivial; have hs7 := trivial; have hs8 := trivial; have hC := trivial
  (refine SF_of_bodyX (aload tt) (aload_ok tyOK) Tryd.func48 rfl (by kernel_rfl) ?_; simp only [Tryd.ntmps48, List.length_cons, List.length_nil, Nat.reduceAdd, Nat.reduceSub, List.replicate_succ, List.replicate_zero, List.cons_append, List.nil_append])
  (refine Wk.o ?_; (repeat revert hK K); refine W4733a ?_; (repeat intro K hK); refine ⟨?_⟩)
  refine AX_nil 3 58 1 rfl ?_
  (refine AWH (σ := Nat × List (Nat × Nat × List (Nat × List UInt8))) [10, 11, 12, 13, 14, 5, 15, 16, 17, 18, 19, 20, 21, 22, 23, 24, 25, 26, 6, 27, 28, 29, 30, 31, 32, 33, 34, 35, 36, 37, 38, 39, 40, 41, 42, 43, 44, 45, 7, 46, 8, 47, 48, 49, 50, 51, 52, 53, 56, 57, 58, 59, 60, 9, 61, 62, 63, 64, 65, 66, 67, 68, 69, 70, 71, 72, 73, 74, 75, 76, 77, 78, 79, 80, 81, 82, 83, 84, 85, 54, 55, 86, 87, 88, 89, 90, 91] (fun (k, rs) => [(4, lint k), (3, .osl 0 0 rs.length 1)]) (fun (k, rs) => [some ⟨58, lnC rs⟩]) (fun (k, rs) => []) (fun (k, rs) => k ≤ l.length + 1 ∧ rs.length ≤ k ∧ lns 1 0 l = rs ++ lns (rs.length + 1) k (l.drop k)) (fun (k, rs) => l.length + 1 - k) (0, []) (by first | exact ⟨Nat.zero_le _, Nat.zero_le _, rfl⟩) ?_; rintro ⟨k, rs⟩ d fr hfr ⟨hk, hr, hz⟩; simp only [updS, deadS, List.set_cons_succ, List.set_cons_zero, lint] at hfr; subst hfr; (try dsimp only))
  by_cases hlt : k < l.length
  · have hle := lnLen_le (l.drop k)
    have hin : ∀ e, k ≤ e → e < k + lnLen (l.drop k) → l.getD e 0 ≠ 10 := fun e h1 h2 => by
      have := lnLen_in (m := l.drop k) (j := e - k) (by omega)
      rw [dropD, show k + (e - k) = e by omega] at this; exact this
    have hat10 : k + lnLen (l.drop k) < l.length → l.getD (k + lnLen (l.drop k)) 0 = 10 := fun h => by
      have := lnLen_at (m := l.drop k) (by rw [List.length_drop]; omega)
      rw [dropD] at this; exact this
    have hat := lns_at (ln := rs.length + 1) hlt
    rw [List.length_drop] at hle
    generalize hn : lnLen (l.drop k) = n at *
    have hkn : k + n ≤ l.length := by omega
    have hL := line_len (l := l) (k := k) (n := n) hkn
    (refine Wk.o ?_; (repeat revert hK K); refine W4733b ?_; (repeat intro K hK); refine ⟨?_⟩)
    refine AX_block ?_
    (refine Wk.o ?_; (repeat revert hK K); refine W4733b ?_; (repeat intro K hK); refine ⟨?_⟩)
    (refine AX_mid [15, 16, 17, 18, 19, 20, 21, 22, 23, 24, 25, 26] [(5, lint ((k + n : Nat) : Int))] [some ⟨58, lnC rs⟩] [] (by assumption) (fun K hK => ?_) (fun d fr hfr => ?_); rotate_left; (simp only [updS, deadS, List.set_cons_succ, List.set_cons_zero, lint] at hfr); (subst hfr); rotate_left)
    · refine AX_block ?_
      (refine AWH (σ := Nat) [15, 16, 17, 18, 19, 20, 21, 22, 23, 24, 25, 26] (fun e => [(5, lint e)]) (fun e => [some ⟨58, lnC rs⟩]) (fun e => []) (fun e => k ≤ e ∧ e ≤ k + n) (fun e => k + n - e) k (by first | exact ⟨Nat.le_refl _, by omega⟩) ?_; rintro e d fr hfr ⟨he1, he2⟩; simp only [updS, deadS, List.set_cons_succ, List.set_cons_zero, lint] at hfr; subst hfr; (try dsimp only))
      by_cases he3 : e < k + n
      · have h10 := nl_int (l.getD e 0)
        have hne : ¬ ((l.getD e 0).toNat : Int) = 10 := fun h => hin e he1 he3 (by rw [decide_eq_true h] at h10; simpa using h10)
        (refine Wk.o ?_; (repeat revert hK K); refine W4733a ?_; (repeat intro K hK); refine ⟨?_⟩)
        exact WEND (e + 1) ⟨by omega, by omega⟩ (by (first | omega | (dsimp only; omega) | (simp only; omega)))
      · obtain rfl : e = k + n := by omega
        by_cases he4 : k + n < l.length
        · have heq : ((l.getD (k + n) 0).toNat : Int) = 10 := by rw [hat10 he4]; rfl
          (refine Wk.o ?_; (repeat revert hK K); refine W4733a ?_; (repeat intro K hK); refine ⟨?_⟩)
          exact mid_end rfl rfl (fun d => by first | ((simp (disch := omega) only [go_sem, lint , lnC_snoc0, hs1, hs2, hs3, hs4, hs5, hs6, hs7, hs8, Int.toNat_natCast, ba_toList, ba_size, byteAt_ba, ba_extract, tkC_nil, tkC_len, tkC_take3, lnC_nil, lnC_len, lnC_take, lnC_snocU]); done) | ((simp (disch := omega) only [go_sem, lint , lnC_snoc0, hs1, hs2, hs3, hs4, hs5, hs6, hs7, hs8, Int.toNat_natCast, ba_toList, ba_size, byteAt_ba, ba_extract, tkC_nil, tkC_len, tkC_take3, lnC_nil, lnC_len, lnC_take, lnC_snocU]); rfl))
        · (refine Wk.o ?_; (repeat revert hK K); refine W4733a ?_; (repeat intro K hK); refine ⟨?_⟩)
          exact mid_end rfl rfl (fun d => by first | ((simp (disch := omega) only [go_sem, lint , lnC_snoc0, hs1, hs2, hs3, hs4, hs5, hs6, hs7, hs8, Int.toNat_natCast, ba_toList, ba_size, byteAt_ba, ba_extract, tkC_nil, tkC_len, tkC_take3, lnC_nil, lnC_len, lnC_take, lnC_snocU]); done) | ((simp (disch := omega) only [go_sem, lint , lnC_snoc0, hs1, hs2, hs3, hs4, hs5, hs6, hs7, hs8, Int.toNat_natCast, ba_toList, ba_size, byteAt_ba, ba_extract, tkC_nil, tkC_len, tkC_take3, lnC_nil, lnC_len, lnC_take, lnC_snocU]); rfl))
    · have hs1 : k + n - k = n := by omega
      have hI2 : ∀ T, lineTk ((l.drop k).take n) = T → k + (n + 1) ≤ l.length + 1 ∧ (rs ++ [(rs.length + 1, k, T)]).length ≤ k + (n + 1) ∧ lns 1 0 l = (rs ++ [(rs.length + 1, k, T)]) ++ lns ((rs ++ [(rs.length + 1, k, T)]).length + 1) (k + (n + 1)) (l.drop (k + (n + 1))) := fun T hT => by
        rw [hT] at hat
        exact ⟨by omega, by rw [List.length_append]; show _ + 1 ≤ _; omega, by rw [hz, hat, List.append_assoc, List.length_append]; rfl⟩
      have hREM : ((((l.drop k).take n == ([99] : List UInt8)) = true) ∨ ((((l.drop k).take n == ([99] : List UInt8)) = false) ∧ 2 ≤ n ∧ (((l.drop k).take 2 == ([99, 32] : List UInt8)) = true))) ∨ ((((l.drop k).take n == ([99] : List UInt8)) = false) ∧ 2 ≤ n ∧ (((l.drop k).take 2 == ([99, 32] : List UInt8)) = false)) ∨ ((((l.drop k).take n == ([99] : List UInt8)) = false) ∧ n < 2) := by
        cases ((l.drop k).take n == ([99] : List UInt8)) <;> cases ((l.drop k).take 2 == ([99, 32] : List UInt8)) <;> rcases Nat.lt_or_ge n 2 with h | h <;> simp <;> omega
      have ht2 : 2 ≤ n → ((l.drop k).take n).take 2 = (l.drop k).take 2 := fun h => by rw [List.take_take, Nat.min_eq_left h]
      have hs2 : (⟨#[99]⟩ : ByteArray).toList = [99] := ba_toList [99]
      have hs3 : (⟨#[99, 32]⟩ : ByteArray).toList = [99, 32] := ba_toList [99, 32]
      have hs4 : ((k : Int) + 2).toNat - k = 2 := by omega
      have hs7 : (((k + n : Nat) : Int) - (k : Int)) = (n : Int) := by omega
      rcases hREM with (hb1 | ⟨hb1, hn2, hb2⟩) | ⟨hb1, hn2, hb2⟩ | ⟨hb1, hn2⟩
      · have hs5 := hb1
        have hT := lineTk_rem (.inl hb1)
        have hn1 : n = 1 := by have := congrArg List.length (eq_of_beq hb1); rw [hL] at this; exact this
        (refine Wk.o ?_; (repeat revert hK K); refine W4733a ?_; (repeat intro K hK); refine ⟨?_⟩)
        refine AX_nil 6 61 3 rfl ?_
        refine AX_freeze [1] [(6, .iv (iTk ((rs.length + 1 : Nat) : Int) k []))] (fun p hp => ?_) ?_
        · rw [List.mem_singleton.1 hp]; exact frz_tk rfl rfl
        unfold iTk
        simp only [setN, updS, List.set_cons_succ, List.set_cons_zero]
        (refine AWH (σ := Unit) [47, 48, 49, 50, 51, 52, 53, 56, 57, 58, 59, 60, 9, 61, 62, 63, 64, 65, 66, 67, 68, 69, 70, 71, 72, 73, 74, 75, 76, 77, 78, 79, 80, 81, 82, 83, 84, 85, 54, 55] (fun u => [(8, lint k), (6, .iv (.sl (fun j => .lit ((tkL ((rs.length + 1 : Nat) : Int) (k : Int) ([] : List (Nat × List UInt8))).getD j undef)) ([] : List (Nat × List UInt8)).length 3))]) (fun u => [some ⟨58, lnC rs⟩, none]) (fun u => []) (fun u => True) (fun u => 0) () (by first | exact trivial) ?_; rintro u d fr hfr -; simp only [updS, deadS, List.set_cons_succ, List.set_cons_zero, lint] at hfr; subst hfr; (try dsimp only))
        have hs8 : decide ((k : Int) < ((k + n : Nat) : Int)) = true := decide_eq_true (by omega)
        (refine Wk.o ?_; (repeat revert hK K); refine W4733a ?_; (repeat intro K hK); refine ⟨?_⟩)
        exact whx_ren [3] (k + (n + 1), rs ++ [(rs.length + 1, k, [])]) (hI2 _ hT) (by (first | omega | (dsimp only; omega) | (simp only; omega))) rfl (by decide) (by decide) (by (simp (disch := omega) only [go_sem, lint , lnC_snoc0, hs1, hs2, hs3, hs4, hs5, hs6, hs7, hs8, Int.toNat_natCast, ba_toList, ba_size, byteAt_ba, ba_extract, tkC_nil, tkC_len, tkC_take3, lnC_nil, lnC_len, lnC_take, lnC_snocU])) (by (simp (disch := omega) only [go_sem, lint , lnC_snoc0, hs1, hs2, hs3, hs4, hs5, hs6, hs7, hs8, Int.toNat_natCast, ba_toList, ba_size, byteAt_ba, ba_extract, tkC_nil, tkC_len, tkC_take3, lnC_nil, lnC_len, lnC_take, lnC_snocU])) (by (simp (disch := omega) only [go_sem, lint , lnC_snoc0, hs1, hs2, hs3, hs4, hs5, hs6, hs7, hs8, Int.toNat_natCast, ba_toList, ba_size, byteAt_ba, ba_extract, tkC_nil, tkC_len, tkC_take3, lnC_nil, lnC_len, lnC_take, lnC_snocU])) (fun d => by first | ((simp (disch := omega) only [go_sem, lint , lnC_snoc0, hs1, hs2, hs3, hs4, hs5, hs6, hs7, hs8, Int.toNat_natCast, ba_toList, ba_size, byteAt_ba, ba_extract, tkC_nil, tkC_len, tkC_take3, lnC_nil, lnC_len, lnC_take, lnC_snocU]); done) | ((simp (disch := omega) only [go_sem, lint , lnC_snoc0, hs1, hs2, hs3, hs4, hs5, hs6, hs7, hs8, Int.toNat_natCast, ba_toList, ba_size, byteAt_ba, ba_extract, tkC_nil, tkC_len, tkC_take3, lnC_nil, lnC_len, lnC_take, lnC_snocU]); rfl))
      · have hs5 := hb1
        have hs6 := hb2
        have hT := lineTk_rem (.inr ⟨by rw [hL]; exact hn2, by rw [ht2 hn2]; exact hb2⟩)
        (refine Wk.o ?_; (repeat revert hK K); refine W4733a ?_; (repeat intro K hK); refine ⟨?_⟩)
        refine AX_nil 6 61 3 rfl ?_
        refine AX_freeze [1] [(6, .iv (iTk ((rs.length + 1 : Nat) : Int) k []))] (fun p hp => ?_) ?_
        · rw [List.mem_singleton.1 hp]; exact frz_tk rfl rfl
        unfold iTk
        simp only [setN, updS, List.set_cons_succ, List.set_cons_zero]
        (refine AWH (σ := Unit) [47, 48, 49, 50, 51, 52, 53, 56, 57, 58, 59, 60, 9, 61, 62, 63, 64, 65, 66, 67, 68, 69, 70, 71, 72, 73, 74, 75, 76, 77, 78, 79, 80, 81, 82, 83, 84, 85, 54, 55] (fun u => [(8, lint k), (6, .iv (.sl (fun j => .lit ((tkL ((rs.length + 1 : Nat) : Int) (k : Int) ([] : List (Nat × List UInt8))).getD j undef)) ([] : List (Nat × List UInt8)).length 3))]) (fun u => [some ⟨58, lnC rs⟩, none]) (fun u => []) (fun u => True) (fun u => 0) () (by first | exact trivial) ?_; rintro u d fr hfr -; simp only [updS, deadS, List.set_cons_succ, List.set_cons_zero, lint] at hfr; subst hfr; (try dsimp only))
        have hs8 : decide ((k : Int) < ((k + n : Nat) : Int)) = true := decide_eq_true (by omega)
        (refine Wk.o ?_; (repeat revert hK K); refine W4733a ?_; (repeat intro K hK); refine ⟨?_⟩)
        exact whx_ren [3] (k + (n + 1), rs ++ [(rs.length + 1, k, [])]) (hI2 _ hT) (by (first | omega | (dsimp only; omega) | (simp only; omega))) rfl (by decide) (by decide) (by (simp (disch := omega) only [go_sem, lint , lnC_snoc0, hs1, hs2, hs3, hs4, hs5, hs6, hs7, hs8, Int.toNat_natCast, ba_toList, ba_size, byteAt_ba, ba_extract, tkC_nil, tkC_len, tkC_take3, lnC_nil, lnC_len, lnC_take, lnC_snocU])) (by (simp (disch := omega) only [go_sem, lint , lnC_snoc0, hs1, hs2, hs3, hs4, hs5, hs6, hs7, hs8, Int.toNat_natCast, ba_toList, ba_size, byteAt_ba, ba_extract, tkC_nil, tkC_len, tkC_take3, lnC_nil, lnC_len, lnC_take, lnC_snocU])) (by (simp (disch := omega) only [go_sem, lint , lnC_snoc0, hs1, hs2, hs3, hs4, hs5, hs6, hs7, hs8, Int.toNat_natCast, ba_toList, ba_size, byteAt_ba, ba_extract, tkC_nil, tkC_len, tkC_take3, lnC_nil, lnC_len, lnC_take, lnC_snocU])) (fun d => by first | ((simp (disch := omega) only [go_sem, lint , lnC_snoc0, hs1, hs2, hs3, hs4, hs5, hs6, hs7, hs8, Int.toNat_natCast, ba_toList, ba_size, byteAt_ba, ba_extract, tkC_nil, tkC_len, tkC_take3, lnC_nil, lnC_len, lnC_take, lnC_snocU]); done) | ((simp (disch := omega) only [go_sem, lint , lnC_snoc0, hs1, hs2, hs3, hs4, hs5, hs6, hs7, hs8, Int.toNat_natCast, ba_toList, ba_size, byteAt_ba, ba_extract, tkC_nil, tkC_len, tkC_take3, lnC_nil, lnC_len, lnC_take, lnC_snocU]); rfl))
      · have hs5 := hb1
        have hs6 := hb2
        have hT := lineTk_not hb1 (.inr (by rw [ht2 hn2]; exact hb2))
        (refine Wk.o ?_; (repeat revert hK K); refine W4733a ?_; (repeat intro K hK); refine ⟨?_⟩)
        refine AX_nil 6 61 3 rfl ?_
        (refine AWH (σ := Nat × List (Nat × List UInt8)) [47, 48, 49, 50, 51, 52, 53, 56, 57, 58, 59, 60, 9, 61, 62, 63, 64, 65, 66, 67, 68, 69, 70, 71, 72, 73, 74, 75, 76, 77, 78, 79, 80, 81, 82, 83, 84, 85, 54, 55] (fun (i, T) => [(8, lint i), (6, .osl 1 0 T.length 3)]) (fun (i, T) => [some ⟨58, lnC rs⟩, some ⟨61, tkC ((rs.length + 1 : Nat) : Int) k T⟩]) (fun (i, T) => []) (fun (i, T) => k ≤ i ∧ i ≤ k + n + 1 ∧ T.length ≤ i - k ∧ lineTk ((l.drop k).take n) = T ++ tk (i - k) (((l.drop k).take n).drop (i - k))) (fun (i, T) => k + n + 1 - i) (k, []) (by first | exact ⟨Nat.le_refl _, by omega, Nat.zero_le _, by rw [hT, Nat.sub_self]; rfl⟩) ?_; rintro ⟨i, T⟩ d fr hfr ⟨hi1, hi2, hi3, hi4⟩; simp only [updS, deadS, List.set_cons_succ, List.set_cons_zero, lint] at hfr; subst hfr; (try dsimp only))
        by_cases hi5 : i < k + n
        · have hs8 : decide ((i : Int) < ((k + n : Nat) : Int)) = true := decide_eq_true (by omega)
          have hC := pf_gap (l.getD i 0)
          cases hsp : isSp (l.getD i 0) with
          | true =>
            rw [hsp] at hC
            have hI3 : k ≤ i + 1 ∧ i + 1 ≤ k + n + 1 ∧ T.length ≤ i + 1 - k ∧ lineTk ((l.drop k).take n) = T ++ tk (i + 1 - k) (((l.drop k).take n).drop (i + 1 - k)) := ⟨by omega, by omega, by omega, by rw [hi4, line_sp hkn hi1 hi5 hsp]⟩
            (refine Wk.o ?_; (repeat revert hK K); refine W4733a ?_; (repeat intro K hK); refine ⟨?_⟩)
            exact WEND (i + 1, T) hI3 (by (first | omega | (dsimp only; omega) | (simp only; omega)))
          | false =>
            rw [hsp] at hC
            (refine Wk.o ?_; (repeat revert hK K); refine W4733a ?_; (repeat intro K hK); refine ⟨?_⟩)
            (refine AWH (σ := Nat) [61, 62, 63, 64, 65, 66, 67, 68, 69, 70, 71, 72] (fun e => [(9, lint e)]) (fun e => [some ⟨58, lnC rs⟩, some ⟨61, tkC ((rs.length + 1 : Nat) : Int) k T⟩]) (fun e => []) (fun e => i ≤ e ∧ e ≤ k + n ∧ ∀ j, i ≤ j → j < e → isSp (l.getD j 0) = false) (fun e => k + n - e) i (by first | exact ⟨Nat.le_refl _, by omega, fun j h1 h2 => absurd h2 (by omega)⟩) ?_; rintro e d fr hfr ⟨he1, he2, he3⟩; simp only [updS, deadS, List.set_cons_succ, List.set_cons_zero, lint] at hfr; subst hfr; (try dsimp only))
            have hw : i < e → (e < k + n → isSp (l.getD e 0) = true) → k ≤ e + 1 ∧ e + 1 ≤ k + n + 1 ∧ (T ++ [(i - k, (l.drop i).take (e - i))]).length ≤ e + 1 - k ∧ lineTk ((l.drop k).take n) = (T ++ [(i - k, (l.drop i).take (e - i))]) ++ tk (e + 1 - k) (((l.drop k).take n).drop (e + 1 - k)) := fun g1 g2 =>
              ⟨by omega, by omega, by rw [List.length_append]; show _ + 1 ≤ _; omega, by rw [hi4, line_word hkn hi1 g1 he2 he3 g2, List.append_assoc]; rfl⟩
            have hs6 : tkC ((rs.length + 1 : Nat) : Int) k T ++ [lt (.int .i64 ((rs.length + 1 : Nat) : Int)), lt (.int .i64 (i : Int)), lt (.string (ba ((l.drop i).take (e - i))))] = tkC ((rs.length + 1 : Nat) : Int) k (T ++ [(i - k, (l.drop i).take (e - i))]) := by
              rw [← tkC_snoc, show (k : Int) + ((i - k : Nat) : Int) = (i : Int) by omega]
            by_cases he4 : e < k + n
            · have hs5 : decide ((e : Int) < ((k + n : Nat) : Int)) = true := decide_eq_true (by omega)
              have hC := pf_gap (l.getD e 0)
              cases hsp2 : isSp (l.getD e 0) with
              | false =>
                rw [hsp2] at hC
                have hI4 : i ≤ e + 1 ∧ e + 1 ≤ k + n ∧ ∀ j, i ≤ j → j < e + 1 → isSp (l.getD j 0) = false := ⟨by omega, by omega, fun j g1 g2 => by
                  rcases Nat.lt_or_ge j e with g3 | g3
                  · exact he3 j g1 g3
                  · rw [show j = e by omega]; exact hsp2⟩
                (refine Wk.o ?_; (repeat revert hK K); refine W4733a ?_; (repeat intro K hK); refine ⟨?_⟩)
                exact WEND (e + 1) hI4 (by (first | omega | (dsimp only; omega) | (simp only; omega)))
              | true =>
                rw [hsp2] at hC
                have hie : i < e := by
                  rcases Nat.lt_or_ge i e with g | g
                  · exact g
                  · rw [show e = i by omega] at hsp2; rw [hsp] at hsp2; cases hsp2
                first
                | (exfalso; omega)
                | ((refine Wk.o ?_; (repeat revert hK K); refine W4733a ?_; (repeat intro K hK); refine ⟨?_⟩)
                   exact whx_ren [0, 3] (e + 1, T ++ [(i - k, (l.drop i).take (e - i))]) (hw hie (fun _ => hsp2)) (by (first | omega | (dsimp only; omega) | (simp only; omega))) rfl (by decide) (by decide) (by (simp (disch := omega) only [go_sem, lint , lnC_snoc0, hs1, hs2, hs3, hs4, hs5, hs6, hs7, hs8, Int.toNat_natCast, ba_toList, ba_size, byteAt_ba, ba_extract, tkC_nil, tkC_len, tkC_take3, lnC_nil, lnC_len, lnC_take, lnC_snocU])) (by (simp (disch := omega) only [go_sem, lint , lnC_snoc0, hs1, hs2, hs3, hs4, hs5, hs6, hs7, hs8, Int.toNat_natCast, ba_toList, ba_size, byteAt_ba, ba_extract, tkC_nil, tkC_len, tkC_take3, lnC_nil, lnC_len, lnC_take, lnC_snocU])) (by (simp (disch := omega) only [go_sem, lint , lnC_snoc0, hs1, hs2, hs3, hs4, hs5, hs6, hs7, hs8, Int.toNat_natCast, ba_toList, ba_size, byteAt_ba, ba_extract, tkC_nil, tkC_len, tkC_take3, lnC_nil, lnC_len, lnC_take, lnC_snocU])) (fun d => by first | ((simp (disch := omega) only [go_sem, lint , lnC_snoc0, hs1, hs2, hs3, hs4, hs5, hs6, hs7, hs8, Int.toNat_natCast, ba_toList, ba_size, byteAt_ba, ba_extract, tkC_nil, tkC_len, tkC_take3, lnC_nil, lnC_len, lnC_take, lnC_snocU]); done) | ((simp (disch := omega) only [go_sem, lint , lnC_snoc0, hs1, hs2, hs3, hs4, hs5, hs6, hs7, hs8, Int.toNat_natCast, ba_toList, ba_size, byteAt_ba, ba_extract, tkC_nil, tkC_len, tkC_take3, lnC_nil, lnC_len, lnC_take, lnC_snocU]); rfl)))
            · have hs5 : decide ((e : Int) < ((k + n : Nat) : Int)) = false := decide_eq_false (by omega)
              (refine Wk.o ?_; (repeat revert hK K); refine W4733a ?_; (repeat intro K hK); refine ⟨?_⟩)
              exact whx_ren [0, 3] (e + 1, T ++ [(i - k, (l.drop i).take (e - i))]) (hw (by omega) (fun g => absurd g he4)) (by (first | omega | (dsimp only; omega) | (simp only; omega))) rfl (by decide) (by decide) (by (simp (disch := omega) only [go_sem, lint , lnC_snoc0, hs1, hs2, hs3, hs4, hs5, hs6, hs7, hs8, Int.toNat_natCast, ba_toList, ba_size, byteAt_ba, ba_extract, tkC_nil, tkC_len, tkC_take3, lnC_nil, lnC_len, lnC_take, lnC_snocU])) (by (simp (disch := omega) only [go_sem, lint , lnC_snoc0, hs1, hs2, hs3, hs4, hs5, hs6, hs7, hs8, Int.toNat_natCast, ba_toList, ba_size, byteAt_ba, ba_extract, tkC_nil, tkC_len, tkC_take3, lnC_nil, lnC_len, lnC_take, lnC_snocU])) (by (simp (disch := omega) only [go_sem, lint , lnC_snoc0, hs1, hs2, hs3, hs4, hs5, hs6, hs7, hs8, Int.toNat_natCast, ba_toList, ba_size, byteAt_ba, ba_extract, tkC_nil, tkC_len, tkC_take3, lnC_nil, lnC_len, lnC_take, lnC_snocU])) (fun d => by first | ((simp (disch := omega) only [go_sem, lint , lnC_snoc0, hs1, hs2, hs3, hs4, hs5, hs6, hs7, hs8, Int.toNat_natCast, ba_toList, ba_size, byteAt_ba, ba_extract, tkC_nil, tkC_len, tkC_take3, lnC_nil, lnC_len, lnC_take, lnC_snocU]); done) | ((simp (disch := omega) only [go_sem, lint , lnC_snoc0, hs1, hs2, hs3, hs4, hs5, hs6, hs7, hs8, Int.toNat_natCast, ba_toList, ba_size, byteAt_ba, ba_extract, tkC_nil, tkC_len, tkC_take3, lnC_nil, lnC_len, lnC_take, lnC_snocU]); rfl))
        · have hs8 : decide ((i : Int) < ((k + n : Nat) : Int)) = false := decide_eq_false (by omega)
          have hT2 : lineTk ((l.drop k).take n) = T := by rw [hi4, line_end hkn (by omega), List.append_nil]
          refine AX_freeze [1] [(6, .iv (iTk ((rs.length + 1 : Nat) : Int) k T))] (fun p hp => ?_) ?_
          · rw [List.mem_singleton.1 hp]; exact frz_tk rfl rfl
          unfold iTk
          simp only [setN, updS, List.set_cons_succ, List.set_cons_zero]
          (refine Wk.o ?_; (repeat revert hK K); refine W4733a ?_; (repeat intro K hK); refine ⟨?_⟩)
          exact whx_ren [3] (k + (n + 1), rs ++ [(rs.length + 1, k, T)]) (hI2 _ hT2) (by (first | omega | (dsimp only; omega) | (simp only; omega))) rfl (by decide) (by decide) (by (simp (disch := omega) only [go_sem, lint , lnC_snoc0, hs1, hs2, hs3, hs4, hs5, hs6, hs7, hs8, Int.toNat_natCast, ba_toList, ba_size, byteAt_ba, ba_extract, tkC_nil, tkC_len, tkC_take3, lnC_nil, lnC_len, lnC_take, lnC_snocU])) (by (simp (disch := omega) only [go_sem, lint , lnC_snoc0, hs1, hs2, hs3, hs4, hs5, hs6, hs7, hs8, Int.toNat_natCast, ba_toList, ba_size, byteAt_ba, ba_extract, tkC_nil, tkC_len, tkC_take3, lnC_nil, lnC_len, lnC_take, lnC_snocU])) (by (simp (disch := omega) only [go_sem, lint , lnC_snoc0, hs1, hs2, hs3, hs4, hs5, hs6, hs7, hs8, Int.toNat_natCast, ba_toList, ba_size, byteAt_ba, ba_extract, tkC_nil, tkC_len, tkC_take3, lnC_nil, lnC_len, lnC_take, lnC_snocU])) (fun d => by first | ((simp (disch := omega) only [go_sem, lint , lnC_snoc0, hs1, hs2, hs3, hs4, hs5, hs6, hs7, hs8, Int.toNat_natCast, ba_toList, ba_size, byteAt_ba, ba_extract, tkC_nil, tkC_len, tkC_take3, lnC_nil, lnC_len, lnC_take, lnC_snocU]); done) | ((simp (disch := omega) only [go_sem, lint , lnC_snoc0, hs1, hs2, hs3, hs4, hs5, hs6, hs7, hs8, Int.toNat_natCast, ba_toList, ba_size, byteAt_ba, ba_extract, tkC_nil, tkC_len, tkC_take3, lnC_nil, lnC_len, lnC_take, lnC_snocU]); rfl))
      · have hs5 := hb1
        have hT := lineTk_not hb1 (.inl (by rw [hL]; exact hn2))
        (refine Wk.o ?_; (repeat revert hK K); refine W4733a ?_; (repeat intro K hK); refine ⟨?_⟩)
        refine AX_nil 6 61 3 rfl ?_
        (refine AWH (σ := Nat × List (Nat × List UInt8)) [47, 48, 49, 50, 51, 52, 53, 56, 57, 58, 59, 60, 9, 61, 62, 63, 64, 65, 66, 67, 68, 69, 70, 71, 72, 73, 74, 75, 76, 77, 78, 79, 80, 81, 82, 83, 84, 85, 54, 55] (fun (i, T) => [(8, lint i), (6, .osl 1 0 T.length 3)]) (fun (i, T) => [some ⟨58, lnC rs⟩, some ⟨61, tkC ((rs.length + 1 : Nat) : Int) k T⟩]) (fun (i, T) => []) (fun (i, T) => k ≤ i ∧ i ≤ k + n + 1 ∧ T.length ≤ i - k ∧ lineTk ((l.drop k).take n) = T ++ tk (i - k) (((l.drop k).take n).drop (i - k))) (fun (i, T) => k + n + 1 - i) (k, []) (by first | exact ⟨Nat.le_refl _, by omega, Nat.zero_le _, by rw [hT, Nat.sub_self]; rfl⟩) ?_; rintro ⟨i, T⟩ d fr hfr ⟨hi1, hi2, hi3, hi4⟩; simp only [updS, deadS, List.set_cons_succ, List.set_cons_zero, lint] at hfr; subst hfr; (try dsimp only))
        by_cases hi5 : i < k + n
        · have hs8 : decide ((i : Int) < ((k + n : Nat) : Int)) = true := decide_eq_true (by omega)
          have hC := pf_gap (l.getD i 0)
          cases hsp : isSp (l.getD i 0) with
          | true =>
            rw [hsp] at hC
            have hI3 : k ≤ i + 1 ∧ i + 1 ≤ k + n + 1 ∧ T.length ≤ i + 1 - k ∧ lineTk ((l.drop k).take n) = T ++ tk (i + 1 - k) (((l.drop k).take n).drop (i + 1 - k)) := ⟨by omega, by omega, by omega, by rw [hi4, line_sp hkn hi1 hi5 hsp]⟩
            (refine Wk.o ?_; (repeat revert hK K); refine W4733a ?_; (repeat intro K hK); refine ⟨?_⟩)
            exact WEND (i + 1, T) hI3 (by (first | omega | (dsimp only; omega) | (simp only; omega)))
          | false =>
            rw [hsp] at hC
            (refine Wk.o ?_; (repeat revert hK K); refine W4733a ?_; (repeat intro K hK); refine ⟨?_⟩)
            (refine AWH (σ := Nat) [61, 62, 63, 64, 65, 66, 67, 68, 69, 70, 71, 72] (fun e => [(9, lint e)]) (fun e => [some ⟨58, lnC rs⟩, some ⟨61, tkC ((rs.length + 1 : Nat) : Int) k T⟩]) (fun e => []) (fun e => i ≤ e ∧ e ≤ k + n ∧ ∀ j, i ≤ j → j < e → isSp (l.getD j 0) = false) (fun e => k + n - e) i (by first | exact ⟨Nat.le_refl _, by omega, fun j h1 h2 => absurd h2 (by omega)⟩) ?_; rintro e d fr hfr ⟨he1, he2, he3⟩; simp only [updS, deadS, List.set_cons_succ, List.set_cons_zero, lint] at hfr; subst hfr; (try dsimp only))
            have hw : i < e → (e < k + n → isSp (l.getD e 0) = true) → k ≤ e + 1 ∧ e + 1 ≤ k + n + 1 ∧ (T ++ [(i - k, (l.drop i).take (e - i))]).length ≤ e + 1 - k ∧ lineTk ((l.drop k).take n) = (T ++ [(i - k, (l.drop i).take (e - i))]) ++ tk (e + 1 - k) (((l.drop k).take n).drop (e + 1 - k)) := fun g1 g2 =>
              ⟨by omega, by omega, by rw [List.length_append]; show _ + 1 ≤ _; omega, by rw [hi4, line_word hkn hi1 g1 he2 he3 g2, List.append_assoc]; rfl⟩
            have hs6 : tkC ((rs.length + 1 : Nat) : Int) k T ++ [lt (.int .i64 ((rs.length + 1 : Nat) : Int)), lt (.int .i64 (i : Int)), lt (.string (ba ((l.drop i).take (e - i))))] = tkC ((rs.length + 1 : Nat) : Int) k (T ++ [(i - k, (l.drop i).take (e - i))]) := by
              rw [← tkC_snoc, show (k : Int) + ((i - k : Nat) : Int) = (i : Int) by omega]
            by_cases he4 : e < k + n
            · have hs5 : decide ((e : Int) < ((k + n : Nat) : Int)) = true := decide_eq_true (by omega)
              have hC := pf_gap (l.getD e 0)
              cases hsp2 : isSp (l.getD e 0) with
              | false =>
                rw [hsp2] at hC
                have hI4 : i ≤ e + 1 ∧ e + 1 ≤ k + n ∧ ∀ j, i ≤ j → j < e + 1 → isSp (l.getD j 0) = false := ⟨by omega, by omega, fun j g1 g2 => by
                  rcases Nat.lt_or_ge j e with g3 | g3
                  · exact he3 j g1 g3
                  · rw [show j = e by omega]; exact hsp2⟩
                (refine Wk.o ?_; (repeat revert hK K); refine W4733a ?_; (repeat intro K hK); refine ⟨?_⟩)
                exact WEND (e + 1) hI4 (by (first | omega | (dsimp only; omega) | (simp only; omega)))
              | true =>
                rw [hsp2] at hC
                have hie : i < e := by
                  rcases Nat.lt_or_ge i e with g | g
                  · exact g
                  · rw [show e = i by omega] at hsp2; rw [hsp] at hsp2; cases hsp2
                first
                | (exfalso; omega)
                | ((refine Wk.o ?_; (repeat revert hK K); refine W4733a ?_; (repeat intro K hK); refine ⟨?_⟩)
                   exact whx_ren [0, 3] (e + 1, T ++ [(i - k, (l.drop i).take (e - i))]) (hw hie (fun _ => hsp2)) (by (first | omega | (dsimp only; omega) | (simp only; omega))) rfl (by decide) (by decide) (by (simp (disch := omega) only [go_sem, lint , lnC_snoc0, hs1, hs2, hs3, hs4, hs5, hs6, hs7, hs8, Int.toNat_natCast, ba_toList, ba_size, byteAt_ba, ba_extract, tkC_nil, tkC_len, tkC_take3, lnC_nil, lnC_len, lnC_take, lnC_snocU])) (by (simp (disch := omega) only [go_sem, lint , lnC_snoc0, hs1, hs2, hs3, hs4, hs5, hs6, hs7, hs8, Int.toNat_natCast, ba_toList, ba_size, byteAt_ba, ba_extract, tkC_nil, tkC_len, tkC_take3, lnC_nil, lnC_len, lnC_take, lnC_snocU])) (by (simp (disch := omega) only [go_sem, lint , lnC_snoc0, hs1, hs2, hs3, hs4, hs5, hs6, hs7, hs8, Int.toNat_natCast, ba_toList, ba_size, byteAt_ba, ba_extract, tkC_nil, tkC_len, tkC_take3, lnC_nil, lnC_len, lnC_take, lnC_snocU])) (fun d => by first | ((simp (disch := omega) only [go_sem, lint , lnC_snoc0, hs1, hs2, hs3, hs4, hs5, hs6, hs7, hs8, Int.toNat_natCast, ba_toList, ba_size, byteAt_ba, ba_extract, tkC_nil, tkC_len, tkC_take3, lnC_nil, lnC_len, lnC_take, lnC_snocU]); done) | ((simp (disch := omega) only [go_sem, lint , lnC_snoc0, hs1, hs2, hs3, hs4, hs5, hs6, hs7, hs8, Int.toNat_natCast, ba_toList, ba_size, byteAt_ba, ba_extract, tkC_nil, tkC_len, tkC_take3, lnC_nil, lnC_len, lnC_take, lnC_snocU]); rfl)))
            · have hs5 : decide ((e : Int) < ((k + n : Nat) : Int)) = false := decide_eq_false (by omega)
              (refine Wk.o ?_; (repeat revert hK K); refine W4733a ?_; (repeat intro K hK); refine ⟨?_⟩)
              exact whx_ren [0, 3] (e + 1, T ++ [(i - k, (l.drop i).take (e - i))]) (hw (by omega) (fun g => absurd g he4)) (by (first | omega | (dsimp only; omega) | (simp only; omega))) rfl (by decide) (by decide) (by (simp (disch := omega) only [go_sem, lint , lnC_snoc0, hs1, hs2, hs3, hs4, hs5, hs6, hs7, hs8, Int.toNat_natCast, ba_toList, ba_size, byteAt_ba, ba_extract, tkC_nil, tkC_len, tkC_take3, lnC_nil, lnC_len, lnC_take, lnC_snocU])) (by (simp (disch := omega) only [go_sem, lint , lnC_snoc0, hs1, hs2, hs3, hs4, hs5, hs6, hs7, hs8, Int.toNat_natCast, ba_toList, ba_size, byteAt_ba, ba_extract, tkC_nil, tkC_len, tkC_take3, lnC_nil, lnC_len, lnC_take, lnC_snocU])) (by (simp (disch := omega) only [go_sem, lint , lnC_snoc0, hs1, hs2, hs3, hs4, hs5, hs6, hs7, hs8, Int.toNat_natCast, ba_toList, ba_size, byteAt_ba, ba_extract, tkC_nil, tkC_len, tkC_take3, lnC_nil, lnC_len, lnC_take, lnC_snocU])) (fun d => by first | ((simp (disch := omega) only [go_sem, lint , lnC_snoc0, hs1, hs2, hs3, hs4, hs5, hs6, hs7, hs8, Int.toNat_natCast, ba_toList, ba_size, byteAt_ba, ba_extract, tkC_nil, tkC_len, tkC_take3, lnC_nil, lnC_len, lnC_take, lnC_snocU]); done) | ((simp (disch := omega) only [go_sem, lint , lnC_snoc0, hs1, hs2, hs3, hs4, hs5, hs6, hs7, hs8, Int.toNat_natCast, ba_toList, ba_size, byteAt_ba, ba_extract, tkC_nil, tkC_len, tkC_take3, lnC_nil, lnC_len, lnC_take, lnC_snocU]); rfl))
        · have hs8 : decide ((i : Int) < ((k + n : Nat) : Int)) = false := decide_eq_false (by omega)
          have hT2 : lineTk ((l.drop k).take n) = T := by rw [hi4, line_end hkn (by omega), List.append_nil]
          refine AX_freeze [1] [(6, .iv (iTk ((rs.length + 1 : Nat) : Int) k T))] (fun p hp => ?_) ?_
          · rw [List.mem_singleton.1 hp]; exact frz_tk rfl rfl
          unfold iTk
          simp only [setN, updS, List.set_cons_succ, List.set_cons_zero]
          (refine Wk.o ?_; (repeat revert hK K); refine W4733a ?_; (repeat intro K hK); refine ⟨?_⟩)
          exact whx_ren [3] (k + (n + 1), rs ++ [(rs.length + 1, k, T)]) (hI2 _ hT2) (by (first | omega | (dsimp only; omega) | (simp only; omega))) rfl (by decide) (by decide) (by (simp (disch := omega) only [go_sem, lint , lnC_snoc0, hs1, hs2, hs3, hs4, hs5, hs6, hs7, hs8, Int.toNat_natCast, ba_toList, ba_size, byteAt_ba, ba_extract, tkC_nil, tkC_len, tkC_take3, lnC_nil, lnC_len, lnC_take, lnC_snocU])) (by (simp (disch := omega) only [go_sem, lint , lnC_snoc0, hs1, hs2, hs3, hs4, hs5, hs6, hs7, hs8, Int.toNat_natCast, ba_toList, ba_size, byteAt_ba, ba_extract, tkC_nil, tkC_len, tkC_take3, lnC_nil, lnC_len, lnC_take, lnC_snocU])) (by (simp (disch := omega) only [go_sem, lint , lnC_snoc0, hs1, hs2, hs3, hs4, hs5, hs6, hs7, hs8, Int.toNat_natCast, ba_toList, ba_size, byteAt_ba, ba_extract, tkC_nil, tkC_len, tkC_take3, lnC_nil, lnC_len, lnC_take, lnC_snocU])) (fun d => by first | ((simp (disch := omega) only [go_sem, lint , lnC_snoc0, hs1, hs2, hs3, hs4, hs5, hs6, hs7, hs8, Int.toNat_natCast, ba_toList, ba_size, byteAt_ba, ba_extract, tkC_nil, tkC_len, tkC_take3, lnC_nil, lnC_len, lnC_take, lnC_snocU]); done) | ((simp (disch := omega) only [go_sem, lint , lnC_snoc0, hs1, hs2, hs3, hs4, hs5, hs6, hs7, hs8, Int.toNat_natCast, ba_toList, ba_size, byteAt_ba, ba_extract, tkC_nil, tkC_len, tkC_take3, lnC_nil, lnC_len, lnC_take, lnC_snocU]); rfl))
  · have hd : lns 1 0 l = rs := by rw [hz, List.drop_of_length_le (by omega), lns_nil, List.append_nil]
    (refine Wk.o ?_; (repeat revert hK K); refine W4733a ?_; (repeat intro K hK); refine ⟨?_⟩)
    (simp only [bodyX]; refine ⟨_, by simp only [aresults, aresult, XS.as, Tryd.results48, aload, go_sem, Option.bind_some]; rfl, ?_⟩)
    exact ⟨_, snap_ln rfl rfl, by rw [hd], trivial⟩
end Go.Proofs.YthgmjboldboclaaDoor
namespace Go.Proofs.YthgmjboldboclaaDoor
open Go.RowKit Go.Lib
set_option linter.unusedVariables false
set_option linter.unusedSimpArgs false
theorem tokC_snoc (T : List Tok3) (a b : Int) (x : List UInt8) : tokC T ++ [lt (.int .i64 a), lt (.int .i64 b), lt (.string (ba x))] = tokC (T ++ [(a, b, x)]) := by
  unfold tokC tokL
  rw [List.flatMap_append, List.map_append]; rfl
def rowT (r : Nat × Nat × List (Nat × List UInt8)) : List Tok3 := r.2.2.map fun t => ((r.1 : Int), (r.2.1 : Int) + t.1, t.2)
theorem allT_take {rs : List (Nat × Nat × List (Nat × List UInt8))} {i : Nat} (h : i < rs.length) : allT (rs.take (i + 1)) = allT (rs.take i) ++ rowT (rs.getD i (0, 0, [])) := by
  unfold allT
  rw [tk_snocD (0, 0, []) h, List.flatMap_append]; simp [rowT]
def iTok (T : List Tok3) : IV := .sl (fun j => .lit ((tokL T).getD j undef)) T.length 3
theorem snap_tok {H : AHeap} {o n : Nat} {t : TypeId} {T : List Tok3} (h : H[o]? = some (some ⟨t, tokC T⟩)) (hn : n = T.length) : Snap H (.osl o 0 n 3) (.iv (iTok T)) := by
  subst hn
  exact .iv _ _ (.osl _ 0 _ 3 _ ⟨t, tokC T⟩ (fun j => lt ((tokL T).getD j undef)) (by decide) h (fun j hj => by
    have hj' : j < (tokL T).length := by rw [tokL_len]; exact hj
    rw [Nat.zero_add]
    show ((tokL T).map lt)[j]? = _
    rw [List.getElem?_map, List.getElem?_eq_getElem hj']
    simp [List.getD_eq_getElem?_getD, List.getElem?_eq_getElem hj']) fun j _ => .iv _)
theorem tokC_take3 (T : List Tok3) : (tokC T).take (T.length * 3) = tokC T := tokC_take T (Nat.le_refl _)
attribute [go_sem] rnL_tokC idL_tokC tokC_len tokC_one tokC_take3 tokC_snoc
theorem Wce18a {A B : Prop} (h9 : B) (w : B → A := by (intro h9; (repeat intro K hK); refine ⟨?_⟩; (repeat (first | (first | (with_reducible first | refine AX_block ?_ | refine AX_skip ?_ | refine AX_exit ?_ | refine AX_ret ?_ | refine AX_ift ?_ | refine AX_iff ?_ | refine AX_seq_k (fun K hK => ?_) | refine ContX.use (by assumption) ?_) | simp only [thenX, inBlockX, if_true, if_false, reduceCtorEq]) | (first | ((with_reducible refine XOP tyOK ?_); simp (disch := omega) only [go_sem , hs1, hs2, hs3, hs4, hs5, hs6, hs7, hs8, Int.toNat_natCast]; (with_reducible refine XRes_id ?_)) | (with_reducible refine XSK ?_)) | ((with_reducible refine XRes_nil ?_); refine hK _ ?_; clear hK K) | ((with_reducible refine AX_reg0 fun K hK => ?_); simp only [go_sem]) | (first | (first | refine XTL (by rfl) hL ?_)))); refine Wk.o ?_; (repeat revert hK K); exact h9)) : A := w h9
set_option maxRecDepth 100000 in
set_option maxHeartbeats 4000000 in
theorem pf_rAllG (l : List UInt8) (rs : List (Nat × Nat × List (Nat × List UInt8))) (hR : rs.length ≤ 1000000) (hT : ∀ i, (rs.getD i (0, 0, [])).2.2.length ≤ 1000000) (hL : PF Tryd.prog 48 [lt (.string (ba l))] fun r H' => r = .iv (iLn rs) ∧ H' = []) : PF Tryd.prog 23 [lt (.string (ba l))] fun r H' => r = .iv (iTok (allT rs)) ∧ H' = [] := by
  refine SF.frozen ?_
  have hs1 := trivial; have hs2 := trivial; have hs3 := trivial; have hs4 := trivial; have hs5 := trivial; have hs6 := trivial; have hs7 := trivial; have hs8 := trivial; have hlen := True.intro
  have hU : iLn rs = .sl (fun j => rowIV (rs.getD j (0, 0, []))) rs.length 1 := rfl
  rw [hU] at hL
  (refine SF_of_bodyX (aload tt) (aload_ok tyOK) Tryd.func23 rfl (by kernel_rfl) ?_; simp only [Tryd.ntmps23, List.length_cons, List.length_nil, Nat.reduceAdd, Nat.reduceSub, List.replicate_succ, List.replicate_zero, List.cons_append, List.nil_append])
  (refine Wk.o ?_; (repeat revert hK K); refine Wce18a ?_; (repeat intro K hK); refine ⟨?_⟩)
  refine AX_nil 3 61 3 rfl ?_
  (refine AWH (σ := Nat × List Tok3) [9, 10, 11, 12, 6, 15, 16, 17, 18, 19, 20, 21, 24, 25, 26, 27, 28, 29, 30, 31, 32, 33, 22, 23, 13, 14] (fun (i, T) => [(5, lint i), (3, .osl 0 0 T.length 3)]) (fun (i, T) => [some ⟨61, tokC T⟩]) (fun (i, T) => []) (fun (i, T) => i ≤ rs.length ∧ T = allT (rs.take i) ∧ T.length ≤ 1000000 * i) (fun (i, T) => rs.length - i) (0, []) (by first | exact ⟨Nat.zero_le _, rfl, Nat.le_refl _⟩) ?_; rintro ⟨i, T⟩ d fr hfr ⟨hi, hTe, hTl⟩; simp only [updS, deadS, List.set_cons_succ, List.set_cons_zero, lint] at hfr; subst hfr; (try dsimp only))
  by_cases hlt : i < rs.length
  · have hts := hT i
    have hat := allT_take hlt
    rcases hr : rs.getD i (0, 0, []) with ⟨a, c, ts⟩
    rw [hr] at hts hat
    dsimp only at hts
    have hs1 : rowIV (rs.getD i (0, 0, [])) = .sl (fun j => .lit ((tkL a c ts).getD j undef)) ts.length 3 := by rw [hr]; rfl
    (refine Wk.o ?_; (repeat revert hK K); refine Wce18a ?_; (repeat intro K hK); refine ⟨?_⟩)
    (refine AWH (σ := Nat × List Tok3) [15, 16, 17, 18, 19, 20, 21, 24, 25, 26, 27, 28, 29, 30, 31, 32, 33, 22, 23] (fun (j, T2) => [(6, lint j), (3, .osl 0 0 T2.length 3)]) (fun (j, T2) => [some ⟨61, tokC T2⟩]) (fun (j, T2) => []) (fun (j, T2) => j ≤ ts.length ∧ T2 = T ++ rowT (a, c, ts.take j) ∧ T2.length ≤ T.length + j) (fun (j, T2) => ts.length - j) (0, T) (by first | exact ⟨Nat.zero_le _, by simp [rowT], Nat.le_refl _⟩) ?_; rintro ⟨j, T2⟩ d fr hfr ⟨hj, hT2, hT2l⟩; simp only [updS, deadS, List.set_cons_succ, List.set_cons_zero, lint] at hfr; subst hfr; (try dsimp only))
    by_cases hlj : j < ts.length
    · obtain ⟨e1, e2, e3⟩ := tkL_at (a := a) (b := c) hlj
      have htk := tk_snocD (0, []) hlj
      rcases ht : ts.getD j (0, []) with ⟨ta, tx⟩
      rw [ht] at e2 e3 htk
      dsimp only at e2 e3
      have hs5 := e1
      have hs6 := e2
      have hs7 := e3
      have hlen : ∀ t : Tok3, (T2 ++ [t]).length = T2.length + 1 := fun t => by simp
      (refine Wk.o ?_; (repeat revert hK K); refine Wce18a ?_; (repeat intro K hK); refine ⟨?_⟩)
      exact whx_ren [2] (j + 1, T2 ++ [((a : Int), (c : Int) + ta, tx)]) ⟨by omega, by rw [htk, hT2, List.append_assoc]; simp [rowT], by rw [hlen]; omega⟩ (by (first | omega | (dsimp only; omega) | (simp only; omega))) rfl (by decide) (by decide) (by (simp (disch := omega) only [go_sem, lint, hlen])) (by (simp (disch := omega) only [go_sem, lint, hlen])) (by (simp (disch := omega) only [go_sem, lint, hlen])) (fun d => by first | ((simp (disch := omega) only [go_sem, lint, hlen]); done) | ((simp (disch := omega) only [go_sem, lint, hlen]); rfl))
    · obtain rfl : j = ts.length := by omega
      (refine Wk.o ?_; (repeat revert hK K); refine Wce18a ?_; (repeat intro K hK); refine ⟨?_⟩)
      exact whx_ren [0] (i + 1, T2) ⟨by omega, by rw [hat, hT2, hTe, List.take_length], by show T2.length ≤ _; omega⟩ (by (first | omega | (dsimp only; omega) | (simp only; omega))) rfl (by decide) (by decide) (by (simp (disch := omega) only [go_sem, lint, hlen])) (by (simp (disch := omega) only [go_sem, lint, hlen])) (by (simp (disch := omega) only [go_sem, lint, hlen])) (fun d => by first | ((simp (disch := omega) only [go_sem, lint, hlen]); done) | ((simp (disch := omega) only [go_sem, lint, hlen]); rfl))
  · obtain rfl : i = rs.length := by omega
    (refine Wk.o ?_; (repeat revert hK K); refine Wce18a ?_; (repeat intro K hK); refine ⟨?_⟩)
    (simp only [bodyX]; refine ⟨_, by simp only [aresults, aresult, XS.as, Tryd.results23, aload, go_sem, Option.bind_some]; rfl, ?_⟩)
    exact ⟨_, snap_tok rfl rfl, by rw [hTe, List.take_length], by first | trivial | rfl⟩
end Go.Proofs.YthgmjboldboclaaDoor
namespace Go.Proofs.YthgmjboldboclaaDoor
open Go.RowKit Go.Lib
set_option linter.unusedVariables false
set_option linter.unusedSimpArgs false
theorem XRes_cellNewB {P : Program} {m : Nat} {Q : Exit → XS → Prop} {l : List Oper} {fr : List AV} {H : AHeap} {M : MS} (o t sz j : Nat) (x : AObj) (ho : H[o]? = some (some x)) (hj : x.cells[j]? = some (lt (.slice none 0 0))) (h : XRes P m Q (l, ⟨fr, H.set o (some ⟨x.t, x.cells.set j (.osl H.length 0 0 sz)⟩) ++ [some ⟨t, []⟩], M⟩)) : XRes P m Q (l, ⟨fr, H, M⟩) := by
  have hol := (List.getElem?_eq_some_iff.1 ho).1
  refine XRes_lead (S := fun s1 => s1 = ⟨fr, H ++ [some ⟨t, []⟩], M⟩) (.of (.more t rfl)) fun s' e _ => ?_
  subst e
  refine XRes_lead (S := fun s1 => s1 = ⟨fr, H.set o (some ⟨x.t, x.cells.set j (.osl H.length 0 0 sz)⟩) ++ [some ⟨t, []⟩], M⟩) (.of (.cellNilAt o H.length sz j x ⟨t, []⟩ (by rw [List.getElem?_append_left hol]; exact ho) hj (by simp) ?_)) fun s' e _ => by rw [e]; exact h
  show (⟨_, _, _⟩ : XS) = _
  rw [List.set_append_left _ _ hol]
theorem rnL_u8D (r : Nat → Nat) (l : List UInt8) : rnL r (u8C l) = u8C l := by unfold u8C; rw [rnL_map, List.map_map]; rfl
theorem idL_u8D (p : Nat → Bool) (l : List UInt8) : idL p (u8C l) = true := by unfold u8C; rw [idL_all, List.all_map, List.all_eq_true]; exact fun _ _ => rfl
attribute [go_sem] rnL_u8D idL_u8D
theorem W4251a {A B : Prop} (h9 : B) (w : B → A := by (intro h9; (repeat intro K hK); refine ⟨?_⟩; (repeat (first | (first | (with_reducible first | refine AX_block ?_ | refine AX_skip ?_ | refine AX_exit ?_ | refine AX_ret ?_ | refine AX_ift ?_ | refine AX_iff ?_ | refine AX_seq_k (fun K hK => ?_) | refine ContX.use (by assumption) ?_) | simp only [thenX, inBlockX, if_true, if_false, reduceCtorEq]) | ((refine XRes_allocX tyOK (e := bT) (by rfl) (by rfl) (by rfl) ?_); (simp only [putL, List.set_cons_succ, List.set_cons_zero])) | (first | ((with_reducible refine XOP tyOK ?_); simp (disch := omega) only [go_sem , hs1, hs2, hs3, hs4, hs5, hs6, hs7, hs8, hs9, Int.toNat_natCast, ba_size, u8C_len, List.length_append, List.length_set, List.length_nil, List.length_cons, Nat.reduceAdd]; (with_reducible refine XRes_id ?_)) | (with_reducible refine XSK ?_)) | ((with_reducible refine XRes_nil ?_); refine hK _ ?_; clear hK K) | ((with_reducible refine AX_reg0 fun K hK => ?_); simp only [go_sem]) | (first | (first | refine XTL (by rfl) hD ?_ | refine XTL (by rfl) hH ?_ | refine XTL (by rfl) hk ?_)))); refine Wk.o ?_; (repeat revert hK K); exact h9)) : A := w h9
theorem W4251b {A B : Prop} (h9 : B) (w : B → A := by (intro h9; (repeat intro K hK); refine ⟨?_⟩; (repeat (first | (first | (with_reducible first | refine AX_block ?_ | refine AX_skip ?_ | refine AX_exit ?_ | refine AX_ret ?_ | refine AX_ift ?_ | refine AX_iff ?_ | refine AX_seq_k (fun K hK => ?_) | refine ContX.use (by assumption) ?_) | simp only [thenX, inBlockX, if_true, if_false, reduceCtorEq]) | (first | ((with_reducible refine XOP tyOK ?_); simp (disch := omega) only [go_sem , hs1, hs2, hs3, hs4, hs5, hs6, hs7, hs8, hs9, Int.toNat_natCast, ba_size, u8C_len, List.length_append, List.length_set, List.length_nil, List.length_cons, Nat.reduceAdd]; (with_reducible refine XRes_id ?_)) | (with_reducible refine XSK ?_)) | ((with_reducible refine XRes_nil ?_); refine hK _ ?_; clear hK K) | ((with_reducible refine AX_reg0 fun K hK => ?_); simp only [go_sem]) | (first | (first | refine XTL (by rfl) hD ?_ | refine XTL (by rfl) hH ?_ | refine XTL (by rfl) hk ?_)))); refine Wk.o ?_; (repeat revert hK K); exact h9)) : A := w h9
set_option maxRecDepth 100000 in
set_option maxHeartbeats 4000000 in
theorem pf_dPrintNo (V : Int) (xss : List (List Int)) (A E : Int) (hE : E ≠ 0) (hk : PF Tryd.prog 16 [aForm V xss] fun r H' => r = .tup [lint A, lint E] ∧ H' = []) : PF Tryd.prog 12 [aForm V xss] fun r H' => r = .tup [lt (.string (ba [])), lint E] ∧ H' = [] := by
  refine SF.forgetAll ?_
  have hk0 := hk
  have hs1 := trivial; have hs2 := trivial; have hs3 := trivial; have hs4 := trivial; have hs5 := trivial; have hs6 := trivial; have hs7 := trivial; have hs8 := trivial; have hs9 := trivial; have hD := trivial; have hH := trivial; have hk := trivial
  have hk := hk0
  have hs1 : (E == 0) = false := by simpa using hE
  unfold aForm iRows lint at *
  (refine SF_of_bodyX (aload tt) (aload_ok tyOK) Tryd.func12 rfl (by kernel_rfl) ?_; simp only [Tryd.ntmps12, List.length_cons, List.length_nil, Nat.reduceAdd, Nat.reduceSub, List.replicate_succ, List.replicate_zero, List.cons_append, List.nil_append])
  (refine Wk.o ?_; (repeat revert hK K); refine W4251a ?_; (repeat intro K hK); refine ⟨?_⟩)
  (simp only [bodyX]; refine ⟨_, by simp only [aresults, aresult, XS.as, Tryd.results12, aload, go_sem, Option.bind_some]; rfl, ?_⟩)
  exact ⟨ids_idB rfl, rfl, trivial⟩
set_option maxRecDepth 100000 in
set_option maxHeartbeats 4000000 in
theorem pf_dPrint (V : Int) (xss : List (List Int)) (A : Int) (hV : Fit V) (hF : ∀ c ∈ xss, ∀ x ∈ c, Fit x) (hR : xss.length ≤ 1000000) (hC : ∀ c ∈ xss, c.length ≤ 1000000) (hP : (prB V xss).length ≤ 1000000) (hk : PF Tryd.prog 16 [aForm V xss] fun r H' => r = .tup [lint A, lint 0] ∧ H' = []) : PF Tryd.prog 12 [aForm V xss] fun r H' => r = .tup [lt (.string (ba (prB V xss))), lint 0] ∧ H' = [] := by
  refine SF.forgetAll ?_
  have hk0 := hk
  have hs1 := trivial; have hs2 := trivial; have hs3 := trivial; have hs4 := trivial; have hs5 := trivial; have hs6 := trivial; have hs7 := trivial; have hs8 := trivial; have hs9 := trivial; have hD := trivial; have hH := trivial; have hk := trivial
  have hk := hk0
  have hH := pf_Head6 V (xss.length : Int) hV ⟨by omega, by omega⟩
  have hHl : (headB V xss.length).length ≤ 60 := headB_len hV ⟨by omega, by omega⟩
  unfold aForm iRows lint at *
  (refine SF_of_bodyX (aload tt) (aload_ok tyOK) Tryd.func12 rfl (by kernel_rfl) ?_; simp only [Tryd.ntmps12, List.length_cons, List.length_nil, Nat.reduceAdd, Nat.reduceSub, List.replicate_succ, List.replicate_zero, List.cons_append, List.nil_append])
  (refine Wk.o ?_; (repeat revert hK K); refine W4251a ?_; (repeat intro K hK); refine ⟨?_⟩)
  refine XRes_cellNewB 1 5 1 1 _ rfl rfl ?_
  simp only [List.length_cons, List.length_nil, List.cons_append, List.nil_append, Nat.zero_add, Nat.reduceAdd, List.set_cons_succ, List.set_cons_zero]
  refine XRes_fn (by rfl) (sf_bws (o := 1) (q := 2) (l := []) (by rfl) (.inl rfl) (by rfl) (by decide) (by decide) (headB V xss.length) (by omega)) ?_
  rintro r H1 ⟨rfl, rfl⟩
  (simp only [putL, List.set_cons_succ, List.set_cons_zero])
  (refine Wk.o ?_; (repeat revert hK K); refine W4251a ?_; (repeat intro K hK); refine ⟨?_⟩)
  refine AX_ren [0, 1, 3] [] ?fr2 [some ⟨25, [lint V, .iv (.sl (fun j => iInts (xss.getD j [])) xss.length 1)]⟩, some ⟨bT, [.xptr 1 2, .osl 2 0 (headB V xss.length).length 1]⟩, some ⟨5, u8C (headB V xss.length)⟩] (by decide) (by decide) (by (simp (disch := omega) only [go_sem, lint , hs1, hs2, hs3, hs4, hs5, hs6, hs7, hs8, hs9, Int.toNat_natCast, ba_size, u8C_len, List.length_append, List.length_set, List.length_nil, List.length_cons, Nat.reduceAdd])) (by (simp (disch := omega) only [go_sem, lint , hs1, hs2, hs3, hs4, hs5, hs6, hs7, hs8, hs9, Int.toNat_natCast, ba_size, u8C_len, List.length_append, List.length_set, List.length_nil, List.length_cons, Nat.reduceAdd])) (by (simp (disch := omega) only [go_sem, lint , hs1, hs2, hs3, hs4, hs5, hs6, hs7, hs8, hs9, Int.toNat_natCast, ba_size, u8C_len, List.length_append, List.length_set, List.length_nil, List.length_cons, Nat.reduceAdd])) ?hfr (fun d2 => ?_)
  case hfr =>
    (simp (disch := omega) only [go_sem, lint , hs1, hs2, hs3, hs4, hs5, hs6, hs7, hs8, hs9, Int.toNat_natCast, ba_size, u8C_len, List.length_append, List.length_set, List.length_nil, List.length_cons, Nat.reduceAdd])
    rfl
  simp only [deadS, List.set_cons_succ, List.set_cons_zero]
  have h00 : headB V xss.length = headB V xss.length ++ (xss.take 0).flatMap clB := by simp
  rw [h00]
  (refine AWH (σ := Nat) [30, 31, 32, 8, 33, 34, 35, 36, 37, 38, 10, 39, 40, 41, 42, 43, 44, 45, 46, 2, 3, 47] (fun k => [(29, lint k)]) (fun k => [some ⟨25, [lint V, .iv (.sl (fun j => iInts (xss.getD j [])) xss.length 1)]⟩, some ⟨bT, [.xptr 1 2, .osl 2 0 (headB V xss.length ++ (xss.take k).flatMap clB).length 1]⟩, some ⟨5, u8C (headB V xss.length ++ (xss.take k).flatMap clB)⟩]) (fun k => []) (fun k => k ≤ xss.length) (fun k => xss.length - k) 0 (by first | exact Nat.zero_le _) ?_; rintro k d fr hfr hk2; simp only [updS, deadS, List.set_cons_succ, List.set_cons_zero, lint] at hfr; subst hfr; (try dsimp only))
  by_cases hlt : k < xss.length
  · have hst := flat_step clB [] hlt
    have hle := flat_lt clB [] hlt
    have hgc : xss.getD k [] ∈ xss := by rw [List.getD_eq_getElem?_getD, List.getElem?_eq_getElem hlt]; exact List.getElem_mem hlt
    have hcF := hF _ hgc
    have hcl := hC _ hgc
    have hs1 : decide ((k : Int) < (xss.length : Int)) = true := decide_eq_true (by omega)
    have hPl : (headB V xss.length).length + (xss.flatMap clB).length ≤ 1000000 := by unfold prB at hP; rw [List.length_append] at hP; exact hP
    generalize hc : xss.getD k [] = c at *
    have hs2 : iInts (xss.getD k []) = .sl (fun j => .lit (.int .i64 (c.getD j 0))) c.length 1 := by rw [hc]; rfl
    have hcb : clB c = c.flatMap litB ++ [48, 10] := rfl
    rw [hcb, List.length_append] at hle
    have hln : ([48, 10] : List UInt8).length = 2 := rfl
    have hI2 : k + 1 ≤ xss.length := by omega
    have h01 : headB V xss.length ++ (xss.take k).flatMap clB = headB V xss.length ++ (xss.take k).flatMap clB ++ (c.take 0).flatMap litB := by simp
    have hL0l : (headB V xss.length ++ (xss.take k).flatMap clB).length + ((c.flatMap litB).length + 2) ≤ 1000000 := by rw [List.length_append]; omega
    have hN1 : headB V xss.length ++ (xss.take (k + 1)).flatMap clB = (headB V xss.length ++ (xss.take k).flatMap clB ++ c.flatMap litB) ++ [48, 10] := by rw [hst, hcb]; simp only [List.append_assoc]
    generalize hL0 : headB V xss.length ++ (xss.take k).flatMap clB = L0 at *
    (refine Wk.o ?_; (repeat revert hK K); refine W4251b ?_; (repeat intro K hK); refine ⟨?_⟩)
    rw [h01]
    (refine AWH (σ := Nat) [36, 37, 38, 10, 39, 40, 41, 42, 43] (fun j => [(35, lint j)]) (fun j => [some ⟨25, [lint V, .iv (.sl (fun j => iInts (xss.getD j [])) xss.length 1)]⟩, some ⟨bT, [.xptr 1 2, .osl 2 0 (L0 ++ (c.take j).flatMap litB).length 1]⟩, some ⟨5, u8C (L0 ++ (c.take j).flatMap litB)⟩]) (fun j => []) (fun j => j ≤ c.length) (fun j => c.length - j) 0 (by first | exact Nat.zero_le _) ?_; rintro j d fr hfr hj; simp only [updS, deadS, List.set_cons_succ, List.set_cons_zero, lint] at hfr; subst hfr; (try dsimp only))
    by_cases hj2 : j < c.length
    · have hs3 : decide ((j : Int) < (c.length : Int)) = true := decide_eq_true (by omega)
      have hjs := flat_step litB 0 hj2
      have hjl := flat_lt litB 0 hj2
      have hx : Fit (c.getD j 0) := hcF _ (by rw [List.getD_eq_getElem?_getD, List.getElem?_eq_getElem hj2]; exact List.getElem_mem hj2)
      generalize hxe : c.getD j 0 = x at *
      have hs4 := hxe
      have hD := pf_Digits x hx.1 hx.2
      have hxb : litB x = itoa x ++ [32] := rfl
      rw [hxb, List.length_append] at hjl
      have hl1 : ([32] : List UInt8).length = 1 := rfl
      have hLj : (L0 ++ (c.take j).flatMap litB).length + ((itoa x).length + 1) ≤ 1000000 := by rw [List.length_append]; omega
      have hNx : L0 ++ (c.take (j + 1)).flatMap litB = ((L0 ++ (c.take j).flatMap litB) ++ itoa x) ++ [32] := by rw [hjs, hxb]; simp only [List.append_assoc]
      have hI3 : j + 1 ≤ c.length := by omega
      generalize hL : L0 ++ (c.take j).flatMap litB = L at *
      (refine Wk.o ?_; (repeat revert hK K); refine W4251b ?_; (repeat intro K hK); refine ⟨?_⟩)
      refine XRes_fn (by rfl) (sf_bws (o := 1) (q := 2) (l := L) (by rfl) (.inr rfl) (by rfl) (by decide) (by omega) (itoa x) (by omega)) ?_
      rintro r H1 ⟨rfl, rfl⟩
      (simp only [putL, List.set_cons_succ, List.set_cons_zero])
      (refine Wk.o ?_; (repeat revert hK K); refine W4251b ?_; (repeat intro K hK); refine ⟨?_⟩)
      refine XRes_fn (by rfl) (sf_bwb (o := 1) (q := 3) (l := L ++ itoa x) (by first | rfl | (rw [List.length_append]; rfl)) (.inr rfl) (by rfl) (by decide) (by rw [List.length_append]; omega) 32) ?_
      rintro r H1 ⟨rfl, rfl⟩
      (simp only [putL, List.set_cons_succ, List.set_cons_zero])
      (refine Wk.o ?_; (repeat revert hK K); refine W4251b ?_; (repeat intro K hK); refine ⟨?_⟩)
      have hs8 := hNx
      exact whx_ren [0, 1, 5] (j + 1) hI3 (by (first | omega | (dsimp only; omega) | (simp only; omega))) rfl (by decide) (by decide) (by (simp (disch := omega) only [go_sem, lint , hs1, hs2, hs3, hs4, hs5, hs6, hs7, hs8, hs9, Int.toNat_natCast, ba_size, u8C_len, List.length_append, List.length_set, List.length_nil, List.length_cons, Nat.reduceAdd])) (by (simp (disch := omega) only [go_sem, lint , hs1, hs2, hs3, hs4, hs5, hs6, hs7, hs8, hs9, Int.toNat_natCast, ba_size, u8C_len, List.length_append, List.length_set, List.length_nil, List.length_cons, Nat.reduceAdd])) (by (simp (disch := omega) only [go_sem, lint , hs1, hs2, hs3, hs4, hs5, hs6, hs7, hs8, hs9, Int.toNat_natCast, ba_size, u8C_len, List.length_append, List.length_set, List.length_nil, List.length_cons, Nat.reduceAdd])) (fun d => by first | ((simp (disch := omega) only [go_sem, lint , hs1, hs2, hs3, hs4, hs5, hs6, hs7, hs8, hs9, Int.toNat_natCast, ba_size, u8C_len, List.length_append, List.length_set, List.length_nil, List.length_cons, Nat.reduceAdd]); done) | ((simp (disch := omega) only [go_sem, lint , hs1, hs2, hs3, hs4, hs5, hs6, hs7, hs8, hs9, Int.toNat_natCast, ba_size, u8C_len, List.length_append, List.length_set, List.length_nil, List.length_cons, Nat.reduceAdd]); rfl))
    · obtain rfl : j = c.length := by omega
      have hs3 : decide ((c.length : Int) < (c.length : Int)) = false := decide_eq_false (by omega)
      rw [List.take_length]
      have hLl : (L0 ++ c.flatMap litB).length + 2 ≤ 1000000 := by rw [List.length_append]; omega
      generalize hL : L0 ++ c.flatMap litB = L at *
      (refine Wk.o ?_; (repeat revert hK K); refine W4251b ?_; (repeat intro K hK); refine ⟨?_⟩)
      refine XRes_fn (by rfl) (sf_bws (o := 1) (q := 2) (l := L) (by rfl) (.inr rfl) (by rfl) (by decide) (by omega) [48, 10] (by decide)) ?_
      rintro r H1 ⟨rfl, rfl⟩
      (simp only [putL, List.set_cons_succ, List.set_cons_zero])
      (refine Wk.o ?_; (repeat revert hK K); refine W4251b ?_; (repeat intro K hK); refine ⟨?_⟩)
      refine XRes_fn (by rfl) (sf_blen (o := 1) (by rfl)) ?_
      rintro r H1 ⟨rfl, rfl⟩
      (simp only [putL, List.set_cons_succ, List.set_cons_zero])
      have hs4 : decide ((1000000 : Int) < ((L.length + ([48, 10] : List UInt8).length : Nat) : Int)) = false := decide_eq_false (by rw [hln]; omega)
      (refine Wk.o ?_; (repeat revert hK K); refine W4251b ?_; (repeat intro K hK); refine ⟨?_⟩)
      have hs8 := hN1
      exact whx_ren [0, 1, 3] (k + 1) hI2 (by (first | omega | (dsimp only; omega) | (simp only; omega))) rfl (by decide) (by decide) (by (simp (disch := omega) only [go_sem, lint , hs1, hs2, hs3, hs4, hs5, hs6, hs7, hs8, hs9, Int.toNat_natCast, ba_size, u8C_len, List.length_append, List.length_set, List.length_nil, List.length_cons, Nat.reduceAdd])) (by (simp (disch := omega) only [go_sem, lint , hs1, hs2, hs3, hs4, hs5, hs6, hs7, hs8, hs9, Int.toNat_natCast, ba_size, u8C_len, List.length_append, List.length_set, List.length_nil, List.length_cons, Nat.reduceAdd])) (by (simp (disch := omega) only [go_sem, lint , hs1, hs2, hs3, hs4, hs5, hs6, hs7, hs8, hs9, Int.toNat_natCast, ba_size, u8C_len, List.length_append, List.length_set, List.length_nil, List.length_cons, Nat.reduceAdd])) (fun d => by first | ((simp (disch := omega) only [go_sem, lint , hs1, hs2, hs3, hs4, hs5, hs6, hs7, hs8, hs9, Int.toNat_natCast, ba_size, u8C_len, List.length_append, List.length_set, List.length_nil, List.length_cons, Nat.reduceAdd]); done) | ((simp (disch := omega) only [go_sem, lint , hs1, hs2, hs3, hs4, hs5, hs6, hs7, hs8, hs9, Int.toNat_natCast, ba_size, u8C_len, List.length_append, List.length_set, List.length_nil, List.length_cons, Nat.reduceAdd]); rfl))
  · obtain rfl : k = xss.length := by omega
    have hs1 : decide ((xss.length : Int) < (xss.length : Int)) = false := decide_eq_false (by omega)
    have hall : headB V xss.length ++ (xss.take xss.length).flatMap clB = prB V xss := by rw [List.take_length]; rfl
    rw [hall]
    (refine Wk.o ?_; (repeat revert hK K); refine W4251b ?_; (repeat intro K hK); refine ⟨?_⟩)
    refine XRes_fn (by rfl) (sf_bstr (o := 1) (q := 2) (l := prB V xss) (by rfl) (by rfl) (by unfold prB headB; simp) (by omega)) ?_
    rintro r H1 ⟨rfl, rfl⟩
    (simp only [putL, List.set_cons_succ, List.set_cons_zero])
    (refine Wk.o ?_; (repeat revert hK K); refine W4251b ?_; (repeat intro K hK); refine ⟨?_⟩)
    (simp only [bodyX]; refine ⟨_, by simp only [aresults, aresult, XS.as, Tryd.results12, aload, go_sem, Option.bind_some]; rfl, ?_⟩)
    exact ⟨ids_idB rfl, rfl, trivial⟩
end Go.Proofs.YthgmjboldboclaaDoor
