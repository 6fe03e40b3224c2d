import Derived.Test.YtdaenbgjafalcaaDoorMgBF
import Derived.Test.YtdaenbgjafalcaaDoorMgBB
import Derived.Test.YtdaenbgjafalcaaDoorMgAS
import Derived.Test.YtdaenbgjafalcaaDoorMgBC
import Derived.Test.YtdaenbgjafalcaaDoorMgBE
namespace Go.Proofs.YtdaenbgjafalcaaDoor
open Go.RowKit Go.Lib
set_option linter.unusedVariables false
set_option linter.unusedSimpArgs false
theorem wr_step (x d : Int) : IntKind.i64.wrap (IntKind.i64.wrap (10 * IntKind.i64.wrap x) + d) = IntKind.i64.wrap (10 * x + d) := by
  simp only [IntKind.wrap_i64]; omega
theorem drop_getD (l : List UInt8) (f k : Nat) : (l.drop f).getD k 0 = l.getD (f + k) 0 := by simp [List.getD]
theorem take_snocU {m : List UInt8} {k : Nat} (h : k < m.length) : m.take (k + 1) = m.take k ++ [m.getD k 0] := by
  rw [List.take_succ_eq_append_getElem h]; simp [List.getD, h]
def nk (f : Nat) (m : List UInt8) (k : Nat) : Int := if f = 1 then -(dv 0 (m.take k) : Int) else dv 0 (m.take k)
theorem nk_step {f : Nat} {m : List UInt8} {k : Nat} (h : k < m.length) (hd : m.all isDg = true) : nk f m (k + 1) = 10 * nk f m k + (if f = 1 then -(((m.getD k 0).toNat : Int) - 48) else ((m.getD k 0).toNat : Int) - 48) := by
  have hc : 48 ≤ (m.getD k 0).toNat := by
    rw [List.all_eq_true] at hd
    have := hd m[k] (List.getElem_mem h)
    rw [show m.getD k 0 = m[k] by simp [List.getD, h]]
    exact (of_decide_eq_true this).1
  unfold nk
  rw [take_snocU h, dv_snoc]
  split <;> omega
theorem W207aa {A B : Prop} (h9 : B) (w : B → A := by (intro h9; (repeat intro K hK); refine ⟨?_⟩; (repeat (first | (first | (with_reducible first | refine AX_block ?_ | refine AX_skip ?_ | refine AX_exit ?_ | refine AX_ret ?_ | refine AX_ift ?_ | refine AX_iff ?_ | refine AX_seq_k (fun K hK => ?_) | refine ContX.use (by assumption) ?_) | simp only [thenX, inBlockX, if_true, if_false, reduceCtorEq]) | (first | ((with_reducible refine XOP tyOK ?_); simp (disch := omega) only [go_sem , hs1, hs2, hs3, hs4, hs5, ba_toList, ba_size, byteAt_ba, Int.toNat_zero, Int.toNat_one, Int.toNat_natCast]; (with_reducible refine XRes_id ?_)) | (with_reducible refine XSK ?_)) | ((with_reducible refine XRes_nil ?_); refine hK _ ?_; clear hK K) | ((with_reducible refine AX_reg0 fun K hK => ?_); simp only [go_sem]) | (first | (first | refine XTL (by rfl) hC ?_)))); refine Wk.o ?_; (repeat revert hK K); exact h9)) : A := w h9
set_option maxRecDepth 100000 in
set_option maxHeartbeats 8000000 in
theorem pf_rNumber (l : List UInt8) (lo hi : Int) (hl : l.length ≤ 1000000) : PF Tryd.prog 65 [lt (.string (ba l)), lt (.int .i64 lo), lt (.int .i64 hi)] fun r H' => r = .tup [lt (.int .i64 (numR l lo hi).1), lt (.int .i64 (numR l lo hi).2)] ∧ H' = [] := by
  refine SF.forgetAll ?_
  have hs1 := trivial; have hs2 := trivial; have hs3 := trivial; have hs4 := trivial; have hs5 := trivial; have hC := trivial
  obtain ⟨e1, e2, e3⟩ := frm_mag l
  have hN := frm_num l
  have hgd : ∀ k, (magOf l).getD k 0 = l.getD (frm l + k) 0 := fun k => by rw [e1, drop_getD]
  have hml : (magOf l).length = l.length - frm l := by rw [e1, List.length_drop]
  have hfn : numOk l = false → numR l lo hi = (0, 5) := fun h => by unfold numR; rw [if_pos h]
  by_cases hl0 : l.length = 0
  · have hnil : l = [] := List.length_eq_zero_iff.1 hl0
    rw [hfn (by rw [hnil]; rfl)]
    (refine SF_of_bodyX (aload tt) (aload_ok tyOK) Tryd.func65 rfl (by kernel_rfl) ?_; simp only [Tryd.ntmps65, List.length_cons, List.length_nil, Nat.reduceAdd, Nat.reduceSub, List.replicate_succ, List.replicate_zero, List.cons_append, List.nil_append])
    (refine Wk.o ?_; (repeat revert hK K); refine W207aa ?_; (repeat intro K hK); refine ⟨?_⟩)
    (simp only [bodyX]; refine ⟨_, by simp only [aresults, aresult, XS.as, Tryd.results65, aload, go_sem, Option.bind_some]; rfl, ?_⟩)
    exact ⟨ids_idB rfl, rfl, trivial⟩
  · by_cases h45 : (l.getD 0 0).toNat = 45
    · have hf1 : frm l = 1 := by
        cases l with
        | nil => exact absurd rfl hl0
        | cons c r =>
          have hc : c = 45 := UInt8.toNat_inj.1 (by rw [show c.toNat = 45 from h45]; rfl)
          rw [hc]; rfl
      rw [hf1] at hgd hml e1 hN
      by_cases hl1 : l.length = 1
      · have hm0 : magOf l = [] := List.length_eq_zero_iff.1 (by omega)
        have hno : numOk l = false := by unfold numOk; rw [hm0]; rfl
        (refine SF_of_bodyX (aload tt) (aload_ok tyOK) Tryd.func65 rfl (by kernel_rfl) ?_; simp only [Tryd.ntmps65, List.length_cons, List.length_nil, Nat.reduceAdd, Nat.reduceSub, List.replicate_succ, List.replicate_zero, List.cons_append, List.nil_append])
        (refine Wk.o ?_; (repeat revert hK K); refine W207aa ?_; (repeat intro K hK); refine ⟨?_⟩)
        (simp only [bodyX]; refine ⟨_, by simp only [aresults, aresult, XS.as, Tryd.results65, aload, go_sem, Option.bind_some]; rfl, ?_⟩)
        exact ⟨ids_idB rfl, by rw [hfn hno], trivial⟩
      · have hm0 : magOf l ≠ [] := fun e => by rw [e] at hml; simp at hml; omega
        have hg0 : (magOf l).getD 0 0 = l.getD 1 0 := hgd 0
        by_cases h48 : (l.getD 1 0).toNat = 48
        · have h48' : (magOf l).getD 0 0 = 48 := by rw [hg0]; exact UInt8.toNat_inj.1 (by rw [h48]; rfl)
          have hno := form_no h48' (by omega)
          (refine SF_of_bodyX (aload tt) (aload_ok tyOK) Tryd.func65 rfl (by kernel_rfl) ?_; simp only [Tryd.ntmps65, List.length_cons, List.length_nil, Nat.reduceAdd, Nat.reduceSub, List.replicate_succ, List.replicate_zero, List.cons_append, List.nil_append])
          (refine Wk.o ?_; (repeat revert hK K); refine W207aa ?_; (repeat intro K hK); refine ⟨?_⟩)
          (simp only [bodyX]; refine ⟨_, by simp only [aresults, aresult, XS.as, Tryd.results65, aload, go_sem, Option.bind_some]; rfl, ?_⟩)
          exact ⟨ids_idB rfl, by rw [hfn hno], trivial⟩
        · obtain ⟨hok, hnz⟩ := form_yes hm0 (fun h => h48 (by rw [hg0] at h; rw [h.1]; rfl))
          (refine SF_of_bodyX (aload tt) (aload_ok tyOK) Tryd.func65 rfl (by kernel_rfl) ?_; simp only [Tryd.ntmps65, List.length_cons, List.length_nil, Nat.reduceAdd, Nat.reduceSub, List.replicate_succ, List.replicate_zero, List.cons_append, List.nil_append])
          (refine Wk.o ?_; (repeat revert hK K); refine W207aa ?_; (repeat intro K hK); refine ⟨?_⟩)
          (refine AWH (σ := Nat) [37, 38, 39, 40, 43, 44, 45, 46, 47, 48, 49, 50, 51, 52, 6, 7, 41, 42] (fun k => [(9, lint k)]) (fun k => []) (fun k => []) (fun k => 1 ≤ k ∧ k ≤ l.length ∧ ((magOf l).take (k - 1)).all isDg = true) (fun k => l.length - k) 1 (by first | exact ⟨Nat.le_refl _, by omega, rfl⟩) ?_; rintro k d fr hfr ⟨hk0, hk, hj⟩; simp only [updS, deadS, List.set_cons_succ, List.set_cons_zero, lint] at hfr; subst hfr; (try dsimp only))
          by_cases hlt : k < l.length
          · have hkk : (magOf l).getD (k - 1) 0 = l.getD k 0 := by rw [hgd, show 1 + (k - 1) = k by omega]
            have hkl : k - 1 < (magOf l).length := by omega
            by_cases h6 : (l.getD k 0).toNat < 48
            · (refine Wk.o ?_; (repeat revert hK K); refine W207aa ?_; (repeat intro K hK); refine ⟨?_⟩)
              (simp only [bodyX]; refine ⟨_, by simp only [aresults, aresult, XS.as, Tryd.results65, aload, go_sem, Option.bind_some]; rfl, ?_⟩)
              exact ⟨ids_idB rfl, by rw [hfn (by rw [hok]; exact dg_no hkl (by rw [hkk]; omega))], trivial⟩
            · by_cases h7 : 57 < (l.getD k 0).toNat
              · (refine Wk.o ?_; (repeat revert hK K); refine W207aa ?_; (repeat intro K hK); refine ⟨?_⟩)
                (simp only [bodyX]; refine ⟨_, by simp only [aresults, aresult, XS.as, Tryd.results65, aload, go_sem, Option.bind_some]; rfl, ?_⟩)
                exact ⟨ids_idB rfl, by rw [hfn (by rw [hok]; exact dg_no hkl (by rw [hkk]; omega))], trivial⟩
              · have hI2 : 1 ≤ k + 1 ∧ k + 1 ≤ l.length ∧ ((magOf l).take (k + 1 - 1)).all isDg = true := ⟨by omega, by omega, by rw [show k + 1 - 1 = k - 1 + 1 by omega]; exact dg_take hkl hj (by rw [hkk]; omega) (by rw [hkk]; omega)⟩
                (refine Wk.o ?_; (repeat revert hK K); refine W207aa ?_; (repeat intro K hK); refine ⟨?_⟩)
                exact WEND (k + 1) hI2 (by (first | omega | (dsimp only; omega) | (simp only; omega)))
          · have hkm : k - 1 = (magOf l).length := by omega
            have hall : (magOf l).all isDg = true := by rw [hkm, List.take_length] at hj; exact hj
            have hok2 : numOk l = true := by rw [hok, hall]
            have hR : numR l lo hi = if -9223372036854775808 ≤ numV l ∧ numV l ≤ 9223372036854775807 ∧ lo ≤ numV l ∧ numV l ≤ hi then (numV l, 0) else (0, 7) := by unfold numR; rw [if_neg (by rw [hok2]; decide)]
            by_cases hb : 19 < l.length - 1
            · have hbig := dv_big hall hnz (by omega)
              have hR2 : numR l lo hi = (0, 7) := by rw [hR, if_neg]; intro h; rw [hN] at h; split at h <;> omega
              (refine Wk.o ?_; (repeat revert hK K); refine W207aa ?_; (repeat intro K hK); refine ⟨?_⟩)
              (simp only [bodyX]; refine ⟨_, by simp only [aresults, aresult, XS.as, Tryd.results65, aload, go_sem, Option.bind_some]; rfl, ?_⟩)
              exact ⟨ids_idB rfl, by rw [hR2], trivial⟩
            · (refine Wk.o ?_; (repeat revert hK K); refine W207aa ?_; (repeat intro K hK); refine ⟨?_⟩)
              (refine AWH (σ := Nat) [59, 60, 61, 62, 65, 66, 67, 68, 69, 12, 70, 71, 72, 73, 74, 75, 76, 77, 63, 64] (fun k => [(11, lint k), (10, .iv (.lit (.int .i64 (IntKind.i64.wrap (nk 1 (magOf l) (k - 1))))))]) (fun k => []) (fun k => []) (fun k => 1 ≤ k ∧ k ≤ l.length) (fun k => l.length - k) 1 (by first | exact ⟨Nat.le_refl _, by omega⟩) ?_; rintro k d fr hfr ⟨hk0, hk⟩; simp only [updS, deadS, List.set_cons_succ, List.set_cons_zero, lint] at hfr; subst hfr; (try dsimp only))
              by_cases hlt : k < l.length
              · have hkk : (magOf l).getD (k - 1) 0 = l.getD k 0 := by rw [hgd, show 1 + (k - 1) = k by omega]
                have hst := nk_step (f := 1) (show k - 1 < (magOf l).length by omega) hall
                rw [show k - 1 + 1 = k + 1 - 1 by omega] at hst
                rw [hkk, if_pos rfl] at hst
                have hcb : (l.getD k 0).toNat < 256 := UInt8.toNat_lt _
                have hs1 := wr_step (nk 1 (magOf l) (k - 1)) (-(((l.getD k 0).toNat : Int) - 48))
                rw [← hst] at hs1
                have hs2 : IntKind.i64.wrap ((l.getD k 0).toNat : Int) = ((l.getD k 0).toNat : Int) := by rw [IntKind.wrap_i64]; omega
                have hs3 : IntKind.i64.wrap (((l.getD k 0).toNat : Int) - 48) = ((l.getD k 0).toNat : Int) - 48 := by rw [IntKind.wrap_i64]; omega
                have hs4 : IntKind.i64.wrap (-(((l.getD k 0).toNat : Int) - 48)) = -(((l.getD k 0).toNat : Int) - 48) := by rw [IntKind.wrap_i64]; omega
                have hI2 : 1 ≤ k + 1 ∧ k + 1 ≤ l.length := ⟨by omega, by omega⟩
                (refine Wk.o ?_; (repeat revert hK K); refine W207aa ?_; (repeat intro K hK); refine ⟨?_⟩)
                exact whx_end (k + 1) hI2 (by (first | omega | (dsimp only; omega) | (simp only; omega))) rfl rfl (fun d => by first | ((simp (disch := omega) only [go_sem, lint , hs1, hs2, hs3, hs4, hs5, ba_toList, ba_size, byteAt_ba, Int.toNat_zero, Int.toNat_one, Int.toNat_natCast]); done) | ((simp (disch := omega) only [go_sem, lint , hs1, hs2, hs3, hs4, hs5, ba_toList, ba_size, byteAt_ba, Int.toNat_zero, Int.toNat_one, Int.toNat_natCast]); rfl))
              · have hkm : k - 1 = (magOf l).length := by omega
                have hnk : nk 1 (magOf l) (k - 1) = numV l := by
                  rw [hN, if_pos rfl]
                  unfold nk
                  rw [if_pos rfl, hkm, List.take_length]
                obtain ⟨x, hxe⟩ : ∃ x, x = IntKind.i64.wrap (nk 1 (magOf l) (k - 1)) := ⟨_, rfl⟩
                have hxb : -9223372036854775808 ≤ x ∧ x ≤ 9223372036854775807 := by rw [hxe, IntKind.wrap_i64]; omega
                have hxi : (-9223372036854775808 ≤ numV l ∧ numV l ≤ 9223372036854775807) ↔ x = numV l := by
                  rw [hxe, hnk, IntKind.wrap_i64]; omega
                rw [← hxe]
                have hC := pf_rDigits x hxb.1 hxb.2
                by_cases hin : x = numV l
                · have hr := hxi.2 hin
                  have hs1 : (itoa x == l) = true := by rw [hin, num_itoa hok2]; simp
                  by_cases h8 : x < lo
                  · have hR2 : numR l lo hi = (0, 7) := by rw [hR, if_neg]; intro h; omega
                    (refine Wk.o ?_; (repeat revert hK K); refine W207aa ?_; (repeat intro K hK); refine ⟨?_⟩)
                    (simp only [bodyX]; refine ⟨_, by simp only [aresults, aresult, XS.as, Tryd.results65, aload, go_sem, Option.bind_some]; rfl, ?_⟩)
                    exact ⟨ids_idB rfl, by rw [hR2], trivial⟩
                  · by_cases h9 : hi < x
                    · have hR2 : numR l lo hi = (0, 7) := by rw [hR, if_neg]; intro h; omega
                      (refine Wk.o ?_; (repeat revert hK K); refine W207aa ?_; (repeat intro K hK); refine ⟨?_⟩)
                      (simp only [bodyX]; refine ⟨_, by simp only [aresults, aresult, XS.as, Tryd.results65, aload, go_sem, Option.bind_some]; rfl, ?_⟩)
                      exact ⟨ids_idB rfl, by rw [hR2], trivial⟩
                    · have hR2 : numR l lo hi = (x, 0) := by rw [hR, if_pos (by omega), hin]
                      (refine Wk.o ?_; (repeat revert hK K); refine W207aa ?_; (repeat intro K hK); refine ⟨?_⟩)
                      (simp only [bodyX]; refine ⟨_, by simp only [aresults, aresult, XS.as, Tryd.results65, aload, go_sem, Option.bind_some]; rfl, ?_⟩)
                      exact ⟨ids_idB rfl, by rw [hR2], trivial⟩
                · have hs1 : (itoa x == l) = false := by simpa using itoa_ne hin
                  have hR2 : numR l lo hi = (0, 7) := by rw [hR, if_neg]; intro h; exact hin (hxi.1 ⟨h.1, h.2.1⟩)
                  (refine Wk.o ?_; (repeat revert hK K); refine W207aa ?_; (repeat intro K hK); refine ⟨?_⟩)
                  (simp only [bodyX]; refine ⟨_, by simp only [aresults, aresult, XS.as, Tryd.results65, aload, go_sem, Option.bind_some]; rfl, ?_⟩)
                  exact ⟨ids_idB rfl, by rw [hR2], trivial⟩
    · have hf0 : frm l = 0 := by
        cases l with
        | nil => exact absurd rfl hl0
        | cons c r => exact frm_plain fun e => h45 (by rw [e]; rfl)
      rw [hf0] at hgd hml e1 hN
      have hm0 : magOf l ≠ [] := fun e => by rw [e] at hml; simp at hml; omega
      have hg0 := hgd 0
      by_cases h48 : (l.getD 0 0).toNat = 48
      · have h48' : (magOf l).getD 0 0 = 48 := by rw [hg0]; exact UInt8.toNat_inj.1 (by rw [h48]; rfl)
        by_cases h1 : 1 < l.length
        · rw [hfn (form_no h48' h1)]
          (refine SF_of_bodyX (aload tt) (aload_ok tyOK) Tryd.func65 rfl (by kernel_rfl) ?_; simp only [Tryd.ntmps65, List.length_cons, List.length_nil, Nat.reduceAdd, Nat.reduceSub, List.replicate_succ, List.replicate_zero, List.cons_append, List.nil_append])
          (refine Wk.o ?_; (repeat revert hK K); refine W207aa ?_; (repeat intro K hK); refine ⟨?_⟩)
          (simp only [bodyX]; refine ⟨_, by simp only [aresults, aresult, XS.as, Tryd.results65, aload, go_sem, Option.bind_some]; rfl, ?_⟩)
          exact ⟨ids_idB rfl, rfl, trivial⟩
        · obtain ⟨hok, hnz⟩ := form_yes hm0 (fun h => h1 h.2)
          (refine SF_of_bodyX (aload tt) (aload_ok tyOK) Tryd.func65 rfl (by kernel_rfl) ?_; simp only [Tryd.ntmps65, List.length_cons, List.length_nil, Nat.reduceAdd, Nat.reduceSub, List.replicate_succ, List.replicate_zero, List.cons_append, List.nil_append])
          (refine Wk.o ?_; (repeat revert hK K); refine W207aa ?_; (repeat intro K hK); refine ⟨?_⟩)
          (refine AWH (σ := Nat) [37, 38, 39, 40, 43, 44, 45, 46, 47, 48, 49, 50, 51, 52, 6, 7, 41, 42] (fun k => [(9, lint k)]) (fun k => []) (fun k => []) (fun k => 0 ≤ k ∧ k ≤ l.length ∧ ((magOf l).take (k - 0)).all isDg = true) (fun k => l.length - k) 0 (by first | exact ⟨Nat.le_refl _, by omega, rfl⟩) ?_; rintro k d fr hfr ⟨hk0, hk, hj⟩; simp only [updS, deadS, List.set_cons_succ, List.set_cons_zero, lint] at hfr; subst hfr; (try dsimp only))
          by_cases hlt : k < l.length
          · have hkk : (magOf l).getD (k - 0) 0 = l.getD k 0 := by rw [hgd, show 0 + (k - 0) = k by omega]
            have hkl : k - 0 < (magOf l).length := by omega
            by_cases h6 : (l.getD k 0).toNat < 48
            · (refine Wk.o ?_; (repeat revert hK K); refine W207aa ?_; (repeat intro K hK); refine ⟨?_⟩)
              (simp only [bodyX]; refine ⟨_, by simp only [aresults, aresult, XS.as, Tryd.results65, aload, go_sem, Option.bind_some]; rfl, ?_⟩)
              exact ⟨ids_idB rfl, by rw [hfn (by rw [hok]; exact dg_no hkl (by rw [hkk]; omega))], trivial⟩
            · by_cases h7 : 57 < (l.getD k 0).toNat
              · (refine Wk.o ?_; (repeat revert hK K); refine W207aa ?_; (repeat intro K hK); refine ⟨?_⟩)
                (simp only [bodyX]; refine ⟨_, by simp only [aresults, aresult, XS.as, Tryd.results65, aload, go_sem, Option.bind_some]; rfl, ?_⟩)
                exact ⟨ids_idB rfl, by rw [hfn (by rw [hok]; exact dg_no hkl (by rw [hkk]; omega))], trivial⟩
              · have hI2 : 0 ≤ k + 1 ∧ k + 1 ≤ l.length ∧ ((magOf l).take (k + 1 - 0)).all isDg = true := ⟨by omega, by omega, by rw [show k + 1 - 0 = k - 0 + 1 by omega]; exact dg_take hkl hj (by rw [hkk]; omega) (by rw [hkk]; omega)⟩
                (refine Wk.o ?_; (repeat revert hK K); refine W207aa ?_; (repeat intro K hK); refine ⟨?_⟩)
                exact WEND (k + 1) hI2 (by (first | omega | (dsimp only; omega) | (simp only; omega)))
          · obtain rfl : k = l.length := by omega
            have hall : (magOf l).all isDg = true := by rw [List.take_of_length_le (by omega)] at hj; exact hj
            have hok2 : numOk l = true := by rw [hok, hall]
            have hR : numR l lo hi = if -9223372036854775808 ≤ numV l ∧ numV l ≤ 9223372036854775807 ∧ lo ≤ numV l ∧ numV l ≤ hi then (numV l, 0) else (0, 7) := by unfold numR; rw [if_neg (by rw [hok2]; decide)]
            by_cases hb : 19 < l.length - 0
            · first
              | (exfalso; omega)
              | (have hbig := dv_big hall hnz (by omega)
                 have hR2 : numR l lo hi = (0, 7) := by rw [hR, if_neg]; intro h; rw [hN] at h; split at h <;> omega
                 (refine Wk.o ?_; (repeat revert hK K); refine W207aa ?_; (repeat intro K hK); refine ⟨?_⟩)
                 (simp only [bodyX]; refine ⟨_, by simp only [aresults, aresult, XS.as, Tryd.results65, aload, go_sem, Option.bind_some]; rfl, ?_⟩)
                 exact ⟨ids_idB rfl, by rw [hR2], trivial⟩)
            · (refine Wk.o ?_; (repeat revert hK K); refine W207aa ?_; (repeat intro K hK); refine ⟨?_⟩)
              (refine AWH (σ := Nat) [59, 60, 61, 62, 65, 66, 67, 68, 69, 12, 70, 71, 72, 73, 74, 75, 76, 77, 63, 64] (fun k => [(11, lint k), (10, .iv (.lit (.int .i64 (IntKind.i64.wrap (nk 0 (magOf l) k)))))]) (fun k => []) (fun k => []) (fun k => k ≤ l.length) (fun k => l.length - k) 0 (by first | exact Nat.zero_le _) ?_; rintro k d fr hfr hk; simp only [updS, deadS, List.set_cons_succ, List.set_cons_zero, lint] at hfr; subst hfr; (try dsimp only))
              by_cases hlt : k < l.length
              · have hkk : (magOf l).getD k 0 = l.getD k 0 := by rw [hgd, Nat.zero_add]
                have hst := nk_step (f := 0) (show k < (magOf l).length by omega) hall
                rw [hkk, if_neg (by omega)] at hst
                have hcb : (l.getD k 0).toNat < 256 := UInt8.toNat_lt _
                have hs1 := wr_step (nk 0 (magOf l) k) (((l.getD k 0).toNat : Int) - 48)
                rw [← hst] at hs1
                have hs2 : IntKind.i64.wrap ((l.getD k 0).toNat : Int) = ((l.getD k 0).toNat : Int) := by rw [IntKind.wrap_i64]; omega
                have hs3 : IntKind.i64.wrap (((l.getD k 0).toNat : Int) - 48) = ((l.getD k 0).toNat : Int) - 48 := by rw [IntKind.wrap_i64]; omega
                have hI2 : k + 1 ≤ l.length := by omega
                (refine Wk.o ?_; (repeat revert hK K); refine W207aa ?_; (repeat intro K hK); refine ⟨?_⟩)
                exact whx_end (k + 1) hI2 (by (first | omega | (dsimp only; omega) | (simp only; omega))) rfl rfl (fun d => by first | ((simp (disch := omega) only [go_sem, lint , hs1, hs2, hs3, hs4, hs5, ba_toList, ba_size, byteAt_ba, Int.toNat_zero, Int.toNat_one, Int.toNat_natCast]); done) | ((simp (disch := omega) only [go_sem, lint , hs1, hs2, hs3, hs4, hs5, ba_toList, ba_size, byteAt_ba, Int.toNat_zero, Int.toNat_one, Int.toNat_natCast]); rfl))
              · obtain rfl : k = l.length := by omega
                have hnk : nk 0 (magOf l) l.length = numV l := by
                  rw [hN, if_neg (by omega)]
                  unfold nk
                  rw [if_neg (by omega), List.take_of_length_le (by omega)]
                obtain ⟨x, hxe⟩ : ∃ x, x = IntKind.i64.wrap (nk 0 (magOf l) l.length) := ⟨_, rfl⟩
                have hxb : -9223372036854775808 ≤ x ∧ x ≤ 9223372036854775807 := by rw [hxe, IntKind.wrap_i64]; omega
                have hxi : (-9223372036854775808 ≤ numV l ∧ numV l ≤ 9223372036854775807) ↔ x = numV l := by
                  rw [hxe, hnk, IntKind.wrap_i64]; omega
                rw [← hxe]
                have hC := pf_rDigits x hxb.1 hxb.2
                by_cases hin : x = numV l
                · have hr := hxi.2 hin
                  have hs1 : (itoa x == l) = true := by rw [hin, num_itoa hok2]; simp
                  by_cases h8 : x < lo
                  · have hR2 : numR l lo hi = (0, 7) := by rw [hR, if_neg]; intro h; omega
                    (refine Wk.o ?_; (repeat revert hK K); refine W207aa ?_; (repeat intro K hK); refine ⟨?_⟩)
                    (simp only [bodyX]; refine ⟨_, by simp only [aresults, aresult, XS.as, Tryd.results65, aload, go_sem, Option.bind_some]; rfl, ?_⟩)
                    exact ⟨ids_idB rfl, by rw [hR2], trivial⟩
                  · by_cases h9 : hi < x
                    · have hR2 : numR l lo hi = (0, 7) := by rw [hR, if_neg]; intro h; omega
                      (refine Wk.o ?_; (repeat revert hK K); refine W207aa ?_; (repeat intro K hK); refine ⟨?_⟩)
                      (simp only [bodyX]; refine ⟨_, by simp only [aresults, aresult, XS.as, Tryd.results65, aload, go_sem, Option.bind_some]; rfl, ?_⟩)
                      exact ⟨ids_idB rfl, by rw [hR2], trivial⟩
                    · have hR2 : numR l lo hi = (x, 0) := by rw [hR, if_pos (by omega), hin]
                      (refine Wk.o ?_; (repeat revert hK K); refine W207aa ?_; (repeat intro K hK); refine ⟨?_⟩)
                      (simp only [bodyX]; refine ⟨_, by simp only [aresults, aresult, XS.as, Tryd.results65, aload, go_sem, Option.bind_some]; rfl, ?_⟩)
                      exact ⟨ids_idB rfl, by rw [hR2], trivial⟩
                · have hs1 : (itoa x == l) = false := by simpa using itoa_ne hin
                  have hR2 : numR l lo hi = (0, 7) := by rw [hR, if_neg]; intro h; exact hin (hxi.1 ⟨h.1, h.2.1⟩)
                  (refine Wk.o ?_; (repeat revert hK K); refine W207aa ?_; (repeat intro K hK); refine ⟨?_⟩)
                  (simp only [bodyX]; refine ⟨_, by simp only [aresults, aresult, XS.as, Tryd.results65, aload, go_sem, Option.bind_some]; rfl, ?_⟩)
                  exact ⟨ids_idB rfl, by rw [hR2], trivial⟩
      · obtain ⟨hok, hnz⟩ := form_yes hm0 (fun h => h48 (by rw [hg0] at h; rw [h.1]; rfl))
        (refine SF_of_bodyX (aload tt) (aload_ok tyOK) Tryd.func65 rfl (by kernel_rfl) ?_; simp only [Tryd.ntmps65, List.length_cons, List.length_nil, Nat.reduceAdd, Nat.reduceSub, List.replicate_succ, List.replicate_zero, List.cons_append, List.nil_append])
        (refine Wk.o ?_; (repeat revert hK K); refine W207aa ?_; (repeat intro K hK); refine ⟨?_⟩)
        (refine AWH (σ := Nat) [37, 38, 39, 40, 43, 44, 45, 46, 47, 48, 49, 50, 51, 52, 6, 7, 41, 42] (fun k => [(9, lint k)]) (fun k => []) (fun k => []) (fun k => 0 ≤ k ∧ k ≤ l.length ∧ ((magOf l).take (k - 0)).all isDg = true) (fun k => l.length - k) 0 (by first | exact ⟨Nat.le_refl _, by omega, rfl⟩) ?_; rintro k d fr hfr ⟨hk0, hk, hj⟩; simp only [updS, deadS, List.set_cons_succ, List.set_cons_zero, lint] at hfr; subst hfr; (try dsimp only))
        by_cases hlt : k < l.length
        · have hkk : (magOf l).getD (k - 0) 0 = l.getD k 0 := by rw [hgd, show 0 + (k - 0) = k by omega]
          have hkl : k - 0 < (magOf l).length := by omega
          by_cases h6 : (l.getD k 0).toNat < 48
          · (refine Wk.o ?_; (repeat revert hK K); refine W207aa ?_; (repeat intro K hK); refine ⟨?_⟩)
            (simp only [bodyX]; refine ⟨_, by simp only [aresults, aresult, XS.as, Tryd.results65, aload, go_sem, Option.bind_some]; rfl, ?_⟩)
            exact ⟨ids_idB rfl, by rw [hfn (by rw [hok]; exact dg_no hkl (by rw [hkk]; omega))], trivial⟩
          · by_cases h7 : 57 < (l.getD k 0).toNat
            · (refine Wk.o ?_; (repeat revert hK K); refine W207aa ?_; (repeat intro K hK); refine ⟨?_⟩)
              (simp only [bodyX]; refine ⟨_, by simp only [aresults, aresult, XS.as, Tryd.results65, aload, go_sem, Option.bind_some]; rfl, ?_⟩)
              exact ⟨ids_idB rfl, by rw [hfn (by rw [hok]; exact dg_no hkl (by rw [hkk]; omega))], trivial⟩
            · have hI2 : 0 ≤ k + 1 ∧ k + 1 ≤ l.length ∧ ((magOf l).take (k + 1 - 0)).all isDg = true := ⟨by omega, by omega, by rw [show k + 1 - 0 = k - 0 + 1 by omega]; exact dg_take hkl hj (by rw [hkk]; omega) (by rw [hkk]; omega)⟩
              (refine Wk.o ?_; (repeat revert hK K); refine W207aa ?_; (repeat intro K hK); refine ⟨?_⟩)
              exact WEND (k + 1) hI2 (by (first | omega | (dsimp only; omega) | (simp only; omega)))
        · obtain rfl : k = l.length := by omega
          have hall : (magOf l).all isDg = true := by rw [List.take_of_length_le (by omega)] at hj; exact hj
          have hok2 : numOk l = true := by rw [hok, hall]
          have hR : numR l lo hi = if -9223372036854775808 ≤ numV l ∧ numV l ≤ 9223372036854775807 ∧ lo ≤ numV l ∧ numV l ≤ hi then (numV l, 0) else (0, 7) := by unfold numR; rw [if_neg (by rw [hok2]; decide)]
          by_cases hb : 19 < l.length - 0
          · first
            | (exfalso; omega)
            | (have hbig := dv_big hall hnz (by omega)
               have hR2 : numR l lo hi = (0, 7) := by rw [hR, if_neg]; intro h; rw [hN] at h; split at h <;> omega
               (refine Wk.o ?_; (repeat revert hK K); refine W207aa ?_; (repeat intro K hK); refine ⟨?_⟩)
               (simp only [bodyX]; refine ⟨_, by simp only [aresults, aresult, XS.as, Tryd.results65, aload, go_sem, Option.bind_some]; rfl, ?_⟩)
               exact ⟨ids_idB rfl, by rw [hR2], trivial⟩)
          · (refine Wk.o ?_; (repeat revert hK K); refine W207aa ?_; (repeat intro K hK); refine ⟨?_⟩)
            (refine AWH (σ := Nat) [59, 60, 61, 62, 65, 66, 67, 68, 69, 12, 70, 71, 72, 73, 74, 75, 76, 77, 63, 64] (fun k => [(11, lint k), (10, .iv (.lit (.int .i64 (IntKind.i64.wrap (nk 0 (magOf l) k)))))]) (fun k => []) (fun k => []) (fun k => k ≤ l.length) (fun k => l.length - k) 0 (by first | exact Nat.zero_le _) ?_; rintro k d fr hfr hk; simp only [updS, deadS, List.set_cons_succ, List.set_cons_zero, lint] at hfr; subst hfr; (try dsimp only))
            by_cases hlt : k < l.length
            · have hkk : (magOf l).getD k 0 = l.getD k 0 := by rw [hgd, Nat.zero_add]
              have hst := nk_step (f := 0) (show k < (magOf l).length by omega) hall
              rw [hkk, if_neg (by omega)] at hst
              have hcb : (l.getD k 0).toNat < 256 := UInt8.toNat_lt _
              have hs1 := wr_step (nk 0 (magOf l) k) (((l.getD k 0).toNat : Int) - 48)
              rw [← hst] at hs1
              have hs2 : IntKind.i64.wrap ((l.getD k 0).toNat : Int) = ((l.getD k 0).toNat : Int) := by rw [IntKind.wrap_i64]; omega
              have hs3 : IntKind.i64.wrap (((l.getD k 0).toNat : Int) - 48) = ((l.getD k 0).toNat : Int) - 48 := by rw [IntKind.wrap_i64]; omega
              have hI2 : k + 1 ≤ l.length := by omega
              (refine Wk.o ?_; (repeat revert hK K); refine W207aa ?_; (repeat intro K hK); refine ⟨?_⟩)
              exact whx_end (k + 1) hI2 (by (first | omega | (dsimp only; omega) | (simp only; omega))) rfl rfl (fun d => by first | ((simp (disch := omega) only [go_sem, lint , hs1, hs2, hs3, hs4, hs5, ba_toList, ba_size, byteAt_ba, Int.toNat_zero, Int.toNat_one, Int.toNat_natCast]); done) | ((simp (disch := omega) only [go_sem, lint , hs1, hs2, hs3, hs4, hs5, ba_toList, ba_size, byteAt_ba, Int.toNat_zero, Int.toNat_one, Int.toNat_natCast]); rfl))
            · obtain rfl : k = l.length := by omega
              have hnk : nk 0 (magOf l) l.length = numV l := by
                rw [hN, if_neg (by omega)]
                unfold nk
                rw [if_neg (by omega), List.take_of_length_le (by omega)]
              obtain ⟨x, hxe⟩ : ∃ x, x = IntKind.i64.wrap (nk 0 (magOf l) l.length) := ⟨_, rfl⟩
              have hxb : -9223372036854775808 ≤ x ∧ x ≤ 9223372036854775807 := by rw [hxe, IntKind.wrap_i64]; omega
              have hxi : (-9223372036854775808 ≤ numV l ∧ numV l ≤ 9223372036854775807) ↔ x = numV l := by
                rw [hxe, hnk, IntKind.wrap_i64]; omega
              rw [← hxe]
              have hC := pf_rDigits x hxb.1 hxb.2
              by_cases hin : x = numV l
              · have hr := hxi.2 hin
                have hs1 : (itoa x == l) = true := by rw [hin, num_itoa hok2]; simp
                by_cases h8 : x < lo
                · have hR2 : numR l lo hi = (0, 7) := by rw [hR, if_neg]; intro h; omega
                  (refine Wk.o ?_; (repeat revert hK K); refine W207aa ?_; (repeat intro K hK); refine ⟨?_⟩)
                  (simp only [bodyX]; refine ⟨_, by simp only [aresults, aresult, XS.as, Tryd.results65, aload, go_sem, Option.bind_some]; rfl, ?_⟩)
                  exact ⟨ids_idB rfl, by rw [hR2], trivial⟩
                · by_cases h9 : hi < x
                  · have hR2 : numR l lo hi = (0, 7) := by rw [hR, if_neg]; intro h; omega
                    (refine Wk.o ?_; (repeat revert hK K); refine W207aa ?_; (repeat intro K hK); refine ⟨?_⟩)
                    (simp only [bodyX]; refine ⟨_, by simp only [aresults, aresult, XS.as, Tryd.results65, aload, go_sem, Option.bind_some]; rfl, ?_⟩)
                    exact ⟨ids_idB rfl, by rw [hR2], trivial⟩
                  · have hR2 : numR l lo hi = (x, 0) := by rw [hR, if_pos (by omega), hin]
                    (refine Wk.o ?_; (repeat revert hK K); refine W207aa ?_; (repeat intro K hK); refine ⟨?_⟩)
                    (simp only [bodyX]; refine ⟨_, by simp only [aresults, aresult, XS.as, Tryd.results65, aload, go_sem, Option.bind_some]; rfl, ?_⟩)
                    exact ⟨ids_idB rfl, by rw [hR2], trivial⟩
              · have hs1 : (itoa x == l) = false := by simpa using itoa_ne hin
                have hR2 : numR l lo hi = (0, 7) := by rw [hR, if_neg]; intro h; exact hin (hxi.1 ⟨h.1, h.2.1⟩)
                (refine Wk.o ?_; (repeat revert hK K); refine W207aa ?_; (repeat intro K hK); refine ⟨?_⟩)
                (simp only [bodyX]; refine ⟨_, by simp only [aresults, aresult, XS.as, Tryd.results65, aload, go_sem, Option.bind_some]; rfl, ?_⟩)
                exact ⟨ids_idB rfl, by rw [hR2], trivial⟩
end Go.Proofs.YtdaenbgjafalcaaDoor
namespace Go.Proofs.YtdaenbgjafalcaaDoor
open Go.RowKit Go.Lib
set_option linter.unusedVariables false
set_option linter.unusedSimpArgs false
theorem tokL_atL {T : List Tok3} : ∀ {k : Nat}, k < T.length → (tokL T).getD (k * 3) undef = .int .i64 (T.getD k tok0).1 ∧ (tokL T).getD (k * 3 + 1) undef = .int .i64 (T.getD k tok0).2.1 ∧ (tokL T).getD (k * 3 + 2) undef = .string (ba (T.getD k tok0).2.2) := by
  intro k h
  have hh : ∀ j, (tokC T)[j]? = some (lt ((tokL T).getD j undef)) ∨ (tokC T)[j]? = none := fun j => by
    unfold tokC
    rw [List.getElem?_map, List.getD_eq_getElem?_getD]
    cases (tokL T)[j]? <;> simp
  obtain ⟨h1, h2, h3⟩ := tokC_at h
  refine ⟨?_, ?_, ?_⟩
  · rcases hh (k * 3) with h4 | h4
    · rw [h1] at h4; simpa [lt] using h4.symm
    · rw [h1] at h4; cases h4
  · rcases hh (k * 3 + 1) with h4 | h4
    · rw [h2] at h4; simpa [lt] using h4.symm
    · rw [h2] at h4; cases h4
  · rcases hh (k * 3 + 2) with h4 | h4
    · rw [h3] at h4; simpa [lt] using h4.symm
    · rw [h3] at h4; cases h4
theorem snap_i {H : AHeap} {o n : Nat} {t : TypeId} {xs : List Int} (h : H[o]? = some (some ⟨t, xs.map lint⟩)) (hn : n = xs.length) : Snap H (.osl o 0 n 1) (.iv (iInts xs)) := by
  subst hn
  exact .iv _ _ (SnapC.lits (fun j => .int .i64 (xs.getD j 0)) h fun j hj => by rw [Nat.zero_add]; exact lint_at hj)
theorem snap_i0 {H : AHeap} : Snap H (lt (.slice none 0 0)) (.iv (iInts [])) := .iv _ _ (.nil _ _)
theorem zip_drop {lo hi : List Int} {i : Nat} (h1 : i < lo.length) (h2 : i < hi.length) : (lo.zip hi).drop i = (lo.getD i 0, hi.getD i 0) :: (lo.zip hi).drop (i + 1) := by
  rw [List.drop_eq_getElem_cons (by rw [List.length_zip]; omega), List.getElem_zip]
  simp [List.getD, h1, h2]
structure TokOK (T : List Tok3) : Prop where
  len : T.length ≤ 1000000
  txt : ∀ j, (T.getD j tok0).2.2.length ≤ 1000000
  pos : ∀ j, 0 ≤ (T.getD j tok0).2.1 ∧ (T.getD j tok0).2.1 ≤ 1000000000
theorem TokOK.drop {T : List Tok3} (h : TokOK T) (k : Nat) : TokOK (T.drop k) :=
  ⟨by rw [List.length_drop]; have := h.len; omega, fun j => by rw [dropG]; exact h.txt _, fun j => by rw [dropG]; exact h.pos _⟩
theorem W3549a {A B : Prop} (h9 : B) (w : B → A := by (intro h9; (repeat intro K hK); refine ⟨?_⟩; (repeat (first | (first | (with_reducible first | refine AX_block ?_ | refine AX_skip ?_ | refine AX_exit ?_ | refine AX_ret ?_ | refine AX_ift ?_ | refine AX_iff ?_ | refine AX_seq_k (fun K hK => ?_) | refine ContX.use (by assumption) ?_) | simp only [thenX, inBlockX, if_true, if_false, reduceCtorEq]) | (first | ((first | (with_reducible refine XRes_op tyOK ?_ ?_) | ((with_reducible first | refine ADF_op tyOK ?_ ?_ ?_ | refine ADX_op tyOK ?_ ?_ ?_); (focus rfl)) | (with_reducible refine ADR_alloc1 tyOK ?_ ?_) | ((with_reducible refine ADR_free1 tyOK ?_ ?_ ?_); (focus rfl)) | ((with_reducible refine ADR_free0 tyOK ?_ ?_ ?_); (focus rfl)) | ((with_reducible refine ADR_read1 tyOK ?_ ?_ ?_); (focus rfl)) | (with_reducible refine ADR_chg1 tyOK ?_ ?_)); (focus (first | (with_reducible rfl) | ((simp (disch := omega) only [go_sem]); done))); simp (disch := omega) only [go_sem , hs1, hs2, hs3, hs4, hs5, hs6, hs7, hs8, hs9, hsa, hsb, hsc, Int.toNat_zero, Int.toNat_one, Int.reduceToNat, Nat.reduceMul, Nat.reduceAdd, Nat.zero_add, Nat.one_mul, Int.toNat_natCast, Nat.reduceEqDiff, List.length_map, List.length_cons, List.length_nil, List.length_drop, ba_size, ba_toList]; (first | (with_reducible refine XRes_id ?_) | (with_reducible refine ADF_id ?_) | (with_reducible refine ADR_id1 ?_) | (with_reducible refine ADX_id ?_))) | ((first | (with_reducible refine XRes_skip ?_ ?_) | (with_reducible refine ADF_skip (b := true) ?_ ?_) | (with_reducible refine ADX_skip ?_ ?_) | ((with_reducible refine ADR_skip1 ?_ ?_ ?_); (focus rfl))); (focus (first | rfl | ((simp (disch := omega) only [go_sem]); done))); (simp only [putL, List.set_cons_succ, List.set_cons_zero]))) | ((first | (with_reducible refine XRes_nil ?_) | (with_reducible refine ADF_nil ?_) | (with_reducible refine ADR_nil ?_) | (with_reducible refine ADX_nil ?_)); (first | refine hK _ ?_ | refine hK _ _ ?_); clear hK K) | ((first | (with_reducible refine AX_reg0 fun K hK => ?_) | (refine AX_drawG1 tyOK (by kernel_rfl) (by rfl) (by kernel_rfl) fun K hK => ?_) | (refine AX_drawT tyOK (by kernel_rfl) (by decide +kernel) fun K hK => ?_) | (refine AX_drawM1 (by kernel_rfl) (by rfl) (by decide +kernel) fun K hK => ?_) | (refine AX_drawA tyOK (by kernel_rfl) (by decide +kernel) fun K hK => ?_)); (first | simp only [go_sem, preN, effOp, runF, alM, mapOp, alD2, kdOf2, Bool.not_false, Bool.not_true, reduceCtorEq] | simp only [go_sem, preN, effOp, runF, alM, mapOp, Bool.not_false, Bool.not_true, reduceCtorEq] | simp only [go_sem, preN, effOp, runF, alD2, kdOf2, Bool.not_false, Bool.not_true, reduceCtorEq] | simp only [go_sem, alD2, kdOf2, Bool.not_false, Bool.not_true, reduceCtorEq] | simp only [go_sem, preN, effOp, runF, Bool.not_false, Bool.not_true, reduceCtorEq] | simp only [go_sem])) | (first | (first | refine XTL (by rfl) hN ?_ | refine ATL tyOK (by rfl) hN ?_)))); refine Wk.o ?_; (repeat revert hK K); exact h9)) : A := w h9
theorem W3549b {A B : Prop} (h9 : B) (w : B → A := by (intro h9; (repeat intro K hK); refine ⟨?_⟩; (repeat (first | (first | (with_reducible first | refine AX_block ?_ | refine AX_skip ?_ | refine AX_exit ?_ | refine AX_ret ?_ | refine AX_ift ?_ | refine AX_iff ?_ | refine AX_seq_k (fun K hK => ?_) | refine ContX.use (by assumption) ?_) | simp only [thenX, inBlockX, if_true, if_false, reduceCtorEq]) | (first | ((first | (with_reducible refine XRes_op tyOK ?_ ?_) | ((with_reducible first | refine ADF_op tyOK ?_ ?_ ?_ | refine ADX_op tyOK ?_ ?_ ?_); (focus rfl)) | (with_reducible refine ADR_alloc1 tyOK ?_ ?_) | ((with_reducible refine ADR_free1 tyOK ?_ ?_ ?_); (focus rfl)) | ((with_reducible refine ADR_free0 tyOK ?_ ?_ ?_); (focus rfl)) | ((with_reducible refine ADR_read1 tyOK ?_ ?_ ?_); (focus rfl)) | (with_reducible refine ADR_chg1 tyOK ?_ ?_)); (focus (first | (with_reducible rfl) | ((simp (disch := omega) only [go_sem]); done))); simp (disch := omega) only [go_sem , hs1, hs2, hs3, hs4, hs5, hs6, hs7, hs8, hs9, hsa, hsb, hsc, Int.toNat_zero, Int.toNat_one, Int.reduceToNat, Nat.reduceMul, Nat.reduceAdd, Nat.zero_add, Nat.one_mul, Int.toNat_natCast, Nat.reduceEqDiff, List.length_map, List.length_cons, List.length_nil, List.length_drop, ba_size, ba_toList]; (first | (with_reducible refine XRes_id ?_) | (with_reducible refine ADF_id ?_) | (with_reducible refine ADR_id1 ?_) | (with_reducible refine ADX_id ?_))) | ((first | (with_reducible refine XRes_skip ?_ ?_) | (with_reducible refine ADF_skip (b := true) ?_ ?_) | (with_reducible refine ADX_skip ?_ ?_) | ((with_reducible refine ADR_skip1 ?_ ?_ ?_); (focus rfl))); (focus (first | rfl | ((simp (disch := omega) only [go_sem]); done))); (simp only [putL, List.set_cons_succ, List.set_cons_zero]))) | ((first | (with_reducible refine XRes_nil ?_) | (with_reducible refine ADF_nil ?_) | (with_reducible refine ADR_nil ?_) | (with_reducible refine ADX_nil ?_)); (first | refine hK _ ?_ | refine hK _ _ ?_); clear hK K) | (first | (first | refine XTL (by rfl) hN ?_ | refine ATL tyOK (by rfl) hN ?_)) | ((with_reducible refine AX_reg0 fun K hK => ?_); simp only [go_sem]) | ((refine AX_drawG1 tyOK (by kernel_rfl) (by rfl) (by kernel_rfl) fun K hK => ?_); (first | simp only [go_sem, preN, effOp, runF, alM, mapOp, alD2, kdOf2, Bool.not_false, Bool.not_true, reduceCtorEq] | simp only [go_sem, preN, effOp, runF, alM, mapOp, Bool.not_false, Bool.not_true, reduceCtorEq] | simp only [go_sem, preN, effOp, runF, alD2, kdOf2, Bool.not_false, Bool.not_true, reduceCtorEq] | simp only [go_sem, alD2, kdOf2, Bool.not_false, Bool.not_true, reduceCtorEq] | simp only [go_sem, preN, effOp, runF, Bool.not_false, Bool.not_true, reduceCtorEq] | simp only [go_sem])))); refine Wk.o ?_; (repeat revert hK K); exact h9)) : A := w h9
set_option maxRecDepth 100000 in
set_option maxHeartbeats 8000000 in
theorem pf_nums (T : List Tok3) (w : List UInt8) (lo hi : List Int) (z : Int) (hT : TokOK T) (hlo : lo.length ≤ 1000000) (hhi : hi.length ≤ 1000000) :
    PF Tryd.prog 42 [.iv (iTokL T), lt (.string (ba w)), .iv (iInts lo), .iv (iInts hi), lt (.int .i64 z)] fun r H' => r = .tup [.iv (iInts (nums T w lo hi z).1), lt (.int .i64 (nums T w lo hi z).2.1), lt (.int .i64 (nums T w lo hi z).2.2)] ∧ H' = [] := by
  refine SF.frozen ?_
  have hs1 := trivial; have hs2 := trivial; have hs3 := trivial; have hs4 := trivial; have hs5 := trivial; have hs6 := trivial; have hs7 := trivial; have hs8 := trivial; have hs9 := trivial; have hsa := trivial; have hsb := trivial; have hsc := trivial; have hN := trivial
  by_cases h0 : T.length = 0
  · have hp : nums T w lo hi z = ([], z, 4) := if_pos h0
    rw [hp]
    have hs1 : T.length = 0 := h0
    unfold iTokL
    (refine SF_of_bodyX (aload tt) (aload_ok tyOK) Tryd.func42 rfl (by kernel_rfl) ?_; simp only [Tryd.ntmps42, List.length_cons, List.length_nil, Nat.reduceAdd, Nat.reduceSub, List.replicate_succ, List.replicate_zero, List.cons_append, List.nil_append])
    (refine Wk.o ?_; (repeat revert hK K); refine W3549a ?_; (repeat intro K hK); refine ⟨?_⟩)
    (simp only [bodyX]; refine ⟨_, by simp only [aresults, aresult, XS.as, Tryd.results42, aload, go_sem, Option.bind_some]; rfl, ?_⟩)
    exact ⟨_, Snap.tri snap_i0 (.same _ (.iv _)) (.same _ (.iv _)), rfl, trivial⟩
  · have hlen := hT.len
    obtain ⟨e1, e2, e3⟩ := tokL_atL (T := T) (k := 0) (by omega)
    obtain ⟨g1, g2, g3⟩ := tokL_atL (T := T) (k := T.length - 1) (by omega)
    have hs1 : ((T.length : Int) == 0) = false := beq_eq_false_iff_ne.2 (by omega)
    have hs2 : (tokL T).getD 1 undef = _ := e2
    have hs3 : (tokL T).getD 2 undef = _ := e3
    have htail := tok_tail T 1
    rw [Nat.one_mul] at htail
    by_cases hw : (T.getD 0 tok0).2.2 = w
    · have hp : nums T w lo hi z = nGo (lastEnd T) z (T.drop 1) (lo.zip hi) [] := by unfold nums; rw [if_neg h0, if_neg (by rw [hw]; simp)]
      have hle : lastEnd T = (T.getD (T.length - 1) tok0).2.1 + (((T.getD (T.length - 1) tok0).2.2.length : Nat) : Int) := rfl
      have hpl := hT.pos (T.length - 1)
      have htl := hT.txt (T.length - 1)
      have hs4 : ((T.getD 0 tok0).2.2 == w) = true := by simpa using hw
      have hs5 : ((T.length : Int) - 1).toNat = T.length - 1 := by omega
      generalize (T.getD (T.length - 1) tok0).1 = la at *
      generalize (T.getD (T.length - 1) tok0).2.1 = lb at *
      generalize (T.getD (T.length - 1) tok0).2.2 = lx at *
      generalize (T.getD 0 tok0).2.1 = f1 at *
      generalize (T.getD 0 tok0).2.2 = f2 at *
      have hs6 := g1; have hs7 := g2; have hs8 := g3; have hs9 := htail
      rw [hle] at hp
      generalize nums T w lo hi z = Q at *
      unfold iTokL
      (refine SF_of_bodyX (aload tt) (aload_ok tyOK) Tryd.func42 rfl (by kernel_rfl) ?_; simp only [Tryd.ntmps42, List.length_cons, List.length_nil, Nat.reduceAdd, Nat.reduceSub, List.replicate_succ, List.replicate_zero, List.cons_append, List.nil_append])
      unfold iInts
      (refine Wk.o ?_; (repeat revert hK K); refine W3549a ?_; (repeat intro K hK); refine ⟨?_⟩)
      refine AX_nil 10 3 1 rfl ?_
      have hinit : ([] : List Int).map lint = [] := rfl
      (refine AX_wh (σ := Nat × List Int) [45, 46, 14, 47, 48, 49, 50, 51, 52, 53, 54, 55, 11, 12, 57, 58, 59, 60, 61, 62, 63, 64, 65, 66, 67, 68, 69, 56, 70, 71, 15, 16, 72, 73, 74, 75, 76, 77, 78, 79, 80, 81, 82, 83, 84, 85] (fun (i, acc) => [(0, .iv (.sl (fun j => .lit ((tokL (T.drop (i + 1))).getD j undef)) (T.length - (i + 1)) 3)), (44, lint i), (10, .osl 1 0 acc.length 1)]) (fun (i, acc) => [some ⟨49, [lt (.int .i64 la), lt (.int .i64 lb), lt (.string (ba lx))]⟩, some ⟨3, acc.map lint⟩]) (fun (i, acc) => []) (fun (i, acc) => i ≤ lo.length ∧ i ≤ hi.length ∧ acc.length ≤ i ∧ Q = nGo (lb + ((lx.length : Nat) : Int)) z (T.drop (i + 1)) ((lo.zip hi).drop i) acc) (fun (i, acc) => lo.length - i) (0, []) (fun d => by first | ((simp only [deadS, updS, List.set_cons_succ, List.set_cons_zero, lint, List.length_nil, List.length_cons]); done) | ((simp only [deadS, updS, List.set_cons_succ, List.set_cons_zero, lint, List.length_nil, List.length_cons]); rfl) | rfl) (by first | (with_reducible rfl) | (simp only [hinit]; done) | rfl) (by first | (with_reducible rfl) | rfl) (by first | exact ⟨Nat.zero_le _, Nat.zero_le _, Nat.le_refl _, hp⟩) ?_; rintro ⟨i, acc⟩ d fr hfr ⟨hi1, hi2, hacc, hq⟩; simp only [updS, deadS, List.set_cons_succ, List.set_cons_zero, lint] at hfr; subst hfr; (try dsimp only))
      clear hs2 hs3 hs6 hs7 hs8 hs9 g1 g2 g3 e1 e2 e3 htail
      have hU : (T.length - (i + 1) : Nat) = (T.drop (i + 1)).length := by rw [List.length_drop]
      by_cases hlt : i < lo.length ∧ i < hi.length
      · obtain ⟨hl1, hl2⟩ := hlt
        have hs2 : decide ((i : Int) < min (lo.length : Int) (hi.length : Int)) = true := decide_eq_true (by omega)
        rw [zip_drop hl1 hl2] at hq
        by_cases hT2 : (T.drop (i + 1)).length = 0
        · have hnil : T.drop (i + 1) = [] := List.length_eq_zero_iff.1 hT2
          rw [hnil, nGo] at hq
          have hs3 : T.length - (i + 1) = 0 := by rw [hU, hT2]
          (refine Wk.o ?_; (repeat revert hK K); refine W3549b ?_; (repeat intro K hK); refine ⟨?_⟩)
          (simp only [bodyX]; refine ⟨_, by simp only [aresults, aresult, XS.as, Tryd.results42, aload, go_sem, Option.bind_some]; rfl, ?_⟩)
          exact ⟨_, Snap.tri snap_i0 (.same _ (.iv _)) (.same _ (.iv _)), by first | rfl | (rw [hq]; done) | (rw [hq]; rfl), trivial⟩
        · have hTd := hT.drop (i + 1)
          have htx := hTd.txt 0
          have hcons : T.drop (i + 1) = (T.drop (i + 1)).getD 0 tok0 :: T.drop (i + 1 + 1) := by
            rw [dropG, List.drop_eq_getElem_cons (by rw [List.length_drop] at hT2; omega), List.getD_eq_getElem?_getD, List.getElem?_eq_getElem (by rw [List.length_drop] at hT2; omega)]; rfl
          obtain ⟨e1, e2, e3⟩ := tokL_atL (T := T.drop (i + 1)) (k := 0) (by omega)
          have hs6 : (tokL (T.drop (i + 1))).getD 1 undef = _ := e2
          have hs7 : (tokL (T.drop (i + 1))).getD 2 undef = _ := e3
          have hs8 : (fun j => IV.lit ((tokL (T.drop (i + 1))).getD (3 + j) undef)) = fun j => IV.lit ((tokL (T.drop (i + 1 + 1))).getD j undef) := by
            have := tok_tail (T.drop (i + 1)) 1
            rw [Nat.one_mul, List.drop_drop] at this
            exact this
          have hs3 : (((T.length - (i + 1) : Nat) : Int) == 0) = false := beq_eq_false_iff_ne.2 (by omega)
          rw [hcons, nGo] at hq
          dsimp only at hq
          generalize ((T.drop (i + 1)).getD 0 tok0).2.1 = p1 at *
          generalize ((T.drop (i + 1)).getD 0 tok0).2.2 = tx at *
          have hN := pf_Number tx (lo.getD i 0) (hi.getD i 0) htx
          generalize numR tx (lo.getD i 0) (hi.getD i 0) = nr at *
          obtain ⟨x, e⟩ := nr
          dsimp only at hq hN
          by_cases he : e = 0
          · subst he
            rw [if_neg (by simp)] at hq
            have hlen2 : (acc ++ [x]).length = acc.length + 1 := by simp
            (refine Wk.o ?_; (repeat revert hK K); refine W3549b ?_; (repeat intro K hK); refine ⟨?_⟩)
            exact whx_ren [0, 3] (i + 1, acc ++ [x]) ⟨by dsimp only; omega, by dsimp only; omega, by dsimp only; omega, hq⟩ (by dsimp only; omega) rfl (by decide) (by decide) (by (simp (disch := omega) only [go_sem, lint, Nat.reduceEqDiff, List.length_map, Nat.sub_sub])) (by (simp (disch := omega) only [go_sem, lint, Nat.reduceEqDiff, List.length_map, Nat.sub_sub])) (by (simp (disch := omega) only [go_sem, lint, Nat.reduceEqDiff, List.length_map, Nat.sub_sub])) (fun d => by first | ((simp (disch := omega) only [go_sem, lint, Nat.reduceEqDiff, List.length_map, Nat.sub_sub]); done) | ((simp (disch := omega) only [go_sem, lint, Nat.reduceEqDiff, List.length_map, Nat.sub_sub]); rfl))
          · rw [if_pos he] at hq
            have hs4 : (e != 0) = true := by simpa using he
            (refine Wk.o ?_; (repeat revert hK K); refine W3549b ?_; (repeat intro K hK); refine ⟨?_⟩)
            (simp only [bodyX]; refine ⟨_, by simp only [aresults, aresult, XS.as, Tryd.results42, aload, go_sem, Option.bind_some]; rfl, ?_⟩)
            exact ⟨_, Snap.tri snap_i0 (.same _ (.iv _)) (.same _ (.iv _)), by first | rfl | (rw [hq]; done) | (rw [hq]; rfl), trivial⟩
      · have hs2 : decide ((i : Int) < min (lo.length : Int) (hi.length : Int)) = false := decide_eq_false (by omega)
        have hz : (lo.zip hi).drop i = [] := List.drop_of_length_le (by rw [List.length_zip]; omega)
        rw [hz] at hq
        by_cases hT2 : (T.drop (i + 1)).length = 0
        · have hnil : T.drop (i + 1) = [] := List.length_eq_zero_iff.1 hT2
          rw [hnil, nGo] at hq
          have hs3 : T.length - (i + 1) = 0 := by rw [hU, hT2]
          (refine Wk.o ?_; (repeat revert hK K); refine W3549b ?_; (repeat intro K hK); refine ⟨?_⟩)
          (simp only [bodyX]; refine ⟨_, by simp only [aresults, aresult, XS.as, Tryd.results42, aload, go_sem, Option.bind_some]; rfl, ?_⟩)
          exact ⟨_, Snap.tri (snap_i rfl rfl) (.same _ (.iv _)) (.same _ (.iv _)), by first | rfl | (rw [hq]; done) | (rw [hq]; rfl), trivial⟩
        · obtain ⟨e1, e2, e3⟩ := tokL_atL (T := T.drop (i + 1)) (k := 0) (by omega)
          have hs6 : (tokL (T.drop (i + 1))).getD 1 undef = _ := e2
          have hs3 : decide ((0 : Int) < ((T.length - (i + 1) : Nat) : Int)) = true := decide_eq_true (by omega)
          obtain ⟨t0, T0, hcons⟩ : ∃ t0 T0, T.drop (i + 1) = t0 :: T0 := by
            cases h : T.drop (i + 1) with
            | nil => rw [h] at hT2; exact absurd rfl hT2
            | cons a b => exact ⟨a, b, rfl⟩
          rw [hcons, nGo] at hq
          have hp1 : ((T.drop (i + 1)).getD 0 tok0).2.1 = t0.2.1 := by rw [hcons]; rfl
          rw [hp1] at hs6
          (refine Wk.o ?_; (repeat revert hK K); refine W3549b ?_; (repeat intro K hK); refine ⟨?_⟩)
          (simp only [bodyX]; refine ⟨_, by simp only [aresults, aresult, XS.as, Tryd.results42, aload, go_sem, Option.bind_some]; rfl, ?_⟩)
          exact ⟨_, Snap.tri snap_i0 (.same _ (.iv _)) (.same _ (.iv _)), by first | rfl | (rw [hq]; done) | (rw [hq]; rfl), trivial⟩
    · have hp : nums T w lo hi z = ([], (T.getD 0 tok0).2.1, 8) := by unfold nums; rw [if_neg h0, if_pos hw]
      have hs4 : ((T.getD 0 tok0).2.2 == w) = false := by simpa using hw
      generalize (T.getD 0 tok0).2.1 = f1 at *
      generalize (T.getD 0 tok0).2.2 = f2 at *
      generalize nums T w lo hi z = Q at *
      unfold iTokL
      (refine SF_of_bodyX (aload tt) (aload_ok tyOK) Tryd.func42 rfl (by kernel_rfl) ?_; simp only [Tryd.ntmps42, List.length_cons, List.length_nil, Nat.reduceAdd, Nat.reduceSub, List.replicate_succ, List.replicate_zero, List.cons_append, List.nil_append])
      (refine Wk.o ?_; (repeat revert hK K); refine W3549b ?_; (repeat intro K hK); refine ⟨?_⟩)
      (simp only [bodyX]; refine ⟨_, by simp only [aresults, aresult, XS.as, Tryd.results42, aload, go_sem, Option.bind_some]; rfl, ?_⟩)
      exact ⟨_, Snap.tri snap_i0 (.same _ (.iv _)) (.same _ (.iv _)), by first | rfl | (rw [hp]; done) | (rw [hp]; rfl), trivial⟩
end Go.Proofs.YtdaenbgjafalcaaDoor
namespace Go.Proofs.YtdaenbgjafalcaaDoor
open Go.RowKit Go.Lib
set_option linter.unusedVariables false
set_option linter.unusedSimpArgs false
theorem We120a {A B : Prop} (h9 : B) (w : B → A := by (intro h9; (repeat intro K hK); refine ⟨?_⟩; (repeat (first | (first | (with_reducible first | refine AX_block ?_ | refine AX_skip ?_ | refine AX_exit ?_ | refine AX_ret ?_ | refine AX_ift ?_ | refine AX_iff ?_ | refine AX_seq_k (fun K hK => ?_) | refine ContX.use (by assumption) ?_) | simp only [thenX, inBlockX, if_true, if_false, reduceCtorEq]) | (first | ((first | (with_reducible refine XRes_op tyOK ?_ ?_) | ((with_reducible first | refine ADF_op tyOK ?_ ?_ ?_ | refine ADX_op tyOK ?_ ?_ ?_); (focus rfl)) | (with_reducible refine ADR_alloc1 tyOK ?_ ?_) | ((with_reducible refine ADR_free1 tyOK ?_ ?_ ?_); (focus rfl)) | ((with_reducible refine ADR_free0 tyOK ?_ ?_ ?_); (focus rfl)) | ((with_reducible refine ADR_read1 tyOK ?_ ?_ ?_); (focus rfl)) | (with_reducible refine ADR_chg1 tyOK ?_ ?_)); (focus (first | (with_reducible rfl) | ((simp (disch := omega) only [go_sem]); done))); simp (disch := omega) only [go_sem , hs1, hs2, hs3, hs4, hs5, hs6, hs7, hs8, hs9, hsa, hsb, hsc, Int.toNat_zero, Int.toNat_one, Int.reduceToNat, Nat.reduceMul, Nat.reduceAdd, Nat.zero_add, Nat.one_mul, Int.toNat_natCast, Nat.reduceEqDiff, List.length_map, List.length_cons, List.length_nil, ba_size, ba_toList]; (first | (with_reducible refine XRes_id ?_) | (with_reducible refine ADF_id ?_) | (with_reducible refine ADR_id1 ?_) | (with_reducible refine ADX_id ?_))) | ((first | (with_reducible refine XRes_skip ?_ ?_) | (with_reducible refine ADF_skip (b := true) ?_ ?_) | (with_reducible refine ADX_skip ?_ ?_) | ((with_reducible refine ADR_skip1 ?_ ?_ ?_); (focus rfl))); (focus (first | rfl | ((simp (disch := omega) only [go_sem]); done))); (simp only [putL, List.set_cons_succ, List.set_cons_zero]))) | ((first | (with_reducible refine XRes_nil ?_) | (with_reducible refine ADF_nil ?_) | (with_reducible refine ADR_nil ?_) | (with_reducible refine ADX_nil ?_)); (first | refine hK _ ?_ | refine hK _ _ ?_); clear hK K) | ((first | (with_reducible refine AX_reg0 fun K hK => ?_) | (refine AX_drawG1 tyOK (by kernel_rfl) (by rfl) (by kernel_rfl) fun K hK => ?_) | (refine AX_drawT tyOK (by kernel_rfl) (by decide +kernel) fun K hK => ?_) | (refine AX_drawM1 (by kernel_rfl) (by rfl) (by decide +kernel) fun K hK => ?_) | (refine AX_drawA tyOK (by kernel_rfl) (by decide +kernel) fun K hK => ?_)); (first | simp only [go_sem, preN, effOp, runF, alM, mapOp, alD2, kdOf2, Bool.not_false, Bool.not_true, reduceCtorEq] | simp only [go_sem, preN, effOp, runF, alM, mapOp, Bool.not_false, Bool.not_true, reduceCtorEq] | simp only [go_sem, preN, effOp, runF, alD2, kdOf2, Bool.not_false, Bool.not_true, reduceCtorEq] | simp only [go_sem, alD2, kdOf2, Bool.not_false, Bool.not_true, reduceCtorEq] | simp only [go_sem, preN, effOp, runF, Bool.not_false, Bool.not_true, reduceCtorEq] | simp only [go_sem])) | (first | (first | refine XTL (by rfl) hN ?_ | refine ATL tyOK (by rfl) hN ?_)))); refine Wk.o ?_; (repeat revert hK K); exact h9)) : A := w h9
theorem We120b {A B : Prop} (h9 : B) (w : B → A := by (intro h9; (repeat intro K hK); refine ⟨?_⟩; (repeat (first | (first | (with_reducible first | refine AX_block ?_ | refine AX_skip ?_ | refine AX_exit ?_ | refine AX_ret ?_ | refine AX_ift ?_ | refine AX_iff ?_ | refine AX_seq_k (fun K hK => ?_) | refine ContX.use (by assumption) ?_) | simp only [thenX, inBlockX, if_true, if_false, reduceCtorEq]) | (first | ((first | (with_reducible refine XRes_op tyOK ?_ ?_) | ((with_reducible first | refine ADF_op tyOK ?_ ?_ ?_ | refine ADX_op tyOK ?_ ?_ ?_); (focus rfl)) | (with_reducible refine ADR_alloc1 tyOK ?_ ?_) | ((with_reducible refine ADR_free1 tyOK ?_ ?_ ?_); (focus rfl)) | ((with_reducible refine ADR_free0 tyOK ?_ ?_ ?_); (focus rfl)) | ((with_reducible refine ADR_read1 tyOK ?_ ?_ ?_); (focus rfl)) | (with_reducible refine ADR_chg1 tyOK ?_ ?_)); (focus (first | (with_reducible rfl) | ((simp (disch := omega) only [go_sem]); done))); simp (disch := omega) only [go_sem , hs1, hs2, hs3, hs4, hs5, hs6, hs7, hs8, hs9, hsa, hsb, hsc, Int.toNat_zero, Int.toNat_one, Int.reduceToNat, Nat.reduceMul, Nat.reduceAdd, Nat.zero_add, Nat.one_mul, Int.toNat_natCast, Nat.reduceEqDiff, List.length_map, List.length_cons, List.length_nil, ba_size, ba_toList]; (first | (with_reducible refine XRes_id ?_) | (with_reducible refine ADF_id ?_) | (with_reducible refine ADR_id1 ?_) | (with_reducible refine ADX_id ?_))) | ((first | (with_reducible refine XRes_skip ?_ ?_) | (with_reducible refine ADF_skip (b := true) ?_ ?_) | (with_reducible refine ADX_skip ?_ ?_) | ((with_reducible refine ADR_skip1 ?_ ?_ ?_); (focus rfl))); (focus (first | rfl | ((simp (disch := omega) only [go_sem]); done))); (simp only [putL, List.set_cons_succ, List.set_cons_zero]))) | ((first | (with_reducible refine XRes_nil ?_) | (with_reducible refine ADF_nil ?_) | (with_reducible refine ADR_nil ?_) | (with_reducible refine ADX_nil ?_)); (first | refine hK _ ?_ | refine hK _ _ ?_); clear hK K) | (first | (first | refine XTL (by rfl) hN ?_ | refine ATL tyOK (by rfl) hN ?_)) | ((with_reducible refine AX_reg0 fun K hK => ?_); simp only [go_sem]) | ((refine AX_drawG1 tyOK (by kernel_rfl) (by rfl) (by kernel_rfl) fun K hK => ?_); (first | simp only [go_sem, preN, effOp, runF, alM, mapOp, alD2, kdOf2, Bool.not_false, Bool.not_true, reduceCtorEq] | simp only [go_sem, preN, effOp, runF, alM, mapOp, Bool.not_false, Bool.not_true, reduceCtorEq] | simp only [go_sem, preN, effOp, runF, alD2, kdOf2, Bool.not_false, Bool.not_true, reduceCtorEq] | simp only [go_sem, alD2, kdOf2, Bool.not_false, Bool.not_true, reduceCtorEq] | simp only [go_sem, preN, effOp, runF, Bool.not_false, Bool.not_true, reduceCtorEq] | simp only [go_sem])))); refine Wk.o ?_; (repeat revert hK K); exact h9)) : A := w h9
set_option maxRecDepth 100000 in
set_option maxHeartbeats 8000000 in
theorem pf_rnums (T : List Tok3) (w : List UInt8) (lo hi : List Int) (z : Int) (hT : TokOK T) (hlo : lo.length ≤ 1000000) (hhi : hi.length ≤ 1000000) :
    PF Tryd.prog 46 [.iv (iTokL T), lt (.string (ba w)), .iv (iInts lo), .iv (iInts hi), lt (.int .i64 z)] fun r H' => r = .tup [.iv (iInts (nums T w lo hi z).1), lt (.int .i64 (nums T w lo hi z).2.1), lt (.int .i64 (nums T w lo hi z).2.2)] ∧ H' = [] := by
  refine SF.frozen ?_
  have hs1 := trivial; have hs2 := trivial; have hs3 := trivial; have hs4 := trivial; have hs5 := trivial; have hs6 := trivial; have hs7 := trivial; have hs8 := trivial; have hs9 := trivial; have hsa := trivial; have hsb := trivial; have hsc := trivial; have hN := trivial
  by_cases h0 : T.length = 0
  · have hq : nums T w lo hi z = ([], z, 4) := if_pos h0
    generalize nums T w lo hi z = Q at *
    have hs1 : T.length = 0 := h0
    unfold iTokL
    (refine SF_of_bodyX (aload tt) (aload_ok tyOK) Tryd.func46 rfl (by kernel_rfl) ?_; simp only [Tryd.ntmps46, List.length_cons, List.length_nil, Nat.reduceAdd, Nat.reduceSub, List.replicate_succ, List.replicate_zero, List.cons_append, List.nil_append])
    (refine Wk.o ?_; (repeat revert hK K); refine We120a ?_; (repeat intro K hK); refine ⟨?_⟩)
    (simp only [bodyX]; refine ⟨_, by simp only [aresults, aresult, XS.as, Tryd.results46, aload, go_sem, Option.bind_some]; rfl, ?_⟩)
    exact ⟨_, Snap.tri snap_i0 (.same _ (.iv _)) (.same _ (.iv _)), by first | rfl | (rw [hq]; done) | (rw [hq]; rfl), trivial⟩
  · have hlen := hT.len
    obtain ⟨e1, e2, e3⟩ := tokL_atL (T := T) (k := 0) (by omega)
    have hs1 : ((T.length : Int) == 0) = false := beq_eq_false_iff_ne.2 (by omega)
    have hs2 : (tokL T).getD 1 undef = _ := e2
    have hs3 : (tokL T).getD 2 undef = _ := e3
    by_cases hw : (T.getD 0 tok0).2.2 = w
    · have hp : nums T w lo hi z = nGo (lastEnd T) z (T.drop 1) (lo.zip hi) [] := by unfold nums; rw [if_neg h0, if_neg (by rw [hw]; simp)]
      have hs4 : ((T.getD 0 tok0).2.2 == w) = true := by simpa using hw
      generalize hf2 : (T.getD 0 tok0).2.2 = f2 at *
      generalize nums T w lo hi z = Q at *
      unfold iTokL
      (refine SF_of_bodyX (aload tt) (aload_ok tyOK) Tryd.func46 rfl (by kernel_rfl) ?_; simp only [Tryd.ntmps46, List.length_cons, List.length_nil, Nat.reduceAdd, Nat.reduceSub, List.replicate_succ, List.replicate_zero, List.cons_append, List.nil_append])
      unfold iInts
      (refine Wk.o ?_; (repeat revert hK K); refine We120a ?_; (repeat intro K hK); refine ⟨?_⟩)
      refine AX_nil 13 3 1 rfl ?_
      have hinit : ([] : List Int).map lint = [] := rfl
      (refine AX_wh (σ := Nat × List Int) [31, 32, 33, 34, 35, 36, 37, 38, 39, 40, 43, 44, 45, 46, 47, 48, 49, 50, 51, 52, 53, 54, 55, 56, 57, 58, 59, 10, 11, 12, 61, 62, 63, 64, 65, 66, 67, 68, 69, 70, 71, 72, 73, 74, 75, 60, 76, 77, 15, 16, 78, 79, 80, 81, 82, 83, 84, 85, 86, 87, 88, 89, 90, 41, 42] (fun (i, acc) => [(14, lint i), (13, .osl 0 0 acc.length 1)]) (fun (i, acc) => [some ⟨3, acc.map lint⟩]) (fun (i, acc) => []) (fun (i, acc) => i ≤ lo.length ∧ i ≤ hi.length ∧ i < T.length ∧ acc.length = i ∧ Q = nGo (lastEnd T) z (T.drop (i + 1)) ((lo.zip hi).drop i) acc) (fun (i, acc) => lo.length - i) (0, []) (fun d => by first | ((simp only [deadS, updS, List.set_cons_succ, List.set_cons_zero, lint, List.length_nil, List.length_cons]); done) | ((simp only [deadS, updS, List.set_cons_succ, List.set_cons_zero, lint, List.length_nil, List.length_cons]); rfl) | rfl) (by first | (with_reducible rfl) | (simp only [hinit]; done) | rfl) (by first | (with_reducible rfl) | rfl) (by first | exact ⟨Nat.zero_le _, Nat.zero_le _, by omega, rfl, hp⟩) ?_; rintro ⟨i, acc⟩ d fr hfr ⟨hi1, hi2, hiT, hacc, hq⟩; simp only [updS, deadS, List.set_cons_succ, List.set_cons_zero, lint] at hfr; subst hfr; (try dsimp only))
      clear hs2 hs3 e1 e2 e3 hf2
      by_cases hlt : i < lo.length ∧ i < hi.length
      · obtain ⟨hl1, hl2⟩ := hlt
        have hs2 : decide ((i : Int) < (lo.length : Int)) = true := decide_eq_true (by omega)
        have hs3 : decide ((i : Int) < (hi.length : Int)) = true := decide_eq_true (by omega)
        rw [zip_drop hl1 hl2] at hq
        by_cases hT2 : i + 1 < T.length
        · have htx := hT.txt (i + 1)
          have hcons : T.drop (i + 1) = T.getD (i + 1) tok0 :: T.drop (i + 1 + 1) := by
            rw [List.drop_eq_getElem_cons hT2, List.getD_eq_getElem?_getD, List.getElem?_eq_getElem hT2]; rfl
          obtain ⟨e1, e2, e3⟩ := tokL_atL (T := T) (k := i + 1) hT2
          have hs6 := e2; have hs7 := e3
          have hs5 : ((i : Int) + 1 == (T.length : Int)) = false := beq_eq_false_iff_ne.2 (by omega)
          have hs8 : ((i : Int) + 1).toNat = i + 1 := by omega
          rw [hcons, nGo] at hq
          dsimp only at hq
          generalize (T.getD (i + 1) tok0).2.1 = p1 at *
          generalize (T.getD (i + 1) tok0).2.2 = tx at *
          have hN := pf_rNumber tx (lo.getD i 0) (hi.getD i 0) htx
          generalize numR tx (lo.getD i 0) (hi.getD i 0) = nr at *
          obtain ⟨x, e⟩ := nr
          dsimp only at hq hN
          by_cases he : e = 0
          · subst he
            rw [if_neg (by simp)] at hq
            (refine Wk.o ?_; (repeat revert hK K); refine We120b ?_; (repeat intro K hK); refine ⟨?_⟩)
            exact whx_ren [2] (i + 1, acc ++ [x]) ⟨by dsimp only; omega, by dsimp only; omega, by dsimp only; omega, by dsimp only; rw [List.length_append, hacc]; rfl, hq⟩ (by dsimp only; omega) rfl (by decide) (by decide) (by (simp (disch := omega) only [go_sem, lint, Nat.reduceEqDiff, List.length_map])) (by (simp (disch := omega) only [go_sem, lint, Nat.reduceEqDiff, List.length_map])) (by (simp (disch := omega) only [go_sem, lint, Nat.reduceEqDiff, List.length_map])) (fun d => by first | ((simp (disch := omega) only [go_sem, lint, Nat.reduceEqDiff, List.length_map]); done) | ((simp (disch := omega) only [go_sem, lint, Nat.reduceEqDiff, List.length_map]); rfl))
          · rw [if_pos he] at hq
            have hs4 : (e != 0) = true := by simpa using he
            (refine Wk.o ?_; (repeat revert hK K); refine We120b ?_; (repeat intro K hK); refine ⟨?_⟩)
            (simp only [bodyX]; refine ⟨_, by simp only [aresults, aresult, XS.as, Tryd.results46, aload, go_sem, Option.bind_some]; rfl, ?_⟩)
            exact ⟨_, Snap.tri snap_i0 (.same _ (.iv _)) (.same _ (.iv _)), by first | rfl | (rw [hq]; done) | (rw [hq]; rfl), trivial⟩
        · have hiL : i = T.length - 1 := by omega
          have hnil : T.drop (i + 1) = [] := List.drop_of_length_le (by omega)
          rw [hnil, nGo] at hq
          obtain ⟨e1, e2, e3⟩ := tokL_atL (T := T) (k := i) (by omega)
          have hpl := hT.pos i
          have htl := hT.txt i
          have hle : lastEnd T = (T.getD i tok0).2.1 + (((T.getD i tok0).2.2.length : Nat) : Int) := by rw [hiL]; rfl
          rw [hle] at hq
          have hs6 := e2; have hs7 := e3
          have hs5 : ((i : Int) + 1 == (T.length : Int)) = true := by rw [beq_iff_eq]; omega
          generalize (T.getD i tok0).2.1 = p1 at *
          generalize (T.getD i tok0).2.2 = tx at *
          (refine Wk.o ?_; (repeat revert hK K); refine We120b ?_; (repeat intro K hK); refine ⟨?_⟩)
          (simp only [bodyX]; refine ⟨_, by simp only [aresults, aresult, XS.as, Tryd.results46, aload, go_sem, Option.bind_some]; rfl, ?_⟩)
          exact ⟨_, Snap.tri snap_i0 (.same _ (.iv _)) (.same _ (.iv _)), by first | rfl | (rw [hq]; done) | (rw [hq]; rfl), trivial⟩
      · have hz : (lo.zip hi).drop i = [] := List.drop_of_length_le (by rw [List.length_zip]; omega)
        rw [hz] at hq
        have key : ∀ b1 b2 : Bool, (b1 && b2) = false → decide ((i : Int) < (lo.length : Int)) = b1 → decide ((i : Int) < (hi.length : Int)) = b2 → True := fun _ _ _ _ _ => trivial
        by_cases hT2 : i + 1 < T.length
        · obtain ⟨e1, e2, e3⟩ := tokL_atL (T := T) (k := i + 1) hT2
          have hs6 := e2
          have hs8 : ((i : Int) + 1).toNat = i + 1 := by omega
          have hs5 : ((T.length : Int) != (i : Int) + 1) = true := by rw [bne_iff_ne]; omega
          have hcons : T.drop (i + 1) = T.getD (i + 1) tok0 :: T.drop (i + 1 + 1) := by
            rw [List.drop_eq_getElem_cons hT2, List.getD_eq_getElem?_getD, List.getElem?_eq_getElem hT2]; rfl
          rw [hcons, nGo] at hq
          generalize (T.getD (i + 1) tok0).2.1 = p1 at *
          have hsb := hacc
          by_cases hA : i < lo.length
          · have hs2 : decide ((i : Int) < (lo.length : Int)) = true := decide_eq_true (by omega)
            have hs3 : decide ((i : Int) < (hi.length : Int)) = false := decide_eq_false (by omega)
            (refine Wk.o ?_; (repeat revert hK K); refine We120b ?_; (repeat intro K hK); refine ⟨?_⟩)
            (simp only [bodyX]; refine ⟨_, by simp only [aresults, aresult, XS.as, Tryd.results46, aload, go_sem, Option.bind_some]; rfl, ?_⟩)
            exact ⟨_, Snap.tri snap_i0 (.same _ (.iv _)) (.same _ (.iv _)), by first | rfl | (rw [hq]; done) | (rw [hq]; rfl), trivial⟩
          · have hs2 : decide ((i : Int) < (lo.length : Int)) = false := decide_eq_false (by omega)
            (refine Wk.o ?_; (repeat revert hK K); refine We120b ?_; (repeat intro K hK); refine ⟨?_⟩)
            (simp only [bodyX]; refine ⟨_, by simp only [aresults, aresult, XS.as, Tryd.results46, aload, go_sem, Option.bind_some]; rfl, ?_⟩)
            exact ⟨_, Snap.tri snap_i0 (.same _ (.iv _)) (.same _ (.iv _)), by first | rfl | (rw [hq]; done) | (rw [hq]; rfl), trivial⟩
        · have hnil : T.drop (i + 1) = [] := List.drop_of_length_le (by omega)
          rw [hnil, nGo] at hq
          have hs5 : ((T.length : Int) != (acc.length : Int) + 1) = false := by rw [bne_eq_false_iff_eq]; omega
          by_cases hA : i < lo.length
          · have hs2 : decide ((i : Int) < (lo.length : Int)) = true := decide_eq_true (by omega)
            have hs3 : decide ((i : Int) < (hi.length : Int)) = false := decide_eq_false (by omega)
            (refine Wk.o ?_; (repeat revert hK K); refine We120b ?_; (repeat intro K hK); refine ⟨?_⟩)
            (simp only [bodyX]; refine ⟨_, by simp only [aresults, aresult, XS.as, Tryd.results46, aload, go_sem, Option.bind_some]; rfl, ?_⟩)
            exact ⟨_, Snap.tri (snap_i rfl rfl) (.same _ (.iv _)) (.same _ (.iv _)), by first | rfl | (rw [hq]; done) | (rw [hq]; rfl), trivial⟩
          · have hs2 : decide ((i : Int) < (lo.length : Int)) = false := decide_eq_false (by omega)
            (refine Wk.o ?_; (repeat revert hK K); refine We120b ?_; (repeat intro K hK); refine ⟨?_⟩)
            (simp only [bodyX]; refine ⟨_, by simp only [aresults, aresult, XS.as, Tryd.results46, aload, go_sem, Option.bind_some]; rfl, ?_⟩)
            exact ⟨_, Snap.tri (snap_i rfl rfl) (.same _ (.iv _)) (.same _ (.iv _)), by first | rfl | (rw [hq]; done) | (rw [hq]; rfl), trivial⟩
    · have hq : nums T w lo hi z = ([], (T.getD 0 tok0).2.1, 8) := by unfold nums; rw [if_neg h0, if_pos hw]
      have hs4 : ((T.getD 0 tok0).2.2 == w) = false := by simpa using hw
      generalize (T.getD 0 tok0).2.1 = f1 at *
      generalize (T.getD 0 tok0).2.2 = f2 at *
      generalize nums T w lo hi z = Q at *
      unfold iTokL
      (refine SF_of_bodyX (aload tt) (aload_ok tyOK) Tryd.func46 rfl (by kernel_rfl) ?_; simp only [Tryd.ntmps46, List.length_cons, List.length_nil, Nat.reduceAdd, Nat.reduceSub, List.replicate_succ, List.replicate_zero, List.cons_append, List.nil_append])
      (refine Wk.o ?_; (repeat revert hK K); refine We120b ?_; (repeat intro K hK); refine ⟨?_⟩)
      (simp only [bodyX]; refine ⟨_, by simp only [aresults, aresult, XS.as, Tryd.results46, aload, go_sem, Option.bind_some]; rfl, ?_⟩)
      exact ⟨_, Snap.tri snap_i0 (.same _ (.iv _)) (.same _ (.iv _)), by first | rfl | (rw [hq]; done) | (rw [hq]; rfl), trivial⟩
end Go.Proofs.YtdaenbgjafalcaaDoor
