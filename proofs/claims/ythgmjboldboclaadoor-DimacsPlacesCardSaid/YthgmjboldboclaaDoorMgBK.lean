import Derived.Test.YthgmjboldboclaaDoorMgBG
import Derived.Test.YthgmjboldboclaaDoorMgBJ
import Derived.Test.YthgmjboldboclaaDoorMgAN
import Derived.Test.YthgmjboldboclaaDoorMgBH
namespace Go.Proofs.YthgmjboldboclaaDoor
open Go.RowKit Go.Lib
set_option linter.unusedVariables false
set_option linter.unusedSimpArgs false
def dz (m : Nat) : List UInt8 := if m = 0 then [] else decDigits m
theorem dz_step {m : Nat} (h : m ≠ 0) : dz m = dz (m / 10) ++ [UInt8.ofNat (48 + m % 10)] := by
  unfold dz
  rw [if_neg h, decDigits]
  by_cases h1 : m < 10
  · rw [dif_pos h1, if_pos (by omega), show m % 10 = m by omega]; rfl
  · rw [dif_neg h1, if_neg (by omega)]
theorem dz_len {m : Nat} (h : m < 18446744073709551616) : (dz m).length ≤ 20 := by
  unfold dz
  by_cases h0 : m = 0
  · rw [if_pos h0]; exact Nat.zero_le _
  · rw [if_neg h0, decDigits_length]
    have := Lib.numDigits_eq m (by omega) h
    split at this <;> omega
theorem ba_mk (l : List UInt8) : (⟨l.toArray⟩ : ByteArray) = ba l := rfl
theorem ba_app (a b : List UInt8) : ba a ++ ba b = ba (a ++ b) := by
  apply ByteArray.ext
  rw [ByteArray.data_append]
  show a.toArray ++ b.toArray = (a ++ b).toArray
  simp
theorem tm_neg (m : Nat) : Int.tmod (-(m : Int)) 10 = -((m % 10 : Nat) : Int) := by rw [Int.neg_tmod]; rfl
theorem td_neg (m : Nat) : Int.tdiv (-(m : Int)) 10 = -((m / 10 : Nat) : Int) := by rw [Int.neg_tdiv]; rfl
theorem itoa_dz {n : Int} (h : n ≠ 0) : itoa n = (if n < 0 then [45] else []) ++ dz n.natAbs := by
  unfold itoa dz
  rw [if_neg (by omega : ¬ n.natAbs = 0)]
  by_cases h1 : n < 0
  · rw [if_pos h1, if_pos h1]; rfl
  · rw [if_neg h1, if_neg h1, show n.toNat = n.natAbs by omega]; rfl
theorem We3caa {A B : Prop} (h9 : B) (w : B → A := by (intro h9; (repeat intro K hK); refine ⟨?_⟩; (repeat (first | (first | (with_reducible first | refine AX_block ?_ | refine AX_skip ?_ | refine AX_exit ?_ | refine AX_ret ?_ | refine AX_ift ?_ | refine AX_iff ?_ | refine AX_seq_k (fun K hK => ?_) | refine ContX.use (by assumption) ?_) | simp only [thenX, inBlockX, if_true, if_false, reduceCtorEq]) | (first | ((with_reducible refine XOP tyOK ?_); simp (disch := omega) only [go_sem , Int.neg_neg, hs1, hs2, hs3, hs4, hs5, ba_mk, ba_app, ba_size, List.cons_append, List.nil_append, List.length_cons, List.length_nil]; (with_reducible refine XRes_id ?_)) | (with_reducible refine XSK ?_)) | ((with_reducible refine XRes_nil ?_); refine hK _ ?_; clear hK K) | ((with_reducible refine AX_reg0 fun K hK => ?_); simp only [go_sem]) | (first | (refine XRes_bs (e := 5) [c] rfl rfl rfl rfl (by kernel_rfl) (by kernel_rfl) (by kernel_rfl) ?_; (simp only [putL, List.set_cons_succ, List.set_cons_zero]))))); refine Wk.o ?_; (repeat revert hK K); exact h9)) : A := w h9
set_option maxRecDepth 100000 in
set_option maxHeartbeats 4000000 in
theorem pf_rDigits (n : Int) (h0 : -9223372036854775808 ≤ n) (h1 : n ≤ 9223372036854775807) : PF Tryd.prog 33 [lt (.int .i64 n)] fun r H' => r = lt (.string (ba (itoa n))) ∧ H' = [] := by
  refine SF.forgetAll ?_
  have hs1 := trivial; have hs2 := trivial; have hs3 := trivial; have hs4 := trivial; have hs5 := trivial; have c := (0 : UInt8)
  by_cases hz : n = 0
  · subst hz
    (refine SF_of_bodyX (aload tt) (aload_ok tyOK) Tryd.func33 rfl (by kernel_rfl) ?_; simp only [Tryd.ntmps33, List.length_cons, List.length_nil, Nat.reduceAdd, Nat.reduceSub, List.replicate_succ, List.replicate_zero, List.cons_append, List.nil_append])
    (refine Wk.o ?_; (repeat revert hK K); refine We3caa ?_; (repeat intro K hK); refine ⟨?_⟩)
    (simp only [bodyX]; refine ⟨_, by simp only [aresults, aresult, XS.as, Tryd.results33, aload, go_sem, Option.bind_some]; rfl, ?_⟩)
    have e0 : itoa 0 = [48] := by unfold itoa; rw [if_neg (by omega), show (0 : Int).toNat = 0 from rfl, decDigits_one (by omega)]; rfl
    exact ⟨.iv _, by rw [e0], trivial⟩
  · (refine SF_of_bodyX (aload tt) (aload_ok tyOK) Tryd.func33 rfl (by kernel_rfl) ?_; simp only [Tryd.ntmps33, List.length_cons, List.length_nil, Nat.reduceAdd, Nat.reduceSub, List.replicate_succ, List.replicate_zero, List.cons_append, List.nil_append])
    (refine Wk.o ?_; (repeat revert hK K); refine We3caa ?_; (repeat intro K hK); refine ⟨?_⟩)
    (refine AWH (σ := Int × List UInt8) [9, 10, 13, 14, 5, 15, 16, 17, 18, 19, 20, 21, 22, 23, 24, 25, 11, 12] (fun (x, out) => [(4, .iv (.lit (.int .i64 x))), (3, .iv (.lit (.string (ba out))))]) (fun (x, out) => []) (fun (x, out) => []) (fun (x, out) => dz n.natAbs = dz x.natAbs ++ out ∧ (n < 0 → x ≤ 0) ∧ (0 < n → 0 ≤ x) ∧ -9223372036854775808 ≤ x ∧ x ≤ 9223372036854775807) (fun (x, out) => x.natAbs) (n, []) (by first | exact ⟨by rw [List.append_nil], fun h => by omega, fun h => by omega, h0, h1⟩) ?_; rintro ⟨x, out⟩ d fr hfr ⟨h2, h3, h4, h5, h6⟩; simp only [updS, deadS, List.set_cons_succ, List.set_cons_zero, lint] at hfr; subst hfr; (try dsimp only))
    have hol : out.length ≤ 20 := by
      have h7 := dz_len (m := n.natAbs) (by omega)
      rw [h2, List.length_append] at h7; omega
    by_cases hx : x = 0
    · have he : out = dz n.natAbs := by rw [h2, hx]; rfl
      by_cases hn : n < 0
      · have hs1 : (⟨#[45]⟩ : ByteArray) = ba [45] := rfl
        (refine Wk.o ?_; (repeat revert hK K); refine We3caa ?_; (repeat intro K hK); refine ⟨?_⟩)
        (simp only [bodyX]; refine ⟨_, by simp only [aresults, aresult, XS.as, Tryd.results33, aload, go_sem, Option.bind_some]; rfl, ?_⟩)
        exact ⟨.iv _, by rw [itoa_dz hz, if_pos hn, he]; rfl, trivial⟩
      · (refine Wk.o ?_; (repeat revert hK K); refine We3caa ?_; (repeat intro K hK); refine ⟨?_⟩)
        (simp only [bodyX]; refine ⟨_, by simp only [aresults, aresult, XS.as, Tryd.results33, aload, go_sem, Option.bind_some]; rfl, ?_⟩)
        exact ⟨.iv _, by rw [itoa_dz hz, if_neg hn, he]; rfl, trivial⟩
    · obtain ⟨m, hm⟩ : ∃ m : Nat, m = x.natAbs := ⟨_, rfl⟩
      have hst := dz_step (m := m) (by omega)
      rw [hm] at hst
      obtain ⟨r, hr⟩ : ∃ r : Nat, r = m % 10 := ⟨_, rfl⟩
      obtain ⟨y, hy⟩ : ∃ y : Nat, y = m / 10 := ⟨_, rfl⟩
      rw [← hm, ← hr, ← hy] at hst
      rw [← hm] at h2
      generalize hc : UInt8.ofNat (48 + r) = c at *
      have hct : c.toNat = 48 + r := by rw [← hc, UInt8.toNat_ofNat']; omega
      have hI2 : dz n.natAbs = dz y ++ (c :: out) := by rw [h2, hst, List.append_assoc]; rfl
      have hs5 : (48 : Int) + (r : Int) = (c.toNat : Int) := by omega
      have hrb : r < 10 := by omega
      have hs4 : IntKind.u8.wrap (c.toNat : Int) = (c.toNat : Int) := by rw [IntKind.wrap_u8]; omega
      by_cases hneg : x < 0
      · have hx2 : x = -(m : Int) := by omega
        have hs1 : Int.tmod x 10 = -(r : Int) := by rw [hx2, tm_neg, hr]
        have hs2 : Int.tdiv x 10 = -(y : Int) := by rw [hx2, td_neg, hy]
        have hI3 : dz n.natAbs = dz (-(y : Int)).natAbs ++ (c :: out) ∧ (n < 0 → -(y : Int) ≤ 0) ∧ (0 < n → 0 ≤ -(y : Int)) ∧ -9223372036854775808 ≤ -(y : Int) ∧ -(y : Int) ≤ 9223372036854775807 := ⟨by rw [show (-(y : Int)).natAbs = y by omega]; exact hI2, fun _ => by omega, fun h => by omega, by omega, by omega⟩
        by_cases hr0 : r = 0
        · have hs5 : (48 : Int) + -(r : Int) = (c.toNat : Int) := by omega
          (refine Wk.o ?_; (repeat revert hK K); refine We3caa ?_; (repeat intro K hK); refine ⟨?_⟩)
          exact whx_ren [] (-(y : Int), c :: out) hI3 (by (first | omega | (dsimp only; omega) | (simp only; omega))) rfl (by decide) (by decide) (by (simp (disch := omega) only [go_sem, lint , Int.neg_neg, hs1, hs2, hs3, hs4, hs5, ba_mk, ba_app, ba_size, List.cons_append, List.nil_append, List.length_cons, List.length_nil])) (by (simp (disch := omega) only [go_sem, lint , Int.neg_neg, hs1, hs2, hs3, hs4, hs5, ba_mk, ba_app, ba_size, List.cons_append, List.nil_append, List.length_cons, List.length_nil])) (by (simp (disch := omega) only [go_sem, lint , Int.neg_neg, hs1, hs2, hs3, hs4, hs5, ba_mk, ba_app, ba_size, List.cons_append, List.nil_append, List.length_cons, List.length_nil])) (fun d => by first | ((simp (disch := omega) only [go_sem, lint , Int.neg_neg, hs1, hs2, hs3, hs4, hs5, ba_mk, ba_app, ba_size, List.cons_append, List.nil_append, List.length_cons, List.length_nil]); done) | ((simp (disch := omega) only [go_sem, lint , Int.neg_neg, hs1, hs2, hs3, hs4, hs5, ba_mk, ba_app, ba_size, List.cons_append, List.nil_append, List.length_cons, List.length_nil]); rfl))
        · (refine Wk.o ?_; (repeat revert hK K); refine We3caa ?_; (repeat intro K hK); refine ⟨?_⟩)
          exact whx_ren [] (-(y : Int), c :: out) hI3 (by (first | omega | (dsimp only; omega) | (simp only; omega))) rfl (by decide) (by decide) (by (simp (disch := omega) only [go_sem, lint , Int.neg_neg, hs1, hs2, hs3, hs4, hs5, ba_mk, ba_app, ba_size, List.cons_append, List.nil_append, List.length_cons, List.length_nil])) (by (simp (disch := omega) only [go_sem, lint , Int.neg_neg, hs1, hs2, hs3, hs4, hs5, ba_mk, ba_app, ba_size, List.cons_append, List.nil_append, List.length_cons, List.length_nil])) (by (simp (disch := omega) only [go_sem, lint , Int.neg_neg, hs1, hs2, hs3, hs4, hs5, ba_mk, ba_app, ba_size, List.cons_append, List.nil_append, List.length_cons, List.length_nil])) (fun d => by first | ((simp (disch := omega) only [go_sem, lint , Int.neg_neg, hs1, hs2, hs3, hs4, hs5, ba_mk, ba_app, ba_size, List.cons_append, List.nil_append, List.length_cons, List.length_nil]); done) | ((simp (disch := omega) only [go_sem, lint , Int.neg_neg, hs1, hs2, hs3, hs4, hs5, ba_mk, ba_app, ba_size, List.cons_append, List.nil_append, List.length_cons, List.length_nil]); rfl))
      · have hx2 : x = (m : Int) := by omega
        have hs1 : Int.tmod x 10 = (r : Int) := by rw [hx2, hr]; rfl
        have hs2 : Int.tdiv x 10 = (y : Int) := by rw [hx2, hy]; rfl
        have hI3 : dz n.natAbs = dz (y : Int).natAbs ++ (c :: out) ∧ (n < 0 → (y : Int) ≤ 0) ∧ (0 < n → 0 ≤ (y : Int)) ∧ -9223372036854775808 ≤ (y : Int) ∧ (y : Int) ≤ 9223372036854775807 := ⟨by rw [show (y : Int).natAbs = y by omega]; exact hI2, fun _ => by omega, fun h => by omega, by omega, by omega⟩
        (refine Wk.o ?_; (repeat revert hK K); refine We3caa ?_; (repeat intro K hK); refine ⟨?_⟩)
        exact whx_ren [] ((y : Int), c :: out) hI3 (by (first | omega | (dsimp only; omega) | (simp only; omega))) rfl (by decide) (by decide) (by (simp (disch := omega) only [go_sem, lint , Int.neg_neg, hs1, hs2, hs3, hs4, hs5, ba_mk, ba_app, ba_size, List.cons_append, List.nil_append, List.length_cons, List.length_nil])) (by (simp (disch := omega) only [go_sem, lint , Int.neg_neg, hs1, hs2, hs3, hs4, hs5, ba_mk, ba_app, ba_size, List.cons_append, List.nil_append, List.length_cons, List.length_nil])) (by (simp (disch := omega) only [go_sem, lint , Int.neg_neg, hs1, hs2, hs3, hs4, hs5, ba_mk, ba_app, ba_size, List.cons_append, List.nil_append, List.length_cons, List.length_nil])) (fun d => by first | ((simp (disch := omega) only [go_sem, lint , Int.neg_neg, hs1, hs2, hs3, hs4, hs5, ba_mk, ba_app, ba_size, List.cons_append, List.nil_append, List.length_cons, List.length_nil]); done) | ((simp (disch := omega) only [go_sem, lint , Int.neg_neg, hs1, hs2, hs3, hs4, hs5, ba_mk, ba_app, ba_size, List.cons_append, List.nil_append, List.length_cons, List.length_nil]); rfl))
end Go.Proofs.YthgmjboldboclaaDoor
namespace Go.Proofs.YthgmjboldboclaaDoor
open Go.RowKit Go.Lib
set_option linter.unusedVariables false
set_option linter.unusedSimpArgs false
theorem W05f7a {A B : Prop} (h9 : B) (w : B → A := by (intro h9; (repeat intro K hK); refine ⟨?_⟩; (repeat (first | (first | (with_reducible first | refine AX_block ?_ | refine AX_skip ?_ | refine AX_exit ?_ | refine AX_ret ?_ | refine AX_ift ?_ | refine AX_iff ?_ | refine AX_seq_k (fun K hK => ?_) | refine ContX.use (by assumption) ?_) | simp only [thenX, inBlockX, if_true, if_false, reduceCtorEq]) | (first | ((with_reducible refine XOP tyOK ?_); simp (disch := omega) only [go_sem , hs1, hs2, hs3, hs4, hs5, hs6, hs7, hs8, hs9, Int.toNat_natCast, ba_size, u8C_len, List.length_append, List.length_set, List.length_nil, List.length_cons]; (with_reducible refine XRes_id ?_)) | (with_reducible refine XSK ?_)) | ((with_reducible refine XRes_nil ?_); refine hK _ ?_; clear hK K) | ((with_reducible refine AX_reg0 fun K hK => ?_); simp only [go_sem]) | (first | (first | refine XTL (by rfl) hD ?_ | refine XTL (by rfl) hE ?_ | refine XTL (by rfl) hH ?_ | refine XTL (by rfl) hk ?_)))); refine Wk.o ?_; (repeat revert hK K); exact h9)) : A := w h9
set_option maxRecDepth 100000 in
set_option maxHeartbeats 4000000 in
theorem pf_Head6 (v c : Int) (hv : Fit v) (hc : Fit c) : PF Tryd.prog 14 [lt (.int .i64 v), lt (.int .i64 c)] fun r H' => r = lt (.string (ba (headB v c))) ∧ H' = [] := by
  refine SF.forgetAll ?_
  have hs1 := trivial; have hs2 := trivial; have hs3 := trivial; have hs4 := trivial; have hs5 := trivial; have hs6 := trivial; have hs7 := trivial; have hs8 := trivial; have hs9 := trivial; have hD := trivial; have hE := trivial; have hH := trivial; have hk := trivial
  have hD := pf_Digits v hv.1 hv.2
  have hE := pf_Digits c hc.1 hc.2
  have l1 := itoa_length_le v hv.1 hv.2
  have l2 := itoa_length_le c hc.1 hc.2
  have hs1 : (⟨#[112, 32, 99, 110, 102, 32]⟩ : ByteArray) = ba [112, 32, 99, 110, 102, 32] := rfl
  have hs2 : (⟨#[32]⟩ : ByteArray) = ba [32] := rfl
  have hs3 : (⟨#[10]⟩ : ByteArray) = ba [10] := rfl
  have hs4 := ba_app
  (refine SF_of_bodyX (aload tt) (aload_ok tyOK) Tryd.func14 rfl (by kernel_rfl) ?_; simp only [Tryd.ntmps14, List.length_cons, List.length_nil, Nat.reduceAdd, Nat.reduceSub, List.replicate_succ, List.replicate_zero, List.cons_append, List.nil_append])
  (refine Wk.o ?_; (repeat revert hK K); refine W05f7a ?_; (repeat intro K hK); refine ⟨?_⟩)
  (simp only [bodyX]; refine ⟨_, by simp only [aresults, aresult, XS.as, Tryd.results14, aload, go_sem, Option.bind_some]; rfl, ?_⟩)
  exact ⟨ids_idB rfl, by unfold headB; simp, trivial⟩
set_option maxRecDepth 100000 in
set_option maxHeartbeats 4000000 in
theorem pf_rHead6 (v c : Int) (hv : Fit v) (hc : Fit c) : PF Tryd.prog 15 [lt (.int .i64 v), lt (.int .i64 c)] fun r H' => r = lt (.string (ba (headB v c))) ∧ H' = [] := by
  refine SF.forgetAll ?_
  have hs1 := trivial; have hs2 := trivial; have hs3 := trivial; have hs4 := trivial; have hs5 := trivial; have hs6 := trivial; have hs7 := trivial; have hs8 := trivial; have hs9 := trivial; have hD := trivial; have hE := trivial; have hH := trivial; have hk := trivial
  have hD := pf_rDigits v hv.1 hv.2
  have hE := pf_rDigits c hc.1 hc.2
  have l1 := itoa_length_le v hv.1 hv.2
  have l2 := itoa_length_le c hc.1 hc.2
  have hs1 : (⟨#[112, 32, 99, 110, 102, 32]⟩ : ByteArray) = ba [112, 32, 99, 110, 102, 32] := rfl
  have hs2 : (⟨#[32]⟩ : ByteArray) = ba [32] := rfl
  have hs3 : (⟨#[10]⟩ : ByteArray) = ba [10] := rfl
  have hs4 := ba_app
  (refine SF_of_bodyX (aload tt) (aload_ok tyOK) Tryd.func15 rfl (by kernel_rfl) ?_; simp only [Tryd.ntmps15, List.length_cons, List.length_nil, Nat.reduceAdd, Nat.reduceSub, List.replicate_succ, List.replicate_zero, List.cons_append, List.nil_append])
  (refine Wk.o ?_; (repeat revert hK K); refine W05f7a ?_; (repeat intro K hK); refine ⟨?_⟩)
  (simp only [bodyX]; refine ⟨_, by simp only [aresults, aresult, XS.as, Tryd.results15, aload, go_sem, Option.bind_some]; rfl, ?_⟩)
  exact ⟨ids_idB rfl, by unfold headB; simp, trivial⟩
set_option maxRecDepth 100000 in
set_option maxHeartbeats 4000000 in
theorem sf_blen {H : AHeap} {o q n : Nat} {p : AV} (ho : H[o]? = some (some ⟨bT, [p, .osl q 0 n 1]⟩)) : SF Tryd.prog 30 [.xptr o 2] H fun r H' => r = lt (.int .i64 (n : Int)) ∧ H' = H := by
  have hs1 := trivial; have hs2 := trivial; have hs3 := trivial; have hs4 := trivial; have hs5 := trivial; have hs6 := trivial; have hs7 := trivial; have hs8 := trivial; have hs9 := trivial; have hD := trivial; have hE := trivial; have hH := trivial; have hk := trivial
  have hs1 := ho
  (refine SF_of_bodyX (aload tt) (aload_ok tyOK) Tryd.func30 rfl (by kernel_rfl) ?_; simp only [Tryd.ntmps30, List.length_cons, List.length_nil, Nat.reduceAdd, Nat.reduceSub, List.replicate_succ, List.replicate_zero, List.cons_append, List.nil_append])
  (refine Wk.o ?_; (repeat revert hK K); refine W05f7a ?_; (repeat intro K hK); refine ⟨?_⟩)
  (simp only [bodyX]; refine ⟨_, by simp only [aresults, aresult, XS.as, Tryd.results30, aload, go_sem, Option.bind_some]; rfl, ?_⟩)
  exact ⟨rfl, trivial⟩
end Go.Proofs.YthgmjboldboclaaDoor
namespace Go.Proofs.YthgmjboldboclaaDoor
open Go.RowKit Go.Lib
set_option linter.unusedVariables false
set_option linter.unusedSimpArgs false
attribute [go_sem] rnL_tokC idL_tokC tokC_len
theorem W988da {A B : Prop} (h9 : B) (w : B → A := by (intro h9; (repeat intro K hK); refine ⟨?_⟩; (repeat (first | (first | (with_reducible first | refine AX_block ?_ | refine AX_skip ?_ | refine AX_exit ?_ | refine AX_ret ?_ | refine AX_ift ?_ | refine AX_iff ?_ | refine AX_seq_k (fun K hK => ?_) | refine ContX.use (by assumption) ?_) | simp only [thenX, inBlockX, if_true, if_false, reduceCtorEq]) | (first | ((first | (with_reducible refine XRes_op tyOK ?_ ?_) | ((with_reducible first | refine ADF_op tyOK ?_ ?_ ?_ | refine ADX_op tyOK ?_ ?_ ?_); (focus rfl)) | (with_reducible refine ADR_alloc1 tyOK ?_ ?_) | ((with_reducible refine ADR_free1 tyOK ?_ ?_ ?_); (focus rfl)) | ((with_reducible refine ADR_free0 tyOK ?_ ?_ ?_); (focus rfl)) | ((with_reducible refine ADR_read1 tyOK ?_ ?_ ?_); (focus rfl)) | (with_reducible refine ADR_chg1 tyOK ?_ ?_)); (focus (first | (with_reducible rfl) | ((simp (disch := omega) only [go_sem]); done))); simp (disch := omega) only [go_sem , hs1, hs2, hs3, hs4, hs5, hs6, Int.toNat_natCast, ba_size, Nat.zero_add]; (first | (with_reducible refine XRes_id ?_) | (with_reducible refine ADF_id ?_) | (with_reducible refine ADR_id1 ?_) | (with_reducible refine ADX_id ?_))) | ((first | (with_reducible refine XRes_skip ?_ ?_) | (with_reducible refine ADF_skip (b := true) ?_ ?_) | (with_reducible refine ADX_skip ?_ ?_) | ((with_reducible refine ADR_skip1 ?_ ?_ ?_); (focus rfl))); (focus (first | rfl | ((simp (disch := omega) only [go_sem]); done))); (simp only [putL, List.set_cons_succ, List.set_cons_zero]))) | ((first | (with_reducible refine XRes_nil ?_) | (with_reducible refine ADF_nil ?_) | (with_reducible refine ADR_nil ?_) | (with_reducible refine ADX_nil ?_)); (first | refine hK _ ?_ | refine hK _ _ ?_); clear hK K) | ((first | (with_reducible refine AX_reg0 fun K hK => ?_) | (refine AX_drawG1 tyOK (by kernel_rfl) (by rfl) (by kernel_rfl) fun K hK => ?_) | (refine AX_drawT tyOK (by kernel_rfl) (by decide +kernel) fun K hK => ?_) | (refine AX_drawM1 (by kernel_rfl) (by rfl) (by decide +kernel) fun K hK => ?_) | (refine AX_drawA tyOK (by kernel_rfl) (by decide +kernel) fun K hK => ?_)); (first | simp only [go_sem, preN, effOp, runF, alM, mapOp, alD2, kdOf2, Bool.not_false, Bool.not_true, reduceCtorEq] | simp only [go_sem, preN, effOp, runF, alM, mapOp, Bool.not_false, Bool.not_true, reduceCtorEq] | simp only [go_sem, preN, effOp, runF, alD2, kdOf2, Bool.not_false, Bool.not_true, reduceCtorEq] | simp only [go_sem, alD2, kdOf2, Bool.not_false, Bool.not_true, reduceCtorEq] | simp only [go_sem, preN, effOp, runF, Bool.not_false, Bool.not_true, reduceCtorEq] | simp only [go_sem])) | (first | fail))); refine Wk.o ?_; (repeat revert hK K); exact h9)) : A := w h9
set_option maxRecDepth 100000 in
set_option maxHeartbeats 4000000 in
theorem sf_at (T : List Tok3) (k : Nat) (z f w : Int) (X : AHeap) (hT : T.length ≤ 1000000) : SF Tryd.prog 22 [.optr 0 0] ((some ⟨53, [.osl 1 0 T.length 3, lt (.int .i64 k), lt (.int .i64 z), lt (.int .i64 f), lt (.int .i64 w)]⟩) :: (some ⟨47, tokC T⟩) :: X) fun r H' => r = lt (.int .i64 (rdAt T z k)) ∧ H' = (some ⟨53, [.osl 1 0 T.length 3, lt (.int .i64 k), lt (.int .i64 z), lt (.int .i64 f), lt (.int .i64 w)]⟩) :: (some ⟨47, tokC T⟩) :: X := by
  have hs1 := trivial; have hs2 := trivial; have hs3 := trivial; have hs4 := trivial; have hs5 := trivial; have hs6 := trivial
  by_cases hk : k < T.length
  · obtain ⟨g1, g2, g3⟩ := tokC_at hk
    rw [show rdAt T z k = (T.getD k tok0).2.1 from if_pos hk]
    have hs1 := g1; have hs2 := g2; have hs3 := g3
    (refine SF_of_bodyX (aload tt) (aload_ok tyOK) Tryd.func22 rfl (by kernel_rfl) ?_; simp only [Tryd.ntmps22, List.length_cons, List.length_nil, Nat.reduceAdd, Nat.reduceSub, List.replicate_succ, List.replicate_zero, List.cons_append, List.nil_append])
    (refine Wk.o ?_; (repeat revert hK K); refine W988da ?_; (repeat intro K hK); refine ⟨?_⟩)
    (simp only [bodyX]; refine ⟨_, by simp only [aresults, aresult, XS.as, Tryd.results22, aload, go_sem, Option.bind_some]; rfl, ?_⟩)
    exact ⟨rfl, by first | trivial | rfl⟩
  · rw [show rdAt T z k = z from if_neg hk]
    (refine SF_of_bodyX (aload tt) (aload_ok tyOK) Tryd.func22 rfl (by kernel_rfl) ?_; simp only [Tryd.ntmps22, List.length_cons, List.length_nil, Nat.reduceAdd, Nat.reduceSub, List.replicate_succ, List.replicate_zero, List.cons_append, List.nil_append])
    (refine Wk.o ?_; (repeat revert hK K); refine W988da ?_; (repeat intro K hK); refine ⟨?_⟩)
    (simp only [bodyX]; refine ⟨_, by simp only [aresults, aresult, XS.as, Tryd.results22, aload, go_sem, Option.bind_some]; rfl, ?_⟩)
    exact ⟨rfl, by first | trivial | rfl⟩
end Go.Proofs.YthgmjboldboclaaDoor
