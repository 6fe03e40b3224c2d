import Derived.Test.YtfpmfjmjnmjcdaaMgBB
import Derived.Test.YtfpmfjmjnmjcdaaMgAW
import Derived.Test.YtfpmfjmjnmjcdaaMgBC
import Derived.Maps.RangeWalk
import Derived.OpenShut
import Derived.Test.YtfpmfjmjnmjcdaaMgAR
import Derived.Test.YtfpmfjmjnmjcdaaMgAV
import Derived.Test.YtfpmfjmjnmjcdaaMgAT
namespace Go.Proofs.Ytfpmfjmjnmjcdaa
open Go.RowKit
set_option linter.unusedVariables false
set_option linter.unusedSimpArgs false
theorem W510ba {A B : Prop} (h9 : B) (w : B → A := by (intro h9; (repeat intro K hK); refine ⟨?_⟩; (repeat (first | (first | (with_reducible first | refine AX_block ?_ | refine AX_skip ?_ | refine AX_exit ?_ | refine AX_ret ?_ | refine AX_ift ?_ | refine AX_iff ?_ | refine AX_seq_k (fun K hK => ?_) | refine ContX.use (by assumption) ?_) | simp only [thenX, inBlockX, if_true, if_false, reduceCtorEq]) | (first | ((first | (with_reducible refine XRes_op tyOK ?_ ?_) | ((with_reducible first | refine ADF_op tyOK ?_ ?_ ?_ | refine ADX_op tyOK ?_ ?_ ?_); (focus rfl)) | (with_reducible refine ADR_alloc1 tyOK ?_ ?_) | ((with_reducible refine ADR_free1 tyOK ?_ ?_ ?_); (focus rfl)) | ((with_reducible refine ADR_free0 tyOK ?_ ?_ ?_); (focus rfl)) | ((with_reducible refine ADR_read1 tyOK ?_ ?_ ?_); (focus rfl)) | (with_reducible refine ADR_chg1 tyOK ?_ ?_)); (focus (first | (with_reducible rfl) | ((simp (disch := omega) only [go_sem]); done))); simp (disch := omega) only [go_sem , List.length_set, hs1, hs2, hs3, hs4, hs5, hs6, hs7, Int.toNat_zero, Int.toNat_one, List.length_nil, hT1, hT2, hT3]; (first | (with_reducible refine XRes_id ?_) | (with_reducible refine ADF_id ?_) | (with_reducible refine ADR_id1 ?_) | (with_reducible refine ADX_id ?_))) | ((first | (with_reducible refine XRes_skip ?_ ?_) | (with_reducible refine ADF_skip (b := true) ?_ ?_) | (with_reducible refine ADX_skip ?_ ?_) | ((with_reducible refine ADR_skip1 ?_ ?_ ?_); (focus rfl))); (focus (first | rfl | ((simp (disch := omega) only [go_sem]); done))); (simp only [putL, List.set_cons_succ, List.set_cons_zero]))) | ((first | (with_reducible refine XRes_nil ?_) | (with_reducible refine ADF_nil ?_) | (with_reducible refine ADR_nil ?_) | (with_reducible refine ADX_nil ?_)); (first | refine hK _ ?_ | refine hK _ _ ?_); clear hK K) | ((first | (with_reducible refine AX_reg0 fun K hK => ?_) | (refine AX_drawG1 tyOK (by kernel_rfl) (by rfl) (by kernel_rfl) fun K hK => ?_) | (refine AX_drawT tyOK (by kernel_rfl) (by decide +kernel) fun K hK => ?_) | (refine AX_drawM1 (by kernel_rfl) (by rfl) (by decide +kernel) fun K hK => ?_) | (refine AX_drawA tyOK (by kernel_rfl) (by decide +kernel) fun K hK => ?_)); (first | simp only [go_sem, preN, effOp, runF, alM, mapOp, alD2, kdOf2, Bool.not_false, Bool.not_true, reduceCtorEq] | simp only [go_sem, preN, effOp, runF, alM, mapOp, Bool.not_false, Bool.not_true, reduceCtorEq] | simp only [go_sem, preN, effOp, runF, alD2, kdOf2, Bool.not_false, Bool.not_true, reduceCtorEq] | simp only [go_sem, alD2, kdOf2, Bool.not_false, Bool.not_true, reduceCtorEq] | simp only [go_sem, preN, effOp, runF, Bool.not_false, Bool.not_true, reduceCtorEq] | simp only [go_sem])) | (first | (first | refine XTL (by rfl) hC ?_ | refine ATL tyOK (by rfl) hC ?_) | ((refine XRes_say rfl hS2 (SnapL.cons (snap_ints rfl rfl) (SnapL.cons (snap_ints rfl rfl) (SnapL.nil _))) ?_); (simp only [putL, List.set_cons_succ, List.set_cons_zero])) | ((refine XRes_fn (by rfl) (qV1 _ ⟨rfl, rfl, rfl, rfl, rfl⟩) ?_); (rintro r H' ⟨rfl, rfl⟩); (simp only [putL, List.set_cons_succ, List.set_cons_zero])) | ((refine XRes_fn (by rfl) (qV2 _ ⟨rfl, rfl, rfl, rfl, rfl⟩) ?_); (rintro r H' ⟨rfl, rfl⟩); (simp only [putL, List.set_cons_succ, List.set_cons_zero])) | ((refine XRes_fn (by rfl) (qV3 _ ⟨rfl, rfl, rfl, rfl, rfl⟩) ?_); (rintro r H' ⟨rfl, rfl⟩); (simp only [putL, List.set_cons_succ, List.set_cons_zero])) | ((refine XRes_fn (by rfl) (qL1 _ ⟨rfl, rfl, rfl, rfl, rfl⟩) ?_); (rintro r H' ⟨rfl, rfl⟩); (simp only [putL, List.set_cons_succ, List.set_cons_zero])) | ((refine XRes_fn (by rfl) (qL2 _ ⟨rfl, rfl, rfl, rfl, rfl⟩) ?_); (rintro r H' ⟨rfl, rfl⟩); (simp only [putL, List.set_cons_succ, List.set_cons_zero])) | ((refine XRes_fn (by rfl) (qR1 _ ⟨rfl, rfl, rfl, rfl, rfl⟩) ?_); (rintro r H' ⟨rfl, rfl⟩); (simp only [putL, List.set_cons_succ, List.set_cons_zero])) | ((refine XRes_fn (by rfl) (qR2 _ ⟨rfl, rfl, rfl, rfl, rfl⟩) ?_); (rintro r H' ⟨rfl, rfl⟩); (simp only [putL, List.set_cons_succ, List.set_cons_zero])) | ((refine XRes_fn (by rfl) (qP _ ⟨rfl, rfl, rfl, rfl, rfl⟩) ?_); (rintro r H' ⟨rfl, rfl⟩); (simp only [putL, List.set_cons_succ, List.set_cons_zero])) | ((refine XRes_fn (by rfl) (qD _ ⟨rfl, rfl, rfl, rfl, rfl⟩) ?_); (rintro r H' ⟨rfl, rfl⟩); (simp only [putL, List.set_cons_succ, List.set_cons_zero])) | ((refine XRes_fn (by rfl) (qO _ ⟨rfl, rfl, rfl, rfl, rfl⟩) ?_); (rintro r H' ⟨rfl, rfl⟩); (simp only [putL, List.set_cons_succ, List.set_cons_zero])) | ((refine XRes_fn (by rfl) (pf_tDecide0 _ 1) ?_); (rintro r H' ⟨rfl, rfl⟩); (simp only [putL, List.set_cons_succ, List.set_cons_zero])) | ((refine XRes_fn (by rfl) (pf_tLevel0 _ 1) ?_); (rintro r H' ⟨rfl, rfl⟩); (simp only [putL, List.set_cons_succ, List.set_cons_zero]))))); refine Wk.o ?_; (repeat revert hK K); exact h9)) : A := w h9
set_option maxRecDepth 100000 in
set_option maxHeartbeats 1000000 in
theorem pf_tDecide0 (H : AHeap) (x : Int) : SF Try.prog 21 [lt (.pointer none), lt (.int .i64 x)] H fun r H' => r = lt (.int .i64 1) ∧ H' = H := by
  have hs1 := trivial; have hs2 := trivial; have hs3 := trivial; have hs4 := trivial; have hs5 := trivial; have hs6 := trivial; have hs7 := trivial; have hT1 := trivial; have hT2 := trivial; have hT3 := trivial
  have hC := trivial; have hD := trivial
  have hM := pf_tmay0 H x
  (refine SF_of_bodyX (aload tt) (aload_ok tyOK) Try.func21 rfl (by kernel_rfl) ?_; simp only [Try.ntmps21, List.length_cons, List.length_nil, Nat.reduceAdd, Nat.reduceSub, List.replicate_succ, List.replicate_zero, List.cons_append, List.nil_append])
  (refine Wk.o ?_; (repeat revert hK K); refine W510ba ?_; (repeat intro K hK); refine ⟨?_⟩)
  refine XRes_fn (by rfl) hM ?_
  rintro r H' ⟨rfl, rfl⟩
  (simp only [putL, List.set_cons_succ, List.set_cons_zero])
  (refine Wk.o ?_; (repeat revert hK K); refine W510ba ?_; (repeat intro K hK); refine ⟨?_⟩)
  (simp only [bodyX]; refine ⟨_, by simp only [aresults, aresult, XS.as, Try.results21, aload, go_sem, Option.bind_some]; rfl, ?_⟩)
  exact ⟨rfl, trivial⟩
theorem tr_of {n : Nat} {L St Of Vl lv rs : List Int} (hT : TrS n L St Of Vl lv rs) (i : Nat) (v : Int) (hi : i < L.length) (hv : lvar (L.getD i 0) = v) (h1 : 1 ≤ v) (h2 : v ≤ n) (h3 : tv L v ≠ 0) : trLevel n L Of v = lv.getD i 0 ∧ trReason n L Of v = rs.getD i 0 ∧ trPlace n L Of v = i := by
  have h := hT.of i hi
  rw [hv] at h
  unfold trLevel trReason trPlace
  rw [if_pos ⟨h1, h2, h3⟩, if_pos ⟨h1, h2, h3⟩, if_pos ⟨h1, h2, h3⟩]
  exact ⟨h.1, h.2.1, h.2.2⟩
set_option maxRecDepth 100000 in
set_option maxHeartbeats 4000000 in
theorem pf_awake13 : PF Try.prog 5 [] fun r H' => r = lt (.bool true) ∧ H' = [] := by
  refine SF.forgetAll ?_
  have hs1 := trivial; have hs2 := trivial; have hs3 := trivial; have hs4 := trivial; have hs5 := trivial; have hs6 := trivial; have hs7 := trivial; have hT1 := trivial; have hT2 := trivial; have hT3 := trivial
  have hC := trivial; have hD := trivial
  have hN := pf_tNew 3 (by omega)
  have hC := pf_tNewNo (-1) (.inl (by omega))
  (refine SF_of_bodyX (aload tt) (aload_ok tyOK) Try.func5 rfl (by kernel_rfl) ?_; simp only [Try.ntmps5, List.length_cons, List.length_nil, Nat.reduceAdd, Nat.reduceSub, List.replicate_succ, List.replicate_zero, List.cons_append, List.nil_append])
  (refine Wk.o ?_; (repeat revert hK K); refine W510ba ?_; (repeat intro K hK); refine ⟨?_⟩)
  refine XRes_fn (by rfl) hN ?_
  rintro r H' ⟨rfl, Of, Vl, rfl, hT⟩
  (simp only [putL, List.set_cons_succ, List.set_cons_zero])
  (refine Wk.o ?_; (repeat revert hK K); refine W510ba ?_; (repeat intro K hK); refine ⟨?_⟩)
  refine XRes_fn (by rfl) (pf_DecideYes hT (by simp) (by simp) 1 (by decide)) ?_
  rintro r H' ⟨rfl, Of1, Vl1, a1, b1, rfl, hT1⟩
  unfold hD13
  (simp only [putL, List.set_cons_succ, List.set_cons_zero])
  clear hT
  simp only [List.nil_append, List.length_nil, Nat.zero_add] at hT1 ⊢
  refine XRes_ren [0, 1, 2, 8, 6] [] ?fr1 (hT13 3 [1] [0] Of1 Vl1) (by decide) (by decide) (by (simp (disch := omega) only [go_sem, lint])) (by (simp (disch := omega) only [go_sem, lint])) (by (simp (disch := omega) only [go_sem, lint]); rfl) ?hfr1 (fun d2 => ?_)
  case hfr1 => (simp (disch := omega) only [go_sem, lint]); rfl
  simp only [deadS]
  unfold hT13
  (refine Wk.o ?_; (repeat revert hK K); refine W510ba ?_; (repeat intro K hK); refine ⟨?_⟩)
  refine XRes_fn (by rfl) (pf_ImplyYes hT1 (by simp) (by simp) 2 7 (by decide)) ?_
  rintro r H' ⟨rfl, Of2, Vl2, b2, rfl, hT2⟩
  unfold hI13
  (simp only [putL, List.set_cons_succ, List.set_cons_zero])
  clear hT1
  simp only [List.cons_append, List.nil_append, List.length_cons, List.length_nil, Nat.zero_add] at hT2 ⊢
  refine XRes_ren [0, 1, 2, 6, 4] [] ?fr2 (hT13 3 [1, 2] [0] Of2 Vl2) (by decide) (by decide) (by (simp (disch := omega) only [go_sem, lint])) (by (simp (disch := omega) only [go_sem, lint])) (by (simp (disch := omega) only [go_sem, lint]); rfl) ?hfr2 (fun d2 => ?_)
  case hfr2 => (simp (disch := omega) only [go_sem, lint]); rfl
  simp only [deadS]
  unfold hT13
  have hT1 := trivial
  (refine Wk.o ?_; (repeat revert hK K); refine W510ba ?_; (repeat intro K hK); refine ⟨?_⟩)
  refine XRes_fn (by rfl) (pf_DecideYes hT2 (by simp) (by simp) (-3) (by decide)) ?_
  rintro r H' ⟨rfl, Of3, Vl3, a3, b3, rfl, hT3⟩
  unfold hD13
  (simp only [putL, List.set_cons_succ, List.set_cons_zero])
  clear hT2
  simp only [List.cons_append, List.nil_append, List.length_cons, List.length_nil, Nat.zero_add] at hT3 ⊢
  refine XRes_ren [0, 1, 2, 8, 6] [] ?fr3 (hT13 3 [1, 2, -3] [0, 2] Of3 Vl3) (by decide) (by decide) (by (simp (disch := omega) only [go_sem, lint])) (by (simp (disch := omega) only [go_sem, lint])) (by (simp (disch := omega) only [go_sem, lint]); rfl) ?hfr3 (fun d2 => ?_)
  case hfr3 => (simp (disch := omega) only [go_sem, lint]); rfl
  simp only [deadS]
  unfold hT13
  have hT2 := trivial
  (refine Wk.o ?_; (repeat revert hK K); refine W510ba ?_; (repeat intro K hK); refine ⟨?_⟩)
  refine XRes_fn (by rfl) (pf_DecideNo hT3 (by simp) (by simp) 3 (by decide)) ?_
  rintro r H' ⟨rfl, rfl⟩
  rw [show mayE 3 [1, 2, -3] 3 = 21 by decide]
  unfold hT13
  (simp only [putL, List.set_cons_succ, List.set_cons_zero])
  (refine Wk.o ?_; (repeat revert hK K); refine W510ba ?_; (repeat intro K hK); refine ⟨?_⟩)
  refine XRes_fn (by rfl) (pf_ImplyNo hT3 (by simp) (by simp) 4 0 (by decide)) ?_
  rintro r H' ⟨rfl, rfl⟩
  rw [show impE 3 [1, 2, -3] 4 0 = 10 by decide]
  unfold hT13
  (simp only [putL, List.set_cons_succ, List.set_cons_zero])
  (refine Wk.o ?_; (repeat revert hK K); refine W510ba ?_; (repeat intro K hK); refine ⟨?_⟩)
  refine XRes_fn (by rfl) (pf_tLits (q1 := 3) (q2 := 4) ⟨rfl, rfl, rfl, rfl, rfl⟩ hT3 (by simp)) ?_
  rintro r H' ⟨rfl, rfl⟩
  (simp only [putL, List.set_cons_succ, List.set_cons_zero])
  (refine Wk.o ?_; (repeat revert hK K); refine W510ba ?_; (repeat intro K hK); refine ⟨?_⟩)
  refine XRes_fn (by rfl) (pf_BackYx hT3 (by simp) (by simp) 1 (by decide) _) ?_
  rintro r H' ⟨k0, V, hk, _, rfl, rfl, hT4⟩
  obtain rfl : k0 = 2 := by have : (2 : Int) = k0 := hk; omega
  change TrS 3 [1, 2] [0] Of3 V [1, 1] [-1, 7] at hT4
  clear hT3 hk
  have hT3 := trivial
  unfold hB13x
  change XRes _ _ _ (_, ⟨putL _ _ (.osl 7 0 1 1), [some ⟨73, Of3.map lint⟩, some ⟨70, V.map l8⟩, some ⟨57, [.osl 3 0 2 1, .osl 4 0 1 1, .osl 0 0 4 3, .osl 1 0 V.length 1, lt (.bool true)]⟩, some ⟨3, [lint 1, lint 2]⟩, some ⟨3, [lint 0]⟩, some ⟨3, [lint 1, lint 2, lint (-3)]⟩, some ⟨24, [.optr 2 0]⟩, some ⟨3, [lint (-3)]⟩], _⟩)
  (simp only [putL, List.set_cons_succ, List.set_cons_zero])
  obtain ⟨o1, o2, o3⟩ := tr_of hT4 0 1 (by decide) (by decide) (by decide) (by decide) (by decide)
  obtain ⟨o4, o5, o6⟩ := tr_of hT4 1 2 (by decide) (by decide) (by decide) (by decide) (by decide)
  have o7 : trLevel 3 [1, 2] Of3 3 = -1 := by unfold trLevel; rw [if_neg]; exact fun h => h.2.2 (by decide)
  change trLevel 3 [1, 2] Of3 1 = 1 at o1
  change trReason 3 [1, 2] Of3 1 = -1 at o2
  change trLevel 3 [1, 2] Of3 2 = 1 at o4
  change trReason 3 [1, 2] Of3 2 = 7 at o5
  change trPlace 3 [1, 2] Of3 2 = 1 at o6
  have v1 : trV 3 [1, 2] 2 = 1 := by decide
  have v2 : trV 3 [1, 2] (-1) = -1 := by decide
  have v3 : trV 3 [1, 2] 3 = 0 := by decide
  have hS1 := pf_sameInts [1, 2, -3] [1, 2, -3] (by simp) (by simp)
  have hS2 := pf_sameInts [-3] [-3] (by simp) (by simp)
  rw [decide_eq_true rfl] at hS1 hS2
  have qV1 := fun (H : AHeap) (hH : TrAt 3 H 3 4 [1, 2] [0] Of3 V) => pf_tValue hH hT4 2
  have qV2 := fun (H : AHeap) (hH : TrAt 3 H 3 4 [1, 2] [0] Of3 V) => pf_tValue hH hT4 (-1)
  have qV3 := fun (H : AHeap) (hH : TrAt 3 H 3 4 [1, 2] [0] Of3 V) => pf_tValue hH hT4 3
  have qL1 := fun (H : AHeap) (hH : TrAt 3 H 3 4 [1, 2] [0] Of3 V) => pf_tLevel hH hT4 2
  have qL2 := fun (H : AHeap) (hH : TrAt 3 H 3 4 [1, 2] [0] Of3 V) => pf_tLevel hH hT4 3
  have qR1 := fun (H : AHeap) (hH : TrAt 3 H 3 4 [1, 2] [0] Of3 V) => pf_tReason hH hT4 2
  have qR2 := fun (H : AHeap) (hH : TrAt 3 H 3 4 [1, 2] [0] Of3 V) => pf_tReason hH hT4 1
  have qP := fun (H : AHeap) (hH : TrAt 3 H 3 4 [1, 2] [0] Of3 V) => pf_tPlace hH hT4 2
  have qD := fun (H : AHeap) (hH : TrAt 3 H 3 4 [1, 2] [0] Of3 V) => pf_tDepth hH hT4 (by simp)
  have qO := fun (H : AHeap) (hH : TrAt 3 H 3 4 [1, 2] [0] Of3 V) => pf_tOpen hH hT4 (by simp)
  rw [v1] at qV1
  rw [v2] at qV2
  rw [v3] at qV3
  rw [o4] at qL1
  rw [o7] at qL2
  rw [o5] at qR1
  rw [o2] at qR2
  rw [o6] at qP
  clear o1 o2 o3 o4 o5 o6 o7 v1 v2 v3
  (refine Wk.o ?_; (repeat revert hK K); refine W510ba ?_; (repeat intro K hK); refine ⟨?_⟩)
  refine XRes_say rfl hS1 (SnapL.cons (snap_ints rfl rfl) (SnapL.cons (snap_ints rfl rfl) (SnapL.nil _))) ?_
  (simp only [putL, List.set_cons_succ, List.set_cons_zero])
  simp only [List.length_cons, List.length_nil] at qD qO
  (refine Wk.o ?_; (repeat revert hK K); refine W510ba ?_; (repeat intro K hK); refine ⟨?_⟩)
  (simp only [bodyX]; refine ⟨_, by simp only [aresults, aresult, XS.as, Try.results5, aload, go_sem, Option.bind_some]; rfl, ?_⟩)
  exact ⟨.iv _, rfl, trivial⟩
end Go.Proofs.Ytfpmfjmjnmjcdaa
namespace Go.Proofs.Ytfpmfjmjnmjcdaa
open Go.RowKit Go.Maps
set_option linter.unusedVariables false
set_option linter.unusedSimpArgs false
def IRng (w : World) (b r n : Nat) (F : Int → Option Value) (ks : List Int) : Prop := ∃ (D : DataW Unit) (left : Lit → Bool) (cnt : Nat), w.ranges Try.prog 3 mapR b r n D left cnt ∧
  (∀ k v, F k = some v → ∃ ps, ∀ zd, mapR v = some (D.atKey (.int .i64 k) zd, ps)) ∧ (∀ k, Maps.has D (.int .i64 k) = (F k).isSome) ∧
  (∃ ks0 : List Int, ks0.Nodup ∧ (∀ k, k ∈ ks0 ↔ (F k).isSome = true) ∧ Maps.size D = ks0.length) ∧
  ks.Nodup ∧ (∀ k : Int, k ∈ ks ↔ left (.int .i64 k) = true) ∧ ∀ k ∈ ks, (F k).isSome = true
theorem IRng.map {w : World} {b r n : Nat} {F : Int → Option Value} {ks : List Int} (h : IRng w b r n F ks) : IMap w b n F := by
  obtain ⟨D, left, cnt, h1, h2, h3, h4, _⟩ := h
  exact ⟨D, h1.owns, h2, h3, h4⟩
theorem IRng.block {w w' : World} {b r n : Nat} {F : Int → Option Value} {ks : List Int} (h : IRng w b r n F ks) (hb : w'.heap[b]? = w.heap[b]?) (hr : w'.heap[r]? = w.heap[r]?) : IRng w' b r n F ks := by
  obtain ⟨D, left, cnt, ⟨es, clock, since, seen, c0, g1, g2, g3, g4, g5, g6⟩, h⟩ := h
  exact ⟨D, left, cnt, ⟨es, clock, since, seen, c0, hb.trans g1, g2, g3, g4, hr.trans g5, g6⟩, h⟩
theorem IRng.at {w : World} {b r n : Nat} {F : Int → Option Value} {ks : List Int} (h : IRng w b r n F ks) : ∃ ob orr, w.heap[b]? = some ob ∧ w.heap[r]? = some orr ∧ ∀ w' : World, w'.heap[b]? = some ob → w'.heap[r]? = some orr → IRng w' b r n F ks := by
  obtain ⟨D, left, cnt, ⟨es, clock, since, seen, c0, g1, g2, g3, g4, g5, g6⟩, _⟩ := id h
  exact ⟨_, _, g1, g5, fun w' e1 e2 => h.block (e1.trans g1.symm) (e2.trans g5.symm)⟩
theorem IMap.range {w : World} {b n : Nat} {F : Int → Option Value} (h : IMap w b n F) {t e : TypeId} (ht : Try.prog.underlying t = some (.map 3 e)) :
    ∃ w' ks, (Instr.range t (.map (some b))).run Try.prog w = .ok (.pointer (some ⟨w.heap.size, 0, none⟩)) w' ∧ IRng w' b w.heap.size n F ks ∧ ks.Nodup ∧ (∀ k, k ∈ ks ↔ (F k).isSome = true) ∧ w.grownBy w' none ∧ w'.heap.size = w.heap.size + 1 := by
  obtain ⟨D, hD, hR, hH, ks, k1, k2, k3⟩ := h
  obtain ⟨w', r1, r2, r3, r4⟩ := hD.range law_int ht
  exact ⟨w', ks, r1, ⟨D, _, _, r2, hR, hH, ⟨ks, k1, k2, k3⟩, k1, fun k => by rw [k2 k, hH k], fun k hk => (k2 k).1 hk⟩, k1, k2, r3, r4⟩
theorem same_int (x k : Int) : (Lit.int .i64 x).sameKey (.int .i64 k) = decide (x = k) := by
  unfold Lit.sameKey
  by_cases h : x = k <;> simp [h]
theorem IRng.next {w : World} {b r n : Nat} {F : Int → Option Value} {ks : List Int} (h : IRng w b r n F ks) (ty : TypeId) :
    (ks = [] ∧ (Instr.next (.pointer (some ⟨r, 0, none⟩)) false ty).run Try.prog w = .ok (.tuple #[.bool false]) w) ∨
    ∃ k v w', k ∈ ks ∧ -9223372036854775808 ≤ k ∧ k ≤ 9223372036854775807 ∧ F k = some v ∧ (Instr.next (.pointer (some ⟨r, 0, none⟩)) false ty).run Try.prog w = .ok (.tuple #[.bool true, .int .i64 k, v]) w' ∧
      IRng w' b r n F (ks.erase k) ∧ w.grownBy w' (some r) ∧ (Instr.entry (.pointer (some ⟨r, 0, none⟩))).run Try.prog w' = .ok (.tuple #[.int .i64 k, v]) w' := by
  obtain ⟨D, left, cnt, hr, hR, hH, hk0, hn, hl, hs⟩ := h
  rcases hr.next law_int ty with ⟨_, h2, h3⟩ | ⟨key, v, kl, y, w', cnt', g1, g2, g3, g4, g5, g6, g7, g8, g9, g10⟩
  · refine .inl ⟨List.eq_nil_iff_forall_not_mem.2 fun k hk => ?_, h3⟩
    have := (hl k).1 hk
    rw [h2] at this; cases this
  · obtain ⟨k, rfl, rfl, hw⟩ := Maps.keyOf_int_inv Try.underlying3 g1
    have hb := bounds_i64 hw
    have hk := (hl k).2 g2
    obtain ⟨u, hu⟩ := Option.isSome_iff_exists.1 (hs k hk)
    obtain ⟨ps, hps⟩ := hR k u hu
    have e : v = u := mapR_inj (d := y.1) (ps := y.2) g3 (by rw [← g4 (.lit (.bool false))]; exact hps _)
    subst e
    refine .inr ⟨k, v, w', hk, hb.1, hb.2, hu, g5, ⟨D, _, cnt', g6, hR, hH, hk0, hn.erase k, fun x => ?_, fun x hx => hs x (List.mem_of_mem_erase hx)⟩, g8, g10⟩
    rw [hn.mem_erase_iff, hl x, same_int]
    by_cases hxk : x = k
    · simp [hxk]
    · simp [hxk]
section
variable {P : Program} {tt : TT} {m : Nat}
def AXA (P : Program) (m : Nat) (G0 : Gh) (c : Code) (Q : Exit → XS → Prop) (s : XS) : Prop := ∀ G a w, m ≤ s.H.length → Gh.leb m G0 G → MOK G0.kp G s.M → Rst G s.as a w → c.wp P (PostX m G0 Q) a w
def RngX (P : Program) (m : Nat) (o : Oper) (L : Code) (Q : Exit → XS → Prop) (s : XS) : Prop := ∀ G0 G a w (ops : Array Oper), m ≤ s.H.length → Gh.leb m G0 G → MOK G0.kp G s.M → Rst G s.as a w → wpList P ops (Exit.then (L.wp P (PostX m G0 Q)) (PostX m G0 Q)) [o] a w
def Gh.put2 (G : Gh) (b : Nat) (ob : Obj) (r : Nat) (orr : Obj) : Gh := { G with kp := fun c => if c = b then some ob else if c = r then some orr else G.kp c }
theorem put2_none {G : Gh} {b r c : Nat} {ob orr : Obj} (h : (G.put2 b ob r orr).kp c = none) : c ≠ b ∧ c ≠ r ∧ G.kp c = none := by
  have e : (if c = b then some ob else if c = r then some orr else G.kp c) = none := h
  split at e
  · cases e
  · split at e
    · cases e
    · rename_i h1 h2; exact ⟨h1, h2, e⟩
theorem MOK.out {G0 G : Gh} {b r : Nat} {ob orr : Obj} {M : MS} (h : MOK (G0.put2 b ob r orr).kp G M) : MOK G0.kp G M := ⟨fun e he => by
  obtain ⟨h1, h2⟩ := h.one e he
  exact ⟨(put2_none h1).2.2, h2⟩, h.two⟩
end
end Go.Proofs.Ytfpmfjmjnmjcdaa
namespace Go.Proofs.Ytfpmfjmjnmjcdaa
open Go.RowKit
set_option linter.unusedVariables false
set_option linter.unusedSimpArgs false
def xbC (n : Int) (E : List Int) (m : Nat) (d : Int) : List AV := [lt (.int .i64 n), .iv (iFlat E m 3), lt (.int .i64 d)]
theorem W149ba {A B : Prop} (h9 : B) (w : B → A := by (intro h9; (repeat intro K hK); refine ⟨?_⟩; (repeat (first | (first | (with_reducible first | refine AX_block ?_ | refine AX_skip ?_ | refine AX_exit ?_ | refine AX_ret ?_ | refine AX_ift ?_ | refine AX_iff ?_ | refine AX_seq_k (fun K hK => ?_) | refine ContX.use (by assumption) ?_) | simp only [thenX, inBlockX, if_true, if_false, reduceCtorEq]) | (first | ((first | (with_reducible refine XRes_op tyOK ?_ ?_) | ((with_reducible first | refine ADF_op tyOK ?_ ?_ ?_ | refine ADX_op tyOK ?_ ?_ ?_); (focus rfl)) | (with_reducible refine ADR_alloc1 tyOK ?_ ?_) | ((with_reducible refine ADR_free1 tyOK ?_ ?_ ?_); (focus rfl)) | ((with_reducible refine ADR_free0 tyOK ?_ ?_ ?_); (focus rfl)) | ((with_reducible refine ADR_read1 tyOK ?_ ?_ ?_); (focus rfl)) | (with_reducible refine ADR_chg1 tyOK ?_ ?_)); (focus (first | (with_reducible rfl) | ((simp (disch := omega) only [go_sem]); done))); simp (disch := omega) only [go_sem , List.length_set, hs1, hs2, hs3, hs4, hs5, hs6, hs7, Int.toNat_zero, Int.toNat_one, List.length_nil, hT1, hT2, hT3]; (first | (with_reducible refine XRes_id ?_) | (with_reducible refine ADF_id ?_) | (with_reducible refine ADR_id1 ?_) | (with_reducible refine ADX_id ?_))) | ((first | (with_reducible refine XRes_skip ?_ ?_) | (with_reducible refine ADF_skip (b := true) ?_ ?_) | (with_reducible refine ADX_skip ?_ ?_) | ((with_reducible refine ADR_skip1 ?_ ?_ ?_); (focus rfl))); (focus (first | rfl | ((simp (disch := omega) only [go_sem]); done))); (simp only [putL, List.set_cons_succ, List.set_cons_zero]))) | ((first | (with_reducible refine XRes_nil ?_) | (with_reducible refine ADF_nil ?_) | (with_reducible refine ADR_nil ?_) | (with_reducible refine ADX_nil ?_)); (first | refine hK _ ?_ | refine hK _ _ ?_); clear hK K) | ((first | (with_reducible refine AX_reg0 fun K hK => ?_) | (refine AX_drawG1 tyOK (by kernel_rfl) (by rfl) (by kernel_rfl) fun K hK => ?_) | (refine AX_drawT tyOK (by kernel_rfl) (by decide +kernel) fun K hK => ?_) | (refine AX_drawM1 (by kernel_rfl) (by rfl) (by decide +kernel) fun K hK => ?_) | (refine AX_drawA tyOK (by kernel_rfl) (by decide +kernel) fun K hK => ?_)); (first | simp only [go_sem, preN, effOp, runF, alM, mapOp, alD2, kdOf2, Bool.not_false, Bool.not_true, reduceCtorEq] | simp only [go_sem, preN, effOp, runF, alM, mapOp, Bool.not_false, Bool.not_true, reduceCtorEq] | simp only [go_sem, preN, effOp, runF, alD2, kdOf2, Bool.not_false, Bool.not_true, reduceCtorEq] | simp only [go_sem, alD2, kdOf2, Bool.not_false, Bool.not_true, reduceCtorEq] | simp only [go_sem, preN, effOp, runF, Bool.not_false, Bool.not_true, reduceCtorEq] | simp only [go_sem])) | (first | (first | refine XTL (by rfl) hC ?_ | refine ATL tyOK (by rfl) hC ?_ | refine XTL (by rfl) hAw ?_ | refine ATL tyOK (by rfl) hAw ?_ | refine XTL (by rfl) hR0 ?_ | refine ATL tyOK (by rfl) hR0 ?_ | refine XTL (by rfl) hT1 ?_ | refine ATL tyOK (by rfl) hT1 ?_) | ((refine XRes_fn (by rfl) hNo ?_); (rintro r H' ⟨rfl, rfl⟩); (simp only [putL, List.set_cons_succ, List.set_cons_zero])) | (first | refine XTL (by rfl) hW ?_ | refine ATL tyOK (by rfl) hW ?_) | ((refine XRes_fn (by rfl) hSw ?_); (rintro r H' ⟨rfl, rfl⟩); (simp only [putL, List.set_cons_succ, List.set_cons_zero])) | ((refine XRes_fn (by rfl) hSv ?_); (rintro r H' ⟨rfl, rfl⟩); (simp only [putL, List.set_cons_succ, List.set_cons_zero])) | ((refine XRes_say rfl hMm (SnapL.cons (snap_ints rfl rfl) (SnapL.cons (.same _ (.iv _)) (SnapL.nil _))) ?_); (simp only [putL, List.set_cons_succ, List.set_cons_zero]))))); refine Wk.o ?_; (repeat revert hK K); exact h9)) : A := w h9
theorem W149bb {A B : Prop} (h9 : B) (w : B → A := by (intro h9; (repeat intro K hK); refine ⟨?_⟩; (repeat (first | (first | ((first | (with_reducible refine XRes_op tyOK ?_ ?_) | ((with_reducible first | refine ADF_op tyOK ?_ ?_ ?_ | refine ADX_op tyOK ?_ ?_ ?_); (focus rfl)) | (with_reducible refine ADR_alloc1 tyOK ?_ ?_) | ((with_reducible refine ADR_free1 tyOK ?_ ?_ ?_); (focus rfl)) | ((with_reducible refine ADR_free0 tyOK ?_ ?_ ?_); (focus rfl)) | ((with_reducible refine ADR_read1 tyOK ?_ ?_ ?_); (focus rfl)) | (with_reducible refine ADR_chg1 tyOK ?_ ?_)); (focus (first | (with_reducible rfl) | ((simp (disch := omega) only [go_sem]); done))); simp (disch := omega) only [go_sem , List.length_set, hs1, hs2, hs3, hs4, hs5, hs6, hs7, Int.toNat_zero, Int.toNat_one, List.length_nil, hT1, hT2, hT3]; (first | (with_reducible refine XRes_id ?_) | (with_reducible refine ADF_id ?_) | (with_reducible refine ADR_id1 ?_) | (with_reducible refine ADX_id ?_))) | ((first | (with_reducible refine XRes_skip ?_ ?_) | (with_reducible refine ADF_skip (b := true) ?_ ?_) | (with_reducible refine ADX_skip ?_ ?_) | ((with_reducible refine ADR_skip1 ?_ ?_ ?_); (focus rfl))); (focus (first | rfl | ((simp (disch := omega) only [go_sem]); done))); (simp only [putL, List.set_cons_succ, List.set_cons_zero]))) | ((first | (with_reducible refine XRes_nil ?_) | (with_reducible refine ADF_nil ?_) | (with_reducible refine ADR_nil ?_) | (with_reducible refine ADX_nil ?_)); (first | refine hK _ ?_ | refine hK _ _ ?_); clear hK K))); refine Wk.o ?_; (repeat revert hK K); exact h9)) : A := w h9
set_option maxRecDepth 100000 in
set_option maxHeartbeats 4000000 in
theorem pf_TrailPlays (vars : Int) (us : List Int) (N : Nat) (v : Int) (hv : -9223372036854775808 ≤ vars ∧ vars ≤ 9223372036854775807) (hvv : -9223372036854775808 ≤ v ∧ v ≤ 9223372036854775807) (hN : N ≤ 9223372036854775807) (hu : us.length = N * 3) (hub : ∀ k, -9223372036854775808 ≤ us.getD k 0 ∧ us.getD k 0 ≤ 9223372036854775807) : PF Try.prog 3 [lt (.int .i64 vars), .iv (iFlat us N 3), lt (.int .i64 v)] fun r H' => r = lt (.bool true) ∧ H' = [] := by
  refine SF.forgetAll ?_
  have hs1 := trivial; have hs2 := trivial; have hs3 := trivial; have hs4 := trivial; have hs5 := trivial; have hs6 := trivial; have hs7 := trivial; have hT1 := trivial; have hT2 := trivial; have hT3 := trivial
  have hC := trivial; have hD := trivial; have hNo := trivial; have hR0 := trivial; have hW := trivial; have hSw := trivial; have hSv := trivial; have hMm := trivial
  have hAw := pf_awake13
  by_cases hN1 : 80 < N
  · (refine SF_of_bodyX (aload tt) (aload_ok tyOK) Try.func3 rfl (by kernel_rfl) ?_; simp only [Try.ntmps3, List.length_cons, List.length_nil, Nat.reduceAdd, Nat.reduceSub, List.replicate_succ, List.replicate_zero, List.cons_append, List.nil_append])
    unfold iFlat
    (refine Wk.o ?_; (repeat revert hK K); refine W149ba ?_; (repeat intro K hK); refine ⟨?_⟩)
    (simp only [bodyX]; refine ⟨_, by simp only [aresults, aresult, XS.as, Try.results3, aload, go_sem, Option.bind_some]; rfl, ?_⟩)
    exact ⟨.iv _, rfl, trivial⟩
  by_cases hv0 : vars < 0 ∨ 100000 < vars
  · have hC := pf_tNewNo vars hv0
    have hR0 := pf_r13NewNo vars hv0
    unfold rT iFlat at hR0
    (refine SF_of_bodyX (aload tt) (aload_ok tyOK) Try.func3 rfl (by kernel_rfl) ?_; simp only [Try.ntmps3, List.length_cons, List.length_nil, Nat.reduceAdd, Nat.reduceSub, List.replicate_succ, List.replicate_zero, List.cons_append, List.nil_append])
    unfold iFlat
    (refine Wk.o ?_; (repeat revert hK K); refine W149ba ?_; (repeat intro K hK); refine ⟨?_⟩)
    refine AX_wh (σ := Unit) [43, 44, 45, 46, 47, 48, 49, 50, 54, 55, 56, 57, 58, 59, 53, 60, 61, 12, 13, 63, 64, 65, 66, 67, 68, 62, 69, 70, 71, 14, 15, 16, 72, 74, 75, 76, 77, 78, 79, 73, 80, 81, 17, 18, 82, 83, 84, 85, 86, 87, 88, 89, 90, 91, 92, 93, 94, 95, 96, 97, 98, 99, 100, 101, 102, 103, 104, 105, 106, 107, 108, 6, 51, 52] (fun _ => [(11, lint 0)]) (fun _ => [some ⟨30, xbC 0 [] 0 0⟩]) (fun _ => []) (fun _ => True) (fun _ => 0) () (fun d => by first | ((simp only [deadS, updS, List.set_cons_succ, List.set_cons_zero, lint, List.length_nil, List.length_cons]); done) | ((simp only [deadS, updS, List.set_cons_succ, List.set_cons_zero, lint, List.length_nil, List.length_cons]); rfl) | rfl) rfl rfl trivial ?_
    rintro ⟨⟩ d fr hfr _
    simp only [updS, deadS, List.set_cons_succ, List.set_cons_zero, lint] at hfr
    subst hfr
    unfold xbC iFlat
    by_cases hN0 : 0 < N
    · (refine Wk.o ?_; (repeat revert hK K); refine W149ba ?_; (repeat intro K hK); refine ⟨?_⟩)
      (simp only [bodyX]; refine ⟨_, by simp only [aresults, aresult, XS.as, Try.results3, aload, go_sem, Option.bind_some]; rfl, ?_⟩)
      exact ⟨.iv _, rfl, trivial⟩
    · (refine Wk.o ?_; (repeat revert hK K); refine W149ba ?_; (repeat intro K hK); refine ⟨?_⟩)
      (simp only [bodyX]; refine ⟨_, by simp only [aresults, aresult, XS.as, Try.results3, aload, go_sem, Option.bind_some]; rfl, ?_⟩)
      exact ⟨.iv _, rfl, trivial⟩
  obtain ⟨n, rfl⟩ : ∃ n : Nat, vars = n := ⟨vars.toNat, by omega⟩
  have hNw := pf_tNew n (by omega)
  have hR0 := pf_r13New n (by omega) (by omega)
  unfold rT iFlat at hR0
  (refine SF_of_bodyX (aload tt) (aload_ok tyOK) Try.func3 rfl (by kernel_rfl) ?_; simp only [Try.ntmps3, List.length_cons, List.length_nil, Nat.reduceAdd, Nat.reduceSub, List.replicate_succ, List.replicate_zero, List.cons_append, List.nil_append])
  unfold iFlat
  (refine Wk.o ?_; (repeat revert hK K); refine W149ba ?_; (repeat intro K hK); refine ⟨?_⟩)
  refine XRes_fn (by rfl) hNw ?_
  rintro r H' ⟨rfl, Of0, Vl0, rfl, hT0⟩
  (simp only [putL, List.set_cons_succ, List.set_cons_zero])
  (refine Wk.o ?_; (repeat revert hK K); refine W149ba ?_; (repeat intro K hK); refine ⟨?_⟩)
  refine AX_wh (σ := Nat × List Int × List Int × List Int × List Int × List Int × List Int × List Int) [43, 44, 45, 46, 47, 48, 49, 50, 54, 55, 56, 57, 58, 59, 53, 60, 61, 12, 13, 63, 64, 65, 66, 67, 68, 62, 69, 70, 71, 14, 15, 16, 72, 74, 75, 76, 77, 78, 79, 73, 80, 81, 17, 18, 82, 83, 84, 85, 86, 87, 88, 89, 90, 91, 92, 93, 94, 95, 96, 97, 98, 99, 100, 101, 102, 103, 104, 105, 106, 107, 108, 6, 51, 52] (fun (i, _, _, _, _, _, _, _) => [(11, lint i)]) (fun (i, L, St, Of, Vl, lv, rs, E) => [some ⟨73, Of.map lint⟩, some ⟨70, Vl.map l8⟩, some ⟨57, [.osl 3 0 L.length 1, .osl 4 0 St.length 1, .osl 0 0 (n + 1) 3, .osl 1 0 Vl.length 1, lt (.bool true)]⟩, some ⟨3, L.map lint⟩, some ⟨3, St.map lint⟩, some ⟨30, xbC n E L.length St.length⟩]) (fun _ => []) (fun (i, L, St, Of, Vl, lv, rs, E) => i ≤ N ∧ L.length ≤ i ∧ St.length ≤ i ∧ TrS n L St Of Vl lv rs ∧ EnS E L lv rs) (fun (i, _) => N - i) (0, [], [], Of0, Vl0, [], [], []) (fun d => by first | ((simp only [deadS, updS, List.set_cons_succ, List.set_cons_zero, lint, List.length_nil, List.length_cons]); done) | ((simp only [deadS, updS, List.set_cons_succ, List.set_cons_zero, lint, List.length_nil, List.length_cons]); rfl) | rfl) rfl rfl ⟨Nat.zero_le _, Nat.le_refl _, Nat.le_refl _, hT0, en_nil⟩ ?_
  rintro ⟨i, L, St, Of, Vl, lv, rs, E⟩ d fr hfr ⟨hi, hLi, hSi, hT, hE⟩
  simp only [updS, deadS, List.set_cons_succ, List.set_cons_zero, lint] at hfr
  subst hfr
  (try dsimp only)
  unfold xbC iFlat
  by_cases hlt : i < N
  · have hx := hub (i * 3 + 1)
    have hlb := lvar_bd (us.getD (i * 3 + 1) 0)
    have hW := pf_split13 (us.getD (i * 3 + 1) 0)
    obtain ⟨L1, St1, lv1, rs1, E1, e, O, hC, hE1, hL1, hS1, hO1, hDo⟩ := step13 hT hE (by omega) (by omega) (us.getD (i * 3) 0) (us.getD (i * 3 + 1) 0) (us.getD (i * 3 + 2) 0) (some ⟨30, xbC n E L.length St.length⟩)
    have hMm := pf_sameInts O O (by omega) (by omega)
    rw [decide_eq_true rfl] at hMm
    unfold xbC iFlat at hDo
    unfold rT actA iFlat iInts at hC
    unfold iInts at hMm
    (refine Wk.o ?_; (repeat revert hK K); refine W149ba ?_; (repeat intro K hK); refine ⟨?_⟩)
    refine XRes_fn (by rfl) hDo ?_
    rintro r H' ⟨Of1, Vl1, hTT, hX⟩
    have hSw := pf_sameX [some ⟨30, xbC n E1 L1.length St1.length⟩, some ⟨3, O.map lint⟩, some ⟨30, xbC n E1 L1.length St1.length⟩] hTT hE1 (by omega) (by omega) (lvar (us.getD (i * 3 + 1) 0)) (by omega)
    have hSv := fun hv0 : 0 ≤ v => pf_sameX [some ⟨30, xbC n E1 L1.length St1.length⟩, some ⟨3, O.map lint⟩, some ⟨30, xbC n E1 L1.length St1.length⟩] hTT hE1 (by omega) (by omega) v ⟨hv0, hvv.2⟩
    unfold hT13 xbC rT iFlat at hSw hSv
    simp only [List.cons_append, List.nil_append] at hSw hSv
    rcases hX with ⟨rfl, rfl, rfl | ⟨a, b, rfl⟩ | ⟨b, rfl⟩ | rfl⟩ | ⟨rfl, rfl⟩
    · unfold hT13
      simp only [List.cons_append, List.nil_append]
      (simp only [putL, List.set_cons_succ, List.set_cons_zero])
      (refine Wk.o ?_; (repeat revert hK K); refine W149bb ?_; (repeat intro K hK); refine ⟨?_⟩)
      (repeat (first | (with_reducible first | refine AX_block ?_ | refine AX_skip ?_ | refine AX_exit ?_ | refine AX_ret ?_ | refine AX_ift ?_ | refine AX_iff ?_ | refine AX_seq_k (fun K hK => ?_) | refine ContX.use (by assumption) ?_) | simp only [thenX, inBlockX, if_true, if_false, reduceCtorEq]))
      refine AX_nil 13 3 1 rfl ?_
      simp only [List.set_cons_succ, List.set_cons_zero, List.length_cons, List.length_nil, List.cons_append, List.nil_append, Nat.zero_add, Nat.reduceAdd]
      by_cases hv0 : 0 ≤ v
      · have hSv := hSv hv0
        (refine Wk.o ?_; (repeat revert hK K); refine W149ba ?_; (repeat intro K hK); refine ⟨?_⟩)
        refine AX_drawU tyOK (by kernel_rfl) (by decide +kernel) fun K hK => ?_
        simp only [go_sem, alU, kdU, List.map_cons, List.map_nil]
        repeat (first | (first | ((first | (with_reducible refine XRes_op tyOK ?_ ?_) | ((with_reducible first | refine ADF_op tyOK ?_ ?_ ?_ | refine ADX_op tyOK ?_ ?_ ?_); (focus rfl)) | (with_reducible refine ADR_alloc1 tyOK ?_ ?_) | ((with_reducible refine ADR_free1 tyOK ?_ ?_ ?_); (focus rfl)) | ((with_reducible refine ADR_free0 tyOK ?_ ?_ ?_); (focus rfl)) | ((with_reducible refine ADR_read1 tyOK ?_ ?_ ?_); (focus rfl)) | (with_reducible refine ADR_chg1 tyOK ?_ ?_)); (focus (first | (with_reducible rfl) | ((simp (disch := omega) only [go_sem]); done))); simp (disch := omega) only [go_sem , List.length_set, hs1, hs2, hs3, hs4, hs5, hs6, hs7, Int.toNat_zero, Int.toNat_one, List.length_nil, hT1, hT2, hT3]; (first | (with_reducible refine XRes_id ?_) | (with_reducible refine ADF_id ?_) | (with_reducible refine ADR_id1 ?_) | (with_reducible refine ADX_id ?_))) | ((first | (with_reducible refine XRes_skip ?_ ?_) | (with_reducible refine ADF_skip (b := true) ?_ ?_) | (with_reducible refine ADX_skip ?_ ?_) | ((with_reducible refine ADR_skip1 ?_ ?_ ?_); (focus rfl))); (focus (first | rfl | ((simp (disch := omega) only [go_sem]); done))); (simp only [putL, List.set_cons_succ, List.set_cons_zero]))) | ((first | (with_reducible refine XRes_nil ?_) | (with_reducible refine ADF_nil ?_) | (with_reducible refine ADR_nil ?_) | (with_reducible refine ADX_nil ?_)); (first | refine hK _ ?_ | refine hK _ _ ?_); clear hK K) | ((refine ADR_tellR (by rfl) hC ?_ (fun _ => rfl) ?_); (focus exact idsA (by rfl)); (simp only [putL, List.set_cons_succ, List.set_cons_zero])))
        (refine Wk.o ?_; (repeat revert hK K); refine W149ba ?_; (repeat intro K hK); refine ⟨?_⟩)
        exact WRN [0, 1, 2, 3, 4, 5] (i + 1, L1, St1, Of1, Vl1, lv1, rs1, E1) ⟨by (first | omega | (dsimp only; omega) | (simp only; omega)), by (first | omega | (dsimp only; omega) | (simp only; omega)), by (first | omega | (dsimp only; omega) | (simp only; omega)), hTT, hE1⟩ (by (first | omega | (dsimp only; omega) | (simp only; omega)))
      · skip
        (refine Wk.o ?_; (repeat revert hK K); refine W149ba ?_; (repeat intro K hK); refine ⟨?_⟩)
        refine AX_drawU tyOK (by kernel_rfl) (by decide +kernel) fun K hK => ?_
        simp only [go_sem, alU, kdU, List.map_cons, List.map_nil]
        repeat (first | (first | ((first | (with_reducible refine XRes_op tyOK ?_ ?_) | ((with_reducible first | refine ADF_op tyOK ?_ ?_ ?_ | refine ADX_op tyOK ?_ ?_ ?_); (focus rfl)) | (with_reducible refine ADR_alloc1 tyOK ?_ ?_) | ((with_reducible refine ADR_free1 tyOK ?_ ?_ ?_); (focus rfl)) | ((with_reducible refine ADR_free0 tyOK ?_ ?_ ?_); (focus rfl)) | ((with_reducible refine ADR_read1 tyOK ?_ ?_ ?_); (focus rfl)) | (with_reducible refine ADR_chg1 tyOK ?_ ?_)); (focus (first | (with_reducible rfl) | ((simp (disch := omega) only [go_sem]); done))); simp (disch := omega) only [go_sem , List.length_set, hs1, hs2, hs3, hs4, hs5, hs6, hs7, Int.toNat_zero, Int.toNat_one, List.length_nil, hT1, hT2, hT3]; (first | (with_reducible refine XRes_id ?_) | (with_reducible refine ADF_id ?_) | (with_reducible refine ADR_id1 ?_) | (with_reducible refine ADX_id ?_))) | ((first | (with_reducible refine XRes_skip ?_ ?_) | (with_reducible refine ADF_skip (b := true) ?_ ?_) | (with_reducible refine ADX_skip ?_ ?_) | ((with_reducible refine ADR_skip1 ?_ ?_ ?_); (focus rfl))); (focus (first | rfl | ((simp (disch := omega) only [go_sem]); done))); (simp only [putL, List.set_cons_succ, List.set_cons_zero]))) | ((first | (with_reducible refine XRes_nil ?_) | (with_reducible refine ADF_nil ?_) | (with_reducible refine ADR_nil ?_) | (with_reducible refine ADX_nil ?_)); (first | refine hK _ ?_ | refine hK _ _ ?_); clear hK K) | ((refine ADR_tellR (by rfl) hC ?_ (fun _ => rfl) ?_); (focus exact idsA (by rfl)); (simp only [putL, List.set_cons_succ, List.set_cons_zero])))
        (refine Wk.o ?_; (repeat revert hK K); refine W149ba ?_; (repeat intro K hK); refine ⟨?_⟩)
        exact WRN [0, 1, 2, 3, 4, 5] (i + 1, L1, St1, Of1, Vl1, lv1, rs1, E1) ⟨by (first | omega | (dsimp only; omega) | (simp only; omega)), by (first | omega | (dsimp only; omega) | (simp only; omega)), by (first | omega | (dsimp only; omega) | (simp only; omega)), hTT, hE1⟩ (by (first | omega | (dsimp only; omega) | (simp only; omega)))
    · unfold hD13x
      (simp only [putL, List.set_cons_succ, List.set_cons_zero])
      (refine Wk.o ?_; (repeat revert hK K); refine W149bb ?_; (repeat intro K hK); refine ⟨?_⟩)
      (repeat (first | (with_reducible first | refine AX_block ?_ | refine AX_skip ?_ | refine AX_exit ?_ | refine AX_ret ?_ | refine AX_ift ?_ | refine AX_iff ?_ | refine AX_seq_k (fun K hK => ?_) | refine ContX.use (by assumption) ?_) | simp only [thenX, inBlockX, if_true, if_false, reduceCtorEq]))
      refine AX_ren [0, 1, 2, 9, 7, 5] [] ?fra (hT13 n L1 St1 Of1 Vl1 ++ [some ⟨30, xbC n E L.length St.length⟩]) (by decide) (by decide) (by (simp (disch := omega) only [go_sem, lint])) (by (simp (disch := omega) only [go_sem, lint])) (by (simp (disch := omega) only [go_sem, lint]); rfl) ?hfra (fun d2 => ?_)
      case hfra => (simp (disch := omega) only [go_sem, lint]); rfl
      simp only [deadS]
      unfold hT13 xbC iFlat
      simp only [List.cons_append, List.nil_append]
      refine AX_nil 13 3 1 rfl ?_
      simp only [List.set_cons_succ, List.set_cons_zero, List.length_cons, List.length_nil, List.cons_append, List.nil_append, Nat.zero_add, Nat.reduceAdd]
      by_cases hv0 : 0 ≤ v
      · have hSv := hSv hv0
        (refine Wk.o ?_; (repeat revert hK K); refine W149ba ?_; (repeat intro K hK); refine ⟨?_⟩)
        refine AX_drawU tyOK (by kernel_rfl) (by decide +kernel) fun K hK => ?_
        simp only [go_sem, alU, kdU, List.map_cons, List.map_nil]
        repeat (first | (first | ((first | (with_reducible refine XRes_op tyOK ?_ ?_) | ((with_reducible first | refine ADF_op tyOK ?_ ?_ ?_ | refine ADX_op tyOK ?_ ?_ ?_); (focus rfl)) | (with_reducible refine ADR_alloc1 tyOK ?_ ?_) | ((with_reducible refine ADR_free1 tyOK ?_ ?_ ?_); (focus rfl)) | ((with_reducible refine ADR_free0 tyOK ?_ ?_ ?_); (focus rfl)) | ((with_reducible refine ADR_read1 tyOK ?_ ?_ ?_); (focus rfl)) | (with_reducible refine ADR_chg1 tyOK ?_ ?_)); (focus (first | (with_reducible rfl) | ((simp (disch := omega) only [go_sem]); done))); simp (disch := omega) only [go_sem , List.length_set, hs1, hs2, hs3, hs4, hs5, hs6, hs7, Int.toNat_zero, Int.toNat_one, List.length_nil, hT1, hT2, hT3]; (first | (with_reducible refine XRes_id ?_) | (with_reducible refine ADF_id ?_) | (with_reducible refine ADR_id1 ?_) | (with_reducible refine ADX_id ?_))) | ((first | (with_reducible refine XRes_skip ?_ ?_) | (with_reducible refine ADF_skip (b := true) ?_ ?_) | (with_reducible refine ADX_skip ?_ ?_) | ((with_reducible refine ADR_skip1 ?_ ?_ ?_); (focus rfl))); (focus (first | rfl | ((simp (disch := omega) only [go_sem]); done))); (simp only [putL, List.set_cons_succ, List.set_cons_zero]))) | ((first | (with_reducible refine XRes_nil ?_) | (with_reducible refine ADF_nil ?_) | (with_reducible refine ADR_nil ?_) | (with_reducible refine ADX_nil ?_)); (first | refine hK _ ?_ | refine hK _ _ ?_); clear hK K) | ((refine ADR_tellR (by rfl) hC ?_ (fun _ => rfl) ?_); (focus exact idsA (by rfl)); (simp only [putL, List.set_cons_succ, List.set_cons_zero])))
        (refine Wk.o ?_; (repeat revert hK K); refine W149ba ?_; (repeat intro K hK); refine ⟨?_⟩)
        exact WRN [0, 1, 2, 3, 4, 5] (i + 1, L1, St1, Of1, Vl1, lv1, rs1, E1) ⟨by (first | omega | (dsimp only; omega) | (simp only; omega)), by (first | omega | (dsimp only; omega) | (simp only; omega)), by (first | omega | (dsimp only; omega) | (simp only; omega)), hTT, hE1⟩ (by (first | omega | (dsimp only; omega) | (simp only; omega)))
      · skip
        (refine Wk.o ?_; (repeat revert hK K); refine W149ba ?_; (repeat intro K hK); refine ⟨?_⟩)
        refine AX_drawU tyOK (by kernel_rfl) (by decide +kernel) fun K hK => ?_
        simp only [go_sem, alU, kdU, List.map_cons, List.map_nil]
        repeat (first | (first | ((first | (with_reducible refine XRes_op tyOK ?_ ?_) | ((with_reducible first | refine ADF_op tyOK ?_ ?_ ?_ | refine ADX_op tyOK ?_ ?_ ?_); (focus rfl)) | (with_reducible refine ADR_alloc1 tyOK ?_ ?_) | ((with_reducible refine ADR_free1 tyOK ?_ ?_ ?_); (focus rfl)) | ((with_reducible refine ADR_free0 tyOK ?_ ?_ ?_); (focus rfl)) | ((with_reducible refine ADR_read1 tyOK ?_ ?_ ?_); (focus rfl)) | (with_reducible refine ADR_chg1 tyOK ?_ ?_)); (focus (first | (with_reducible rfl) | ((simp (disch := omega) only [go_sem]); done))); simp (disch := omega) only [go_sem , List.length_set, hs1, hs2, hs3, hs4, hs5, hs6, hs7, Int.toNat_zero, Int.toNat_one, List.length_nil, hT1, hT2, hT3]; (first | (with_reducible refine XRes_id ?_) | (with_reducible refine ADF_id ?_) | (with_reducible refine ADR_id1 ?_) | (with_reducible refine ADX_id ?_))) | ((first | (with_reducible refine XRes_skip ?_ ?_) | (with_reducible refine ADF_skip (b := true) ?_ ?_) | (with_reducible refine ADX_skip ?_ ?_) | ((with_reducible refine ADR_skip1 ?_ ?_ ?_); (focus rfl))); (focus (first | rfl | ((simp (disch := omega) only [go_sem]); done))); (simp only [putL, List.set_cons_succ, List.set_cons_zero]))) | ((first | (with_reducible refine XRes_nil ?_) | (with_reducible refine ADF_nil ?_) | (with_reducible refine ADR_nil ?_) | (with_reducible refine ADX_nil ?_)); (first | refine hK _ ?_ | refine hK _ _ ?_); clear hK K) | ((refine ADR_tellR (by rfl) hC ?_ (fun _ => rfl) ?_); (focus exact idsA (by rfl)); (simp only [putL, List.set_cons_succ, List.set_cons_zero])))
        (refine Wk.o ?_; (repeat revert hK K); refine W149ba ?_; (repeat intro K hK); refine ⟨?_⟩)
        exact WRN [0, 1, 2, 3, 4, 5] (i + 1, L1, St1, Of1, Vl1, lv1, rs1, E1) ⟨by (first | omega | (dsimp only; omega) | (simp only; omega)), by (first | omega | (dsimp only; omega) | (simp only; omega)), by (first | omega | (dsimp only; omega) | (simp only; omega)), hTT, hE1⟩ (by (first | omega | (dsimp only; omega) | (simp only; omega)))
    · unfold hI13x
      (simp only [putL, List.set_cons_succ, List.set_cons_zero])
      (refine Wk.o ?_; (repeat revert hK K); refine W149bb ?_; (repeat intro K hK); refine ⟨?_⟩)
      (repeat (first | (with_reducible first | refine AX_block ?_ | refine AX_skip ?_ | refine AX_exit ?_ | refine AX_ret ?_ | refine AX_ift ?_ | refine AX_iff ?_ | refine AX_seq_k (fun K hK => ?_) | refine ContX.use (by assumption) ?_) | simp only [thenX, inBlockX, if_true, if_false, reduceCtorEq]))
      refine AX_ren [0, 1, 2, 7, 4, 5] [] ?frb (hT13 n L1 St1 Of1 Vl1 ++ [some ⟨30, xbC n E L.length St.length⟩]) (by decide) (by decide) (by (simp (disch := omega) only [go_sem, lint])) (by (simp (disch := omega) only [go_sem, lint])) (by (simp (disch := omega) only [go_sem, lint]); rfl) ?hfrb (fun d2 => ?_)
      case hfrb => (simp (disch := omega) only [go_sem, lint]); rfl
      simp only [deadS]
      unfold hT13 xbC iFlat
      simp only [List.cons_append, List.nil_append]
      refine AX_nil 13 3 1 rfl ?_
      simp only [List.set_cons_succ, List.set_cons_zero, List.length_cons, List.length_nil, List.cons_append, List.nil_append, Nat.zero_add, Nat.reduceAdd]
      by_cases hv0 : 0 ≤ v
      · have hSv := hSv hv0
        (refine Wk.o ?_; (repeat revert hK K); refine W149ba ?_; (repeat intro K hK); refine ⟨?_⟩)
        refine AX_drawU tyOK (by kernel_rfl) (by decide +kernel) fun K hK => ?_
        simp only [go_sem, alU, kdU, List.map_cons, List.map_nil]
        repeat (first | (first | ((first | (with_reducible refine XRes_op tyOK ?_ ?_) | ((with_reducible first | refine ADF_op tyOK ?_ ?_ ?_ | refine ADX_op tyOK ?_ ?_ ?_); (focus rfl)) | (with_reducible refine ADR_alloc1 tyOK ?_ ?_) | ((with_reducible refine ADR_free1 tyOK ?_ ?_ ?_); (focus rfl)) | ((with_reducible refine ADR_free0 tyOK ?_ ?_ ?_); (focus rfl)) | ((with_reducible refine ADR_read1 tyOK ?_ ?_ ?_); (focus rfl)) | (with_reducible refine ADR_chg1 tyOK ?_ ?_)); (focus (first | (with_reducible rfl) | ((simp (disch := omega) only [go_sem]); done))); simp (disch := omega) only [go_sem , List.length_set, hs1, hs2, hs3, hs4, hs5, hs6, hs7, Int.toNat_zero, Int.toNat_one, List.length_nil, hT1, hT2, hT3]; (first | (with_reducible refine XRes_id ?_) | (with_reducible refine ADF_id ?_) | (with_reducible refine ADR_id1 ?_) | (with_reducible refine ADX_id ?_))) | ((first | (with_reducible refine XRes_skip ?_ ?_) | (with_reducible refine ADF_skip (b := true) ?_ ?_) | (with_reducible refine ADX_skip ?_ ?_) | ((with_reducible refine ADR_skip1 ?_ ?_ ?_); (focus rfl))); (focus (first | rfl | ((simp (disch := omega) only [go_sem]); done))); (simp only [putL, List.set_cons_succ, List.set_cons_zero]))) | ((first | (with_reducible refine XRes_nil ?_) | (with_reducible refine ADF_nil ?_) | (with_reducible refine ADR_nil ?_) | (with_reducible refine ADX_nil ?_)); (first | refine hK _ ?_ | refine hK _ _ ?_); clear hK K) | ((refine ADR_tellR (by rfl) hC ?_ (fun _ => rfl) ?_); (focus exact idsA (by rfl)); (simp only [putL, List.set_cons_succ, List.set_cons_zero])))
        (refine Wk.o ?_; (repeat revert hK K); refine W149ba ?_; (repeat intro K hK); refine ⟨?_⟩)
        exact WRN [0, 1, 2, 3, 4, 5] (i + 1, L1, St1, Of1, Vl1, lv1, rs1, E1) ⟨by (first | omega | (dsimp only; omega) | (simp only; omega)), by (first | omega | (dsimp only; omega) | (simp only; omega)), by (first | omega | (dsimp only; omega) | (simp only; omega)), hTT, hE1⟩ (by (first | omega | (dsimp only; omega) | (simp only; omega)))
      · skip
        (refine Wk.o ?_; (repeat revert hK K); refine W149ba ?_; (repeat intro K hK); refine ⟨?_⟩)
        refine AX_drawU tyOK (by kernel_rfl) (by decide +kernel) fun K hK => ?_
        simp only [go_sem, alU, kdU, List.map_cons, List.map_nil]
        repeat (first | (first | ((first | (with_reducible refine XRes_op tyOK ?_ ?_) | ((with_reducible first | refine ADF_op tyOK ?_ ?_ ?_ | refine ADX_op tyOK ?_ ?_ ?_); (focus rfl)) | (with_reducible refine ADR_alloc1 tyOK ?_ ?_) | ((with_reducible refine ADR_free1 tyOK ?_ ?_ ?_); (focus rfl)) | ((with_reducible refine ADR_free0 tyOK ?_ ?_ ?_); (focus rfl)) | ((with_reducible refine ADR_read1 tyOK ?_ ?_ ?_); (focus rfl)) | (with_reducible refine ADR_chg1 tyOK ?_ ?_)); (focus (first | (with_reducible rfl) | ((simp (disch := omega) only [go_sem]); done))); simp (disch := omega) only [go_sem , List.length_set, hs1, hs2, hs3, hs4, hs5, hs6, hs7, Int.toNat_zero, Int.toNat_one, List.length_nil, hT1, hT2, hT3]; (first | (with_reducible refine XRes_id ?_) | (with_reducible refine ADF_id ?_) | (with_reducible refine ADR_id1 ?_) | (with_reducible refine ADX_id ?_))) | ((first | (with_reducible refine XRes_skip ?_ ?_) | (with_reducible refine ADF_skip (b := true) ?_ ?_) | (with_reducible refine ADX_skip ?_ ?_) | ((with_reducible refine ADR_skip1 ?_ ?_ ?_); (focus rfl))); (focus (first | rfl | ((simp (disch := omega) only [go_sem]); done))); (simp only [putL, List.set_cons_succ, List.set_cons_zero]))) | ((first | (with_reducible refine XRes_nil ?_) | (with_reducible refine ADF_nil ?_) | (with_reducible refine ADR_nil ?_) | (with_reducible refine ADX_nil ?_)); (first | refine hK _ ?_ | refine hK _ _ ?_); clear hK K) | ((refine ADR_tellR (by rfl) hC ?_ (fun _ => rfl) ?_); (focus exact idsA (by rfl)); (simp only [putL, List.set_cons_succ, List.set_cons_zero])))
        (refine Wk.o ?_; (repeat revert hK K); refine W149ba ?_; (repeat intro K hK); refine ⟨?_⟩)
        exact WRN [0, 1, 2, 3, 4, 5] (i + 1, L1, St1, Of1, Vl1, lv1, rs1, E1) ⟨by (first | omega | (dsimp only; omega) | (simp only; omega)), by (first | omega | (dsimp only; omega) | (simp only; omega)), by (first | omega | (dsimp only; omega) | (simp only; omega)), hTT, hE1⟩ (by (first | omega | (dsimp only; omega) | (simp only; omega)))
    · unfold hN13x
      (simp only [putL, List.set_cons_succ, List.set_cons_zero])
      (refine Wk.o ?_; (repeat revert hK K); refine W149bb ?_; (repeat intro K hK); refine ⟨?_⟩)
      (repeat (first | (with_reducible first | refine AX_block ?_ | refine AX_skip ?_ | refine AX_exit ?_ | refine AX_ret ?_ | refine AX_ift ?_ | refine AX_iff ?_ | refine AX_seq_k (fun K hK => ?_) | refine ContX.use (by assumption) ?_) | simp only [thenX, inBlockX, if_true, if_false, reduceCtorEq]))
      refine AX_ren [0, 1, 2, 3, 4, 5] [] ?frc (hT13 n L1 St1 Of1 Vl1 ++ [some ⟨30, xbC n E L.length St.length⟩]) (by decide) (by decide) (by (simp (disch := omega) only [go_sem, lint])) (by (simp (disch := omega) only [go_sem, lint])) (by (simp (disch := omega) only [go_sem, lint]); rfl) ?hfrc (fun d2 => ?_)
      case hfrc => (simp (disch := omega) only [go_sem, lint]); rfl
      simp only [deadS]
      unfold hT13 xbC iFlat
      simp only [List.cons_append, List.nil_append]
      refine AX_nil 13 3 1 rfl ?_
      simp only [List.set_cons_succ, List.set_cons_zero, List.length_cons, List.length_nil, List.cons_append, List.nil_append, Nat.zero_add, Nat.reduceAdd]
      by_cases hv0 : 0 ≤ v
      · have hSv := hSv hv0
        (refine Wk.o ?_; (repeat revert hK K); refine W149ba ?_; (repeat intro K hK); refine ⟨?_⟩)
        refine AX_drawU tyOK (by kernel_rfl) (by decide +kernel) fun K hK => ?_
        simp only [go_sem, alU, kdU, List.map_cons, List.map_nil]
        repeat (first | (first | ((first | (with_reducible refine XRes_op tyOK ?_ ?_) | ((with_reducible first | refine ADF_op tyOK ?_ ?_ ?_ | refine ADX_op tyOK ?_ ?_ ?_); (focus rfl)) | (with_reducible refine ADR_alloc1 tyOK ?_ ?_) | ((with_reducible refine ADR_free1 tyOK ?_ ?_ ?_); (focus rfl)) | ((with_reducible refine ADR_free0 tyOK ?_ ?_ ?_); (focus rfl)) | ((with_reducible refine ADR_read1 tyOK ?_ ?_ ?_); (focus rfl)) | (with_reducible refine ADR_chg1 tyOK ?_ ?_)); (focus (first | (with_reducible rfl) | ((simp (disch := omega) only [go_sem]); done))); simp (disch := omega) only [go_sem , List.length_set, hs1, hs2, hs3, hs4, hs5, hs6, hs7, Int.toNat_zero, Int.toNat_one, List.length_nil, hT1, hT2, hT3]; (first | (with_reducible refine XRes_id ?_) | (with_reducible refine ADF_id ?_) | (with_reducible refine ADR_id1 ?_) | (with_reducible refine ADX_id ?_))) | ((first | (with_reducible refine XRes_skip ?_ ?_) | (with_reducible refine ADF_skip (b := true) ?_ ?_) | (with_reducible refine ADX_skip ?_ ?_) | ((with_reducible refine ADR_skip1 ?_ ?_ ?_); (focus rfl))); (focus (first | rfl | ((simp (disch := omega) only [go_sem]); done))); (simp only [putL, List.set_cons_succ, List.set_cons_zero]))) | ((first | (with_reducible refine XRes_nil ?_) | (with_reducible refine ADF_nil ?_) | (with_reducible refine ADR_nil ?_) | (with_reducible refine ADX_nil ?_)); (first | refine hK _ ?_ | refine hK _ _ ?_); clear hK K) | ((refine ADR_tellR (by rfl) hC ?_ (fun _ => rfl) ?_); (focus exact idsA (by rfl)); (simp only [putL, List.set_cons_succ, List.set_cons_zero])))
        (refine Wk.o ?_; (repeat revert hK K); refine W149ba ?_; (repeat intro K hK); refine ⟨?_⟩)
        exact WRN [0, 1, 2, 3, 4, 5] (i + 1, L1, St1, Of1, Vl1, lv1, rs1, E1) ⟨by (first | omega | (dsimp only; omega) | (simp only; omega)), by (first | omega | (dsimp only; omega) | (simp only; omega)), by (first | omega | (dsimp only; omega) | (simp only; omega)), hTT, hE1⟩ (by (first | omega | (dsimp only; omega) | (simp only; omega)))
      · skip
        (refine Wk.o ?_; (repeat revert hK K); refine W149ba ?_; (repeat intro K hK); refine ⟨?_⟩)
        refine AX_drawU tyOK (by kernel_rfl) (by decide +kernel) fun K hK => ?_
        simp only [go_sem, alU, kdU, List.map_cons, List.map_nil]
        repeat (first | (first | ((first | (with_reducible refine XRes_op tyOK ?_ ?_) | ((with_reducible first | refine ADF_op tyOK ?_ ?_ ?_ | refine ADX_op tyOK ?_ ?_ ?_); (focus rfl)) | (with_reducible refine ADR_alloc1 tyOK ?_ ?_) | ((with_reducible refine ADR_free1 tyOK ?_ ?_ ?_); (focus rfl)) | ((with_reducible refine ADR_free0 tyOK ?_ ?_ ?_); (focus rfl)) | ((with_reducible refine ADR_read1 tyOK ?_ ?_ ?_); (focus rfl)) | (with_reducible refine ADR_chg1 tyOK ?_ ?_)); (focus (first | (with_reducible rfl) | ((simp (disch := omega) only [go_sem]); done))); simp (disch := omega) only [go_sem , List.length_set, hs1, hs2, hs3, hs4, hs5, hs6, hs7, Int.toNat_zero, Int.toNat_one, List.length_nil, hT1, hT2, hT3]; (first | (with_reducible refine XRes_id ?_) | (with_reducible refine ADF_id ?_) | (with_reducible refine ADR_id1 ?_) | (with_reducible refine ADX_id ?_))) | ((first | (with_reducible refine XRes_skip ?_ ?_) | (with_reducible refine ADF_skip (b := true) ?_ ?_) | (with_reducible refine ADX_skip ?_ ?_) | ((with_reducible refine ADR_skip1 ?_ ?_ ?_); (focus rfl))); (focus (first | rfl | ((simp (disch := omega) only [go_sem]); done))); (simp only [putL, List.set_cons_succ, List.set_cons_zero]))) | ((first | (with_reducible refine XRes_nil ?_) | (with_reducible refine ADF_nil ?_) | (with_reducible refine ADR_nil ?_) | (with_reducible refine ADX_nil ?_)); (first | refine hK _ ?_ | refine hK _ _ ?_); clear hK K) | ((refine ADR_tellR (by rfl) hC ?_ (fun _ => rfl) ?_); (focus exact idsA (by rfl)); (simp only [putL, List.set_cons_succ, List.set_cons_zero])))
        (refine Wk.o ?_; (repeat revert hK K); refine W149ba ?_; (repeat intro K hK); refine ⟨?_⟩)
        exact WRN [0, 1, 2, 3, 4, 5] (i + 1, L1, St1, Of1, Vl1, lv1, rs1, E1) ⟨by (first | omega | (dsimp only; omega) | (simp only; omega)), by (first | omega | (dsimp only; omega) | (simp only; omega)), by (first | omega | (dsimp only; omega) | (simp only; omega)), hTT, hE1⟩ (by (first | omega | (dsimp only; omega) | (simp only; omega)))
    · unfold hB13x
      (simp only [putL, List.set_cons_succ, List.set_cons_zero])
      (refine Wk.o ?_; (repeat revert hK K); refine W149bb ?_; (repeat intro K hK); refine ⟨?_⟩)
      (repeat (first | (with_reducible first | refine AX_block ?_ | refine AX_skip ?_ | refine AX_exit ?_ | refine AX_ret ?_ | refine AX_ift ?_ | refine AX_iff ?_ | refine AX_seq_k (fun K hK => ?_) | refine ContX.use (by assumption) ?_) | simp only [thenX, inBlockX, if_true, if_false, reduceCtorEq]))
      refine AX_ren [0, 1, 2, 3, 4, 5, 7] [] ?fre (hT13 n L1 St1 Of1 Vl1 ++ [some ⟨30, xbC n E L.length St.length⟩, some ⟨3, O.map lint⟩]) (by decide) (by decide) (by (simp (disch := omega) only [go_sem, lint])) (by (simp (disch := omega) only [go_sem, lint])) (by (simp (disch := omega) only [go_sem, lint]); rfl) ?hfre (fun d2 => ?_)
      case hfre => (simp (disch := omega) only [go_sem, lint]); rfl
      simp only [deadS]
      unfold hT13 xbC iFlat
      simp only [List.cons_append, List.nil_append]
      by_cases hv0 : 0 ≤ v
      · have hSv := hSv hv0
        (refine Wk.o ?_; (repeat revert hK K); refine W149ba ?_; (repeat intro K hK); refine ⟨?_⟩)
        refine AX_drawU tyOK (by kernel_rfl) (by decide +kernel) fun K hK => ?_
        simp only [go_sem, alU, kdU, List.map_cons, List.map_nil]
        repeat (first | (first | ((first | (with_reducible refine XRes_op tyOK ?_ ?_) | ((with_reducible first | refine ADF_op tyOK ?_ ?_ ?_ | refine ADX_op tyOK ?_ ?_ ?_); (focus rfl)) | (with_reducible refine ADR_alloc1 tyOK ?_ ?_) | ((with_reducible refine ADR_free1 tyOK ?_ ?_ ?_); (focus rfl)) | ((with_reducible refine ADR_free0 tyOK ?_ ?_ ?_); (focus rfl)) | ((with_reducible refine ADR_read1 tyOK ?_ ?_ ?_); (focus rfl)) | (with_reducible refine ADR_chg1 tyOK ?_ ?_)); (focus (first | (with_reducible rfl) | ((simp (disch := omega) only [go_sem]); done))); simp (disch := omega) only [go_sem , List.length_set, hs1, hs2, hs3, hs4, hs5, hs6, hs7, Int.toNat_zero, Int.toNat_one, List.length_nil, hT1, hT2, hT3]; (first | (with_reducible refine XRes_id ?_) | (with_reducible refine ADF_id ?_) | (with_reducible refine ADR_id1 ?_) | (with_reducible refine ADX_id ?_))) | ((first | (with_reducible refine XRes_skip ?_ ?_) | (with_reducible refine ADF_skip (b := true) ?_ ?_) | (with_reducible refine ADX_skip ?_ ?_) | ((with_reducible refine ADR_skip1 ?_ ?_ ?_); (focus rfl))); (focus (first | rfl | ((simp (disch := omega) only [go_sem]); done))); (simp only [putL, List.set_cons_succ, List.set_cons_zero]))) | ((first | (with_reducible refine XRes_nil ?_) | (with_reducible refine ADF_nil ?_) | (with_reducible refine ADR_nil ?_) | (with_reducible refine ADX_nil ?_)); (first | refine hK _ ?_ | refine hK _ _ ?_); clear hK K) | ((refine ADR_tellR (by rfl) hC ?_ (fun _ => rfl) ?_); (focus exact idsA (by rfl)); (simp only [putL, List.set_cons_succ, List.set_cons_zero])))
        (refine Wk.o ?_; (repeat revert hK K); refine W149ba ?_; (repeat intro K hK); refine ⟨?_⟩)
        exact WRN [0, 1, 2, 3, 4, 5] (i + 1, L1, St1, Of1, Vl1, lv1, rs1, E1) ⟨by (first | omega | (dsimp only; omega) | (simp only; omega)), by (first | omega | (dsimp only; omega) | (simp only; omega)), by (first | omega | (dsimp only; omega) | (simp only; omega)), hTT, hE1⟩ (by (first | omega | (dsimp only; omega) | (simp only; omega)))
      · skip
        (refine Wk.o ?_; (repeat revert hK K); refine W149ba ?_; (repeat intro K hK); refine ⟨?_⟩)
        refine AX_drawU tyOK (by kernel_rfl) (by decide +kernel) fun K hK => ?_
        simp only [go_sem, alU, kdU, List.map_cons, List.map_nil]
        repeat (first | (first | ((first | (with_reducible refine XRes_op tyOK ?_ ?_) | ((with_reducible first | refine ADF_op tyOK ?_ ?_ ?_ | refine ADX_op tyOK ?_ ?_ ?_); (focus rfl)) | (with_reducible refine ADR_alloc1 tyOK ?_ ?_) | ((with_reducible refine ADR_free1 tyOK ?_ ?_ ?_); (focus rfl)) | ((with_reducible refine ADR_free0 tyOK ?_ ?_ ?_); (focus rfl)) | ((with_reducible refine ADR_read1 tyOK ?_ ?_ ?_); (focus rfl)) | (with_reducible refine ADR_chg1 tyOK ?_ ?_)); (focus (first | (with_reducible rfl) | ((simp (disch := omega) only [go_sem]); done))); simp (disch := omega) only [go_sem , List.length_set, hs1, hs2, hs3, hs4, hs5, hs6, hs7, Int.toNat_zero, Int.toNat_one, List.length_nil, hT1, hT2, hT3]; (first | (with_reducible refine XRes_id ?_) | (with_reducible refine ADF_id ?_) | (with_reducible refine ADR_id1 ?_) | (with_reducible refine ADX_id ?_))) | ((first | (with_reducible refine XRes_skip ?_ ?_) | (with_reducible refine ADF_skip (b := true) ?_ ?_) | (with_reducible refine ADX_skip ?_ ?_) | ((with_reducible refine ADR_skip1 ?_ ?_ ?_); (focus rfl))); (focus (first | rfl | ((simp (disch := omega) only [go_sem]); done))); (simp only [putL, List.set_cons_succ, List.set_cons_zero]))) | ((first | (with_reducible refine XRes_nil ?_) | (with_reducible refine ADF_nil ?_) | (with_reducible refine ADR_nil ?_) | (with_reducible refine ADX_nil ?_)); (first | refine hK _ ?_ | refine hK _ _ ?_); clear hK K) | ((refine ADR_tellR (by rfl) hC ?_ (fun _ => rfl) ?_); (focus exact idsA (by rfl)); (simp only [putL, List.set_cons_succ, List.set_cons_zero])))
        (refine Wk.o ?_; (repeat revert hK K); refine W149ba ?_; (repeat intro K hK); refine ⟨?_⟩)
        exact WRN [0, 1, 2, 3, 4, 5] (i + 1, L1, St1, Of1, Vl1, lv1, rs1, E1) ⟨by (first | omega | (dsimp only; omega) | (simp only; omega)), by (first | omega | (dsimp only; omega) | (simp only; omega)), by (first | omega | (dsimp only; omega) | (simp only; omega)), hTT, hE1⟩ (by (first | omega | (dsimp only; omega) | (simp only; omega)))
  · obtain rfl : i = N := by omega
    (refine Wk.o ?_; (repeat revert hK K); refine W149ba ?_; (repeat intro K hK); refine ⟨?_⟩)
    (simp only [bodyX]; refine ⟨_, by simp only [aresults, aresult, XS.as, Try.results3, aload, go_sem, Option.bind_some]; rfl, ?_⟩)
    exact ⟨.iv _, rfl, trivial⟩
end Go.Proofs.Ytfpmfjmjnmjcdaa
