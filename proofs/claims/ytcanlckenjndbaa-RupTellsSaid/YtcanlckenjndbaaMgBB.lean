import Derived.Test.YtcanlckenjndbaaMgAZ
import Derived.Test.YtcanlckenjndbaaMgAP
import Derived.Test.YtcanlckenjndbaaMgAQ
import Derived.Test.YtcanlckenjndbaaMgAT
import Derived.Test.YtcanlckenjndbaaMgAU
import Derived.Test.YtcanlckenjndbaaMgBA
import Derived.Test.YtcanlckenjndbaaMgAV
namespace Go.Proofs.Ytcanlckenjndbaa
open Go.RowKit
def l8 (x : Int) : AV := lt (.int .i8 x)
theorem rnL_l8 (r : Nat → Nat) (xs : List Int) : rnL r (xs.map l8) = xs.map l8 := by rw [rnL_map, List.map_map]; rfl
theorem idL_l8 (p : Nat → Bool) (xs : List Int) : idL p (xs.map l8) = true := by rw [idL_all, List.all_map, List.all_eq_true]; exact fun _ _ => rfl
theorem l8_at {xs : List Int} {k : Nat} (h : k < xs.length) : (xs.map l8)[k]? = some (lt (.int .i8 (xs.getD k 0))) := by
  rw [List.getElem?_map, List.getElem?_eq_getElem h, List.getD_eq_getElem?_getD, List.getElem?_eq_getElem h]; rfl
theorem l8_set (xs : List Int) (k : Nat) (v : Int) : (xs.map l8).set k (lt (.int .i8 v)) = (xs.set k v).map l8 := by rw [List.map_set]; rfl
theorem l8_one (xs : List Int) : (xs.map l8).all AV.one = true := by rw [List.all_map, List.all_eq_true]; exact fun _ _ => rfl
attribute [go_sem] rnL_l8 idL_l8 l8_at l8_set l8_one
theorem xor_one (i : Nat) (h : i < 1000000000) : IntKind.i64.wrap ((BitVec.ofInt IntKind.i64.bits (i : Int) ^^^ BitVec.ofInt IntKind.i64.bits 1).toNat : Int) = (if i % 2 = 0 then i + 1 else i - 1 : Nat) := by
  have e1 : (BitVec.ofInt 64 (i : Int)) = BitVec.ofNat 64 i := by simp
  have e2 : (BitVec.ofInt 64 (1 : Int)) = BitVec.ofNat 64 1 := rfl
  show IntKind.i64.wrap ((BitVec.ofInt 64 (i : Int) ^^^ BitVec.ofInt 64 1).toNat : Int) = _
  rw [e1, e2, BitVec.toNat_xor, BitVec.toNat_ofNat, BitVec.toNat_ofNat]
  have e3 : i % 2 ^ 64 = i := Nat.mod_eq_of_lt (by omega)
  have e4 : 1 % 2 ^ 64 = 1 := rfl
  rw [e3, e4]
  have e5 : i ^^^ 1 = if i % 2 = 0 then i + 1 else i - 1 := by
    apply Nat.eq_of_testBit_eq
    intro j
    rw [Nat.testBit_xor]
    split
    · rename_i h2
      rcases j with _ | j
      · have h3 : (i + 1) % 2 = 1 := by omega
        simp [Nat.testBit_zero, h2, h3]
      · have a1 : Nat.testBit 1 (j + 1) = false := by simp [Nat.testBit_succ]
        rw [a1, Bool.xor_false, Nat.testBit_succ, Nat.testBit_succ]
        congr 1; omega
    · rename_i h2
      rcases j with _ | j
      · have h3 : i % 2 = 1 := by omega
        have h4 : (i - 1) % 2 = 0 := by omega
        simp [Nat.testBit_zero, h3, h4]
      · have a1 : Nat.testBit 1 (j + 1) = false := by simp [Nat.testBit_succ]
        rw [a1, Bool.xor_false, Nat.testBit_succ, Nat.testBit_succ]
        congr 1; omega
  rw [e5]
  have e6 : (if i % 2 = 0 then i + 1 else i - 1) ≤ 1000000000 := by split <;> omega
  clear e5
  generalize (if i % 2 = 0 then i + 1 else i - 1) = q at *
  exact wrap_in (x := (q : Int)) (by omega)
end Go.Proofs.Ytcanlckenjndbaa
namespace Go.Proofs.Ytcanlckenjndbaa
def lb (b : Bool) : AV := lt (.bool b)
theorem rnL_lb (r : Nat → Nat) (xs : List Bool) : rnL r (xs.map lb) = xs.map lb := by rw [rnL_map, List.map_map]; rfl
theorem idL_lb (p : Nat → Bool) (xs : List Bool) : idL p (xs.map lb) = true := by rw [idL_all, List.all_map, List.all_eq_true]; exact fun _ _ => rfl
theorem lb_at {xs : List Bool} {k : Nat} (h : k < xs.length) : (xs.map lb)[k]? = some (lt (.bool (xs.getD k false))) := by
  rw [List.getElem?_map, List.getElem?_eq_getElem h, List.getD_eq_getElem?_getD, List.getElem?_eq_getElem h]; rfl
theorem lb_set (xs : List Bool) (k : Nat) (v : Bool) : (xs.map lb).set k (lt (.bool v)) = (xs.set k v).map lb := by rw [List.map_set]; rfl
theorem lb_snoc (xs : List Bool) (v : Bool) : xs.map lb ++ [lt (.bool v)] = (xs ++ [v]).map lb := by rw [List.map_append]; rfl
theorem lb_one (xs : List Bool) : (xs.map lb).all AV.one = true := by rw [List.all_map, List.all_eq_true]; exact fun _ _ => rfl
theorem take_lb {xs : List Bool} {n : Nat} (h : xs.length ≤ n) : (xs.map lb).take n = xs.map lb := List.take_of_length_le (by simpa using h)
theorem rep_lb (n : Nat) : List.replicate n (AV.iv (IV.lit (Value.bool false))) = (List.replicate n false).map lb := by rw [List.map_replicate]; rfl
theorem Snap.twoP {H : AHeap} {x y x' y' : AV} (h : Snap H x x') (k : Snap H y y') : Snap H (.tup [x, y]) (.tup [x', y']) := .tup _ _ rfl fun i a b e1 e2 => by
  match i with
  | 0 => simp at e1 e2; subst e1 e2; exact h
  | 1 => simp at e1 e2; subst e1 e2; exact k
  | i + 2 => simp at e1
attribute [go_sem] rnL_lb idL_lb lb_at lb_set lb_snoc lb_one take_lb
end Go.Proofs.Ytcanlckenjndbaa
namespace Go.Proofs.Ytcanlckenjndbaa
open Go.RowKit
set_option linter.unusedVariables false
set_option linter.unusedSimpArgs false
structure TbAt (H : AHeap) (o q : Nat) (bs : List Bool) : Prop where
  h0 : H[o]? = some (some ⟨141, [.osl q 0 bs.length 1]⟩)
  h1 : H[q]? = some (some ⟨4, bs.map lb⟩)
theorem TbAt.sub {H H' : AHeap} {o q : Nat} {bs : List Bool} (h : TbAt H o q bs) (hs : Sub H H') : TbAt H' o q bs := ⟨hs.2 _ _ h.h0, hs.2 _ _ h.h1⟩
theorem W4403a {A B : Prop} (h9 : B) (w : B → A := by (intro h9; (repeat intro K hK); refine ⟨?_⟩; (repeat (first | (first | (with_reducible first | refine AX_block ?_ | refine AX_skip ?_ | refine AX_exit ?_ | refine AX_ret ?_ | refine AX_ift ?_ | refine AX_iff ?_ | refine AX_seq_k (fun K hK => ?_) | refine ContX.use (by assumption) ?_) | simp only [thenX, inBlockX, if_true, if_false, reduceCtorEq]) | (first | ((first | (with_reducible refine XRes_op tyOK ?_ ?_) | ((with_reducible first | refine ADF_op tyOK ?_ ?_ ?_ | refine ADX_op tyOK ?_ ?_ ?_); (focus rfl)) | (with_reducible refine ADR_alloc1 tyOK ?_ ?_) | ((with_reducible refine ADR_free1 tyOK ?_ ?_ ?_); (focus rfl)) | ((with_reducible refine ADR_free0 tyOK ?_ ?_ ?_); (focus rfl)) | ((with_reducible refine ADR_read1 tyOK ?_ ?_ ?_); (focus rfl)) | (with_reducible refine ADR_chg1 tyOK ?_ ?_)); (focus (first | (with_reducible rfl) | ((simp (disch := omega) only [go_sem]); done))); simp (disch := omega) only [go_sem , hs1, hs2, hs3, hs4, hs5, hs6, hs7, hs8, Int.toNat_zero, Int.toNat_one, List.length_nil, rep_lb]; (first | (with_reducible refine XRes_id ?_) | (with_reducible refine ADF_id ?_) | (with_reducible refine ADR_id1 ?_) | (with_reducible refine ADX_id ?_))) | ((first | (with_reducible refine XRes_skip ?_ ?_) | (with_reducible refine ADF_skip (b := true) ?_ ?_) | (with_reducible refine ADX_skip ?_ ?_) | ((with_reducible refine ADR_skip1 ?_ ?_ ?_); (focus rfl))); (focus (first | rfl | ((simp (disch := omega) only [go_sem]); done))); (simp only [putL, List.set_cons_succ, List.set_cons_zero]))) | ((first | (with_reducible refine XRes_nil ?_) | (with_reducible refine ADF_nil ?_) | (with_reducible refine ADR_nil ?_) | (with_reducible refine ADX_nil ?_)); (first | refine hK _ ?_ | refine hK _ _ ?_); clear hK K) | ((first | (with_reducible refine AX_reg0 fun K hK => ?_) | (refine AX_drawG1 tyOK (by kernel_rfl) (by rfl) (by kernel_rfl) fun K hK => ?_) | (refine AX_drawT tyOK (by kernel_rfl) (by decide +kernel) fun K hK => ?_) | (refine AX_drawM1 (by kernel_rfl) (by rfl) (by decide +kernel) fun K hK => ?_) | (refine AX_drawA tyOK (by kernel_rfl) (by decide +kernel) fun K hK => ?_)); (first | simp only [go_sem, preN, effOp, runF, alM, mapOp, alD2, kdOf2, Bool.not_false, Bool.not_true, reduceCtorEq] | simp only [go_sem, preN, effOp, runF, alM, mapOp, Bool.not_false, Bool.not_true, reduceCtorEq] | simp only [go_sem, preN, effOp, runF, alD2, kdOf2, Bool.not_false, Bool.not_true, reduceCtorEq] | simp only [go_sem, alD2, kdOf2, Bool.not_false, Bool.not_true, reduceCtorEq] | simp only [go_sem, preN, effOp, runF, Bool.not_false, Bool.not_true, reduceCtorEq] | simp only [go_sem])) | (first | (first | refine XTL (by rfl) hV ?_ | refine ATL tyOK (by rfl) hV ?_ | refine XTL (by rfl) hI ?_ | refine ATL tyOK (by rfl) hI ?_) | ((refine XRes_fn (by rfl) hC ?_); (rintro r H' ⟨rfl, rfl⟩); (simp only [putL, List.set_cons_succ, List.set_cons_zero]))))); refine Wk.o ?_; (repeat revert hK K); exact h9)) : A := w h9
set_option maxRecDepth 100000 in
set_option maxHeartbeats 2000000 in
theorem pf_tbValue {H : AHeap} {o q : Nat} {bs : List Bool} {l : List Int} (hH : TbAt H o q bs) (hr : Rep bs l) (hb : bs.length ≤ 1000000) (x : Int) : SF Try.prog 60 [.optr o 0, lt (.int .i64 x)] H fun r H' => r = lt (.int .i64 (aVal l x)) ∧ H' = H := by
  have hs1 := trivial; have hs2 := trivial; have hs3 := trivial; have hs4 := trivial; have hs5 := trivial; have hs6 := trivial; have hs7 := trivial; have hs8 := trivial
  have hC := trivial; have hV := trivial; have hI := trivial
  have hs1 := hH.h0; have hs2 := hH.h1
  have hI := pf_LIndex x
  have hv := aVal_tab hr x
  by_cases hz : lvar x = 0
  · rw [if_pos hz] at hv
    rw [hv]
    have hi : lindex x = -1 := by unfold lindex; rw [if_pos hz]
    rw [hi] at hI
    (refine SF_of_bodyX (aload tt) (aload_ok tyOK) Try.func60 rfl (by kernel_rfl) ?_; simp only [Try.ntmps60, List.length_cons, List.length_nil, Nat.reduceAdd, Nat.reduceSub, List.replicate_succ, List.replicate_zero, List.cons_append, List.nil_append])
    (refine Wk.o ?_; (repeat revert hK K); refine W4403a ?_; (repeat intro K hK); refine ⟨?_⟩)
    (simp only [bodyX]; refine ⟨_, by simp only [aresults, aresult, XS.as, Try.results60, aload, go_sem, Option.bind_some]; rfl, ?_⟩)
    exact ⟨rfl, trivial⟩
  · rw [if_neg hz] at hv
    obtain ⟨n, hn, hn2⟩ := lindex_nat hz
    have h1 := tOf_at (bs := bs) hn
    have h2 := tOf_at (bs := bs) (lindex_neg hz hn)
    have hx1 := xor_one n (by omega)
    rw [tb_xor] at h2
    rw [hn] at hI
    rw [hv]
    clear hn hv hr hz
    have hk2 : (if n % 2 = 0 then n + 1 else n - 1) ≤ n + 1 := by split <;> omega
    generalize (if n % 2 = 0 then n + 1 else n - 1) = k at *
    by_cases hn3 : n < bs.length
    · rw [decide_eq_true hn3, Bool.true_and] at h1
      cases hg : bs.getD n false
      · rw [hg] at h1
        rw [h1, if_neg (by decide)]
        have hs3 := hg
        by_cases hk3 : k < bs.length
        · rw [decide_eq_true hk3, Bool.true_and] at h2
          cases hg2 : bs.getD k false
          · rw [hg2] at h2
            rw [h2, if_neg (by decide)]
            have hs4 := hg2
            (refine SF_of_bodyX (aload tt) (aload_ok tyOK) Try.func60 rfl (by kernel_rfl) ?_; simp only [Try.ntmps60, List.length_cons, List.length_nil, Nat.reduceAdd, Nat.reduceSub, List.replicate_succ, List.replicate_zero, List.cons_append, List.nil_append])
            (refine Wk.o ?_; (repeat revert hK K); refine W4403a ?_; (repeat intro K hK); refine ⟨?_⟩)
            erw [hx1]
            (refine Wk.o ?_; (repeat revert hK K); refine W4403a ?_; (repeat intro K hK); refine ⟨?_⟩)
            erw [hx1]
            (refine Wk.o ?_; (repeat revert hK K); refine W4403a ?_; (repeat intro K hK); refine ⟨?_⟩)
            (simp only [bodyX]; refine ⟨_, by simp only [aresults, aresult, XS.as, Try.results60, aload, go_sem, Option.bind_some]; rfl, ?_⟩)
            exact ⟨rfl, trivial⟩
          · rw [hg2] at h2
            rw [h2, if_pos rfl]
            have hs4 := hg2
            (refine SF_of_bodyX (aload tt) (aload_ok tyOK) Try.func60 rfl (by kernel_rfl) ?_; simp only [Try.ntmps60, List.length_cons, List.length_nil, Nat.reduceAdd, Nat.reduceSub, List.replicate_succ, List.replicate_zero, List.cons_append, List.nil_append])
            (refine Wk.o ?_; (repeat revert hK K); refine W4403a ?_; (repeat intro K hK); refine ⟨?_⟩)
            erw [hx1]
            (refine Wk.o ?_; (repeat revert hK K); refine W4403a ?_; (repeat intro K hK); refine ⟨?_⟩)
            erw [hx1]
            (refine Wk.o ?_; (repeat revert hK K); refine W4403a ?_; (repeat intro K hK); refine ⟨?_⟩)
            (simp only [bodyX]; refine ⟨_, by simp only [aresults, aresult, XS.as, Try.results60, aload, go_sem, Option.bind_some]; rfl, ?_⟩)
            exact ⟨rfl, trivial⟩
        · rw [decide_eq_false hk3, Bool.false_and] at h2
          rw [h2, if_neg (by decide)]
          (refine SF_of_bodyX (aload tt) (aload_ok tyOK) Try.func60 rfl (by kernel_rfl) ?_; simp only [Try.ntmps60, List.length_cons, List.length_nil, Nat.reduceAdd, Nat.reduceSub, List.replicate_succ, List.replicate_zero, List.cons_append, List.nil_append])
          (refine Wk.o ?_; (repeat revert hK K); refine W4403a ?_; (repeat intro K hK); refine ⟨?_⟩)
          erw [hx1]
          (refine Wk.o ?_; (repeat revert hK K); refine W4403a ?_; (repeat intro K hK); refine ⟨?_⟩)
          (simp only [bodyX]; refine ⟨_, by simp only [aresults, aresult, XS.as, Try.results60, aload, go_sem, Option.bind_some]; rfl, ?_⟩)
          exact ⟨rfl, trivial⟩
      · rw [hg] at h1
        rw [h1, if_pos rfl]
        have hs3 := hg
        (refine SF_of_bodyX (aload tt) (aload_ok tyOK) Try.func60 rfl (by kernel_rfl) ?_; simp only [Try.ntmps60, List.length_cons, List.length_nil, Nat.reduceAdd, Nat.reduceSub, List.replicate_succ, List.replicate_zero, List.cons_append, List.nil_append])
        (refine Wk.o ?_; (repeat revert hK K); refine W4403a ?_; (repeat intro K hK); refine ⟨?_⟩)
        (simp only [bodyX]; refine ⟨_, by simp only [aresults, aresult, XS.as, Try.results60, aload, go_sem, Option.bind_some]; rfl, ?_⟩)
        exact ⟨rfl, trivial⟩
    · rw [decide_eq_false hn3, Bool.false_and] at h1
      rw [h1, if_neg (by decide)]
      by_cases hk3 : k < bs.length
      · rw [decide_eq_true hk3, Bool.true_and] at h2
        cases hg2 : bs.getD k false
        · rw [hg2] at h2
          rw [h2, if_neg (by decide)]
          have hs4 := hg2
          (refine SF_of_bodyX (aload tt) (aload_ok tyOK) Try.func60 rfl (by kernel_rfl) ?_; simp only [Try.ntmps60, List.length_cons, List.length_nil, Nat.reduceAdd, Nat.reduceSub, List.replicate_succ, List.replicate_zero, List.cons_append, List.nil_append])
          (refine Wk.o ?_; (repeat revert hK K); refine W4403a ?_; (repeat intro K hK); refine ⟨?_⟩)
          erw [hx1]
          (refine Wk.o ?_; (repeat revert hK K); refine W4403a ?_; (repeat intro K hK); refine ⟨?_⟩)
          erw [hx1]
          (refine Wk.o ?_; (repeat revert hK K); refine W4403a ?_; (repeat intro K hK); refine ⟨?_⟩)
          (simp only [bodyX]; refine ⟨_, by simp only [aresults, aresult, XS.as, Try.results60, aload, go_sem, Option.bind_some]; rfl, ?_⟩)
          exact ⟨rfl, trivial⟩
        · rw [hg2] at h2
          rw [h2, if_pos rfl]
          have hs4 := hg2
          (refine SF_of_bodyX (aload tt) (aload_ok tyOK) Try.func60 rfl (by kernel_rfl) ?_; simp only [Try.ntmps60, List.length_cons, List.length_nil, Nat.reduceAdd, Nat.reduceSub, List.replicate_succ, List.replicate_zero, List.cons_append, List.nil_append])
          (refine Wk.o ?_; (repeat revert hK K); refine W4403a ?_; (repeat intro K hK); refine ⟨?_⟩)
          erw [hx1]
          (refine Wk.o ?_; (repeat revert hK K); refine W4403a ?_; (repeat intro K hK); refine ⟨?_⟩)
          erw [hx1]
          (refine Wk.o ?_; (repeat revert hK K); refine W4403a ?_; (repeat intro K hK); refine ⟨?_⟩)
          (simp only [bodyX]; refine ⟨_, by simp only [aresults, aresult, XS.as, Try.results60, aload, go_sem, Option.bind_some]; rfl, ?_⟩)
          exact ⟨rfl, trivial⟩
      · rw [decide_eq_false hk3, Bool.false_and] at h2
        rw [h2, if_neg (by decide)]
        (refine SF_of_bodyX (aload tt) (aload_ok tyOK) Try.func60 rfl (by kernel_rfl) ?_; simp only [Try.ntmps60, List.length_cons, List.length_nil, Nat.reduceAdd, Nat.reduceSub, List.replicate_succ, List.replicate_zero, List.cons_append, List.nil_append])
        (refine Wk.o ?_; (repeat revert hK K); refine W4403a ?_; (repeat intro K hK); refine ⟨?_⟩)
        erw [hx1]
        (refine Wk.o ?_; (repeat revert hK K); refine W4403a ?_; (repeat intro K hK); refine ⟨?_⟩)
        (simp only [bodyX]; refine ⟨_, by simp only [aresults, aresult, XS.as, Try.results60, aload, go_sem, Option.bind_some]; rfl, ?_⟩)
        exact ⟨rfl, trivial⟩
end Go.Proofs.Ytcanlckenjndbaa
