import Derived.Shelf.Sort.Plain
import Derived.Shelf.Slices.In.SortNone
import Derived.Test.YtdaenbgjafalcaaDoorMgAW
import Derived.Test.YtdaenbgjafalcaaDoorMgAU
import Derived.Test.YtdaenbgjafalcaaDoorMgAI
namespace Go.Proofs.YtdaenbgjafalcaaDoor
open Go.RowKit Go.Shelf Go.Lib Go.Sort
set_option linter.unusedVariables false
theorem Inv.same {G : Gh} {H : AHeap} {w w' : World} (h : Inv G H w) (ho : w'.os = w.os) (ht : w'.tape = w.tape) (hp : w'.output = w.output) (hh : ∀ (b : Nat) (x : Obj), w.heap[b]? = some x → w'.heap[b]? = some x) : Inv G H w' :=
  ⟨ho.trans h.os, ht.trans h.tape, hp.trans h.output, fun b x e => hh b x (h.fz b x e), fun b x e => hh b x (h.kp b x e), h.dom, h.live, fun o x e => (h.obj o x e).imp id fun ⟨k0, cs, k1, k2, k3, k4, k5, k6⟩ => ⟨k0, cs, hh _ _ k1, k2, k3, k4, k5, k6⟩, h.inj⟩
def isort (xs : List Int) : List Int := xs.mergeSort fun x y => decide (x ≤ y)
theorem isort_len (xs : List Int) : (isort xs).length = xs.length := List.length_mergeSort xs
theorem isort_nil : isort [] = [] := List.length_eq_zero_iff.1 (isort_len [])
theorem isort_perm (xs : List Int) : (isort xs).Perm xs := List.mergeSort_perm xs _
theorem isort_sorted (xs : List Int) : (isort xs).Pairwise fun x y => x ≤ y := by
  have h := List.pairwise_mergeSort (le := fun x y : Int => decide (x ≤ y)) (fun a b c h1 h2 => by simp at h1 h2 ⊢; omega) (fun a b => by simp; omega) xs
  exact h.imp fun h => by simpa using h
end Go.Proofs.YtdaenbgjafalcaaDoor
namespace Go.Proofs.YtdaenbgjafalcaaDoor
theorem isort_eq {xs ys : List Int} (h : ys.Perm xs) (hs : ys.Pairwise fun x y => x ≤ y) : isort xs = ys :=
  List.Perm.eq_of_pairwise (le := fun x y : Int => x ≤ y) (fun a b _ _ h1 h2 => by omega) (isort_sorted xs) hs ((isort_perm xs).trans h.symm)
theorem mem_isort {xs : List Int} {x : Int} : x ∈ isort xs ↔ x ∈ xs := (isort_perm xs).mem_iff
theorem isort_put {xs ys : List Int} {p : Int} {k : Nat} (h : ys = isort xs) (hk : k ≤ ys.length) (h1 : ∀ j, j < k → ys.getD j 0 < p) (h2 : k < ys.length → p ≤ ys.getD k 0) : ys.take k ++ [p] ++ ys.drop k = isort (xs ++ [p]) := by
  symm
  have hs : ys.Pairwise fun x y => x ≤ y := by rw [h]; exact isort_sorted xs
  have hp : ys.Perm xs := by rw [h]; exact isort_perm xs
  have hsp : ∀ i j, i < j → j < ys.length → ys.getD i 0 ≤ ys.getD j 0 := fun i j hij hj => by
    have := List.pairwise_iff_getElem.1 hs i j (by omega) hj hij
    rw [List.getD_eq_getElem?_getD, List.getD_eq_getElem?_getD, List.getElem?_eq_getElem (by omega : i < ys.length), List.getElem?_eq_getElem hj]
    exact this
  have ht : ∀ x, x ∈ ys.take k → ∃ j, j < k ∧ j < ys.length ∧ ys.getD j 0 = x := fun x hx => by
    obtain ⟨j, hj, rfl⟩ := List.mem_iff_getElem.1 hx
    have hj' := hj
    rw [List.length_take] at hj'
    refine ⟨j, by omega, by omega, ?_⟩
    rw [List.getElem_take, List.getD_eq_getElem?_getD, List.getElem?_eq_getElem (by omega : j < ys.length)]; rfl
  have hd : ∀ x, x ∈ ys.drop k → ∃ j, k ≤ j ∧ j < ys.length ∧ ys.getD j 0 = x := fun x hx => by
    obtain ⟨j, hj, rfl⟩ := List.mem_iff_getElem.1 hx
    have hj' := hj
    rw [List.length_drop] at hj'
    refine ⟨k + j, by omega, by omega, ?_⟩
    rw [List.getElem_drop, List.getD_eq_getElem?_getD, List.getElem?_eq_getElem (by omega : k + j < ys.length)]; rfl
  refine isort_eq ?_ ?_
  · have e : (ys.take k ++ [p] ++ ys.drop k).Perm (ys.take k ++ ys.drop k ++ [p]) := by
      rw [List.append_assoc, List.append_assoc]
      exact List.Perm.append_left _ List.perm_append_comm
    rw [List.take_append_drop] at e
    exact e.trans (hp.append_right _)
  · rw [List.pairwise_append, List.pairwise_append]
    refine ⟨⟨hs.sublist (List.take_sublist _ _), List.pairwise_singleton _ _, fun a ha b hb => ?_⟩, hs.sublist (List.drop_sublist _ _), fun a ha b hb => ?_⟩
    · rw [List.mem_singleton.1 hb]
      obtain ⟨j, j1, j2, rfl⟩ := ht a ha
      have := h1 j j1; omega
    · obtain ⟨q, q1, q2, rfl⟩ := hd b hb
      rcases List.mem_append.1 ha with ha | ha
      · obtain ⟨j, j1, j2, rfl⟩ := ht a ha
        exact hsp j q (by omega) q2
      · rw [List.mem_singleton.1 ha]
        have h3 := h2 (by omega)
        rcases Nat.lt_or_ge k q with h4 | h4
        · have := hsp k q h4 q2; omega
        · rw [show q = k by omega]; exact h3
def eKin (xs : List Ev3) : Nat → Int
  | 0 => 0
  | k + 1 => if (evAt xs k).w = 1 then max (eKin xs k) (min (evAt xs k).n 63 + 1) else eKin xs k
theorem eKin_succ (xs : List Ev3) (k : Nat) : eKin xs (k + 1) = if (evAt xs k).w = 1 then max (eKin xs k) (min (evAt xs k).n 63 + 1) else eKin xs k := rfl
theorem eKin_le (xs : List Ev3) : ∀ k, 0 ≤ eKin xs k ∧ eKin xs k ≤ 64
  | 0 => by unfold eKin; omega
  | k + 1 => by
    have := eKin_le xs k
    unfold eKin
    split <;> omega
def eLM (xs : List Ev3) : Nat → Int → Option Int
  | 0 => fun _ => none
  | k + 1 => if (evAt xs k).w = 1 then updF (eLM xs k) (evAt xs k).p k else delF (eLM xs k) (evAt xs k).p
def eOp (xs : List Ev3) (i : Nat) : Bool := decide ((evAt xs i).w = 1 ∧ eWhere xs xs.length (evAt xs i).p = i)
def oks (xs : List Ev3) : Nat → List Int
  | 0 => []
  | k + 1 => if eOp xs k = true then oks xs k ++ [(evAt xs k).p] else oks xs k
theorem mem_oks {xs : List Ev3} {p : Int} : ∀ {k : Nat}, p ∈ oks xs k ↔ ∃ i, i < k ∧ eOp xs i = true ∧ (evAt xs i).p = p
  | 0 => ⟨fun h => by simp [oks] at h, fun ⟨i, h, _⟩ => by omega⟩
  | k + 1 => by
    unfold oks
    constructor
    · intro h
      split at h
      · rename_i ho
        rcases List.mem_append.1 h with h | h
        · obtain ⟨i, h1, h2⟩ := mem_oks.1 h; exact ⟨i, by omega, h2⟩
        · exact ⟨k, by omega, ho, (List.mem_singleton.1 h).symm⟩
      · obtain ⟨i, h1, h2⟩ := mem_oks.1 h; exact ⟨i, by omega, h2⟩
    · rintro ⟨i, h1, h2, h3⟩
      rcases Nat.lt_or_ge i k with h4 | h4
      · have : p ∈ oks xs k := mem_oks.2 ⟨i, h4, h2, h3⟩
        split
        · exact List.mem_append_left _ this
        · exact this
      · obtain rfl : i = k := by omega
        rw [if_pos h2]
        exact List.mem_append_right _ (by simp [h3])
theorem eOp_iff {xs : List Ev3} {i : Nat} : eOp xs i = true ↔ (evAt xs i).w = 1 ∧ eWhere xs xs.length (evAt xs i).p = i := by unfold eOp; rw [decide_eq_true_eq]
theorem eWhere_at {xs : List Ev3} {p : Int} : ∀ {k : Nat}, 0 ≤ eWhere xs k p → (evAt xs (eWhere xs k p).toNat).p = p
  | 0, h => by unfold eWhere at h; omega
  | k + 1, h => by
    unfold eWhere at h ⊢
    split
    · rename_i hp; simpa using hp
    · rename_i hp; rw [if_neg hp] at h; exact eWhere_at h
theorem mem_open {xs : List Ev3} {p : Int} : p ∈ oks xs xs.length ↔ eLast xs xs.length p = 1 := by
  rw [mem_oks]
  constructor
  · rintro ⟨i, h1, h2, rfl⟩
    obtain ⟨h3, h4⟩ := eOp_iff.1 h2
    rw [eWhere_some (by rw [h4]; omega), h4]
    simpa using h3
  · intro h
    have hw : 0 ≤ eWhere xs xs.length p := by
      rcases Int.lt_or_le (eWhere xs xs.length p) 0 with h1 | h1
      · rw [eWhere_none h1] at h; omega
      · exact h1
    have hlt := (eWhere_lt xs p xs.length).2
    refine ⟨(eWhere xs xs.length p).toNat, by omega, eOp_iff.2 ⟨?_, ?_⟩, eWhere_at hw⟩
    · rw [← eWhere_some hw]; exact h
    · rw [eWhere_at hw]; omega
theorem oks_len (xs : List Ev3) : ∀ k, (oks xs k).length ≤ k
  | 0 => by simp [oks]
  | k + 1 => by
    have := oks_len xs k
    unfold oks
    split
    · rw [List.length_append]; simp; omega
    · omega
def eOps (xs : List Ev3) : List Int := isort (oks xs xs.length)
def eSel (xs : List Ev3) (g : Nat → Bool) : Nat → List Ev3
  | 0 => []
  | k + 1 => if g k = true then eSel xs g k ++ [evAt xs k] else eSel xs g k
theorem flatE_app (xs : List Ev3) (x : Ev3) : flatE (xs ++ [x]) = flatE xs ++ [x.w, x.p, x.n] := by unfold flatE; rw [List.flatMap_append]; rfl
def ePg (xs : List Ev3) (p : Int) (i : Nat) : Bool := decide ((evAt xs i).p = p)
def eDg (xs : List Ev3) (i : Nat) : Bool := !eOp xs i
def eOfL (xs : List Ev3) (p : Int) : List Ev3 := eSel xs (ePg xs p) xs.length
def eDoneL (xs : List Ev3) : List Ev3 := eSel xs (eDg xs) xs.length
def eSame (xs ys : List Ev3) : Bool := decide (xs.length = ys.length) && (List.range xs.length).all fun i => eFl (evAt xs i) == eFl (evAt ys i)
theorem eSame_no1 {xs ys : List Ev3} (h : ¬ xs.length = ys.length) : eSame xs ys = false := by unfold eSame; rw [decide_eq_false h]; rfl
theorem eSame_no2 {xs ys : List Ev3} {i : Nat} (hi : i < xs.length) (h : eFl (evAt xs i) ≠ eFl (evAt ys i)) : eSame xs ys = false := by
  unfold eSame
  rw [Bool.and_eq_false_iff]; right
  rw [List.all_eq_false]
  exact ⟨i, List.mem_range.2 hi, by simpa using h⟩
theorem eSame_yes {xs ys : List Ev3} (h : xs.length = ys.length) (h2 : ∀ i, i < xs.length → eFl (evAt xs i) = eFl (evAt ys i)) : eSame xs ys = true := by
  unfold eSame
  rw [decide_eq_true h, Bool.true_and, List.all_eq_true]
  exact fun i hi => by simpa using h2 i (List.mem_range.1 hi)
theorem eSame_refl (xs : List Ev3) : eSame xs xs = true := eSame_yes rfl fun _ _ => rfl
end Go.Proofs.YtdaenbgjafalcaaDoor
namespace Go.Proofs.YtdaenbgjafalcaaDoor
open Go.RowKit
set_option linter.unusedVariables false
set_option linter.unusedSimpArgs false
abbrev evA (x : Ev3) : AV := .agg [lt (.int .i64 x.w), lt (.int .i64 x.p), lt (.int .i64 x.n)]
theorem flatE_at {j : Nat} (hj : j < 3) (xs : List Ev3) (i : Nat) : (flatE xs).getD (i * 3 + j) 0 = (eFl (evAt xs i)).getD j 0 := by
  refine flat_at (g := eFl) (w := 3) (fun _ => rfl) _ hj ?_ xs i
  match j, hj with | 0, _ | 1, _ | 2, _ => rfl
theorem flatE_w (xs : List Ev3) (i : Nat) : (flatE xs).getD (i * 3) 0 = (evAt xs i).w := flatE_at (j := 0) (by omega) xs i
theorem flatE_p (xs : List Ev3) (i : Nat) : (flatE xs).getD (i * 3 + 1) 0 = (evAt xs i).p := flatE_at (j := 1) (by omega) xs i
theorem flatE_n (xs : List Ev3) (i : Nat) : (flatE xs).getD (i * 3 + 2) 0 = (evAt xs i).n := flatE_at (j := 2) (by omega) xs i
theorem Wfceea {A B : Prop} (h9 : B) (w : B → A := by (intro h9; (repeat intro K hK); refine ⟨?_⟩; (repeat (first | (first | (with_reducible first | refine AX_block ?_ | refine AX_skip ?_ | refine AX_exit ?_ | refine AX_ret ?_ | refine AX_ift ?_ | refine AX_iff ?_ | refine AX_seq_k (fun K hK => ?_) | refine ContX.use (by assumption) ?_) | simp only [thenX, inBlockX, if_true, if_false, reduceCtorEq]) | (first | ((with_reducible first | refine XOP tyOK ?_ | refine AOP tyOK ?_); simp (disch := omega) only [go_sem , flatE_w, flatE_p, flatE_n]; (with_reducible first | refine XRes_id ?_ | refine ADF_id ?_)) | (with_reducible first | refine XSK ?_ | refine ASK ?_)) | ((first | (with_reducible refine XRes_nil ?_) | (with_reducible refine ADF_nil ?_)); (first | refine hK _ ?_ | refine hK _ _ ?_); clear hK K) | ((first | (with_reducible refine AX_reg0 fun K hK => ?_) | (refine AX_drawG1 tyOK (by kernel_rfl) (by rfl) (by kernel_rfl) fun K hK => ?_)); simp only [go_sem]) | (first | ((refine XRes_slot (by rfl) rfl (PF.tells (idsA rfl) (fun _ => rfl) (pf_eWithin _ _ _)) ?_); rintro r H' ⟨rfl, rfl⟩; (simp only [putL, List.set_cons_succ, List.set_cons_zero])) | (first | refine XTL (by rfl) (pf_rOpen xs _ _ (by omega) (by omega)) ?_ | refine ATL tyOK (by rfl) (pf_rOpen xs _ _ (by omega) (by omega)) ?_ | refine XTL (by rfl) (pf_rLast xs _ _ (by omega) (by omega)) ?_ | refine ATL tyOK (by rfl) (pf_rLast xs _ _ (by omega) (by omega)) ?_ | refine XTL (by rfl) (pf_eMay _) ?_ | refine ATL tyOK (by rfl) (pf_eMay _) ?_)))); refine Wk.o ?_; (repeat revert hK K); exact h9)) : A := w h9
set_option maxRecDepth 100000 in
set_option maxHeartbeats 1000000 in
theorem pf_eWithin (n lo hi : Int) : PF Tryd.prog 71 [lt (.int .i64 n), lt (.int .i64 lo), lt (.int .i64 hi)] fun r H' => r = lt (.bool (decide (lo ≤ n ∧ n ≤ hi))) ∧ H' = [] := by
  refine SF.forgetAll ?_
  (refine SF_of_bodyX (aload tt) (aload_ok tyOK) Tryd.func71 rfl (by kernel_rfl) ?_; simp only [Tryd.ntmps71, List.length_cons, List.length_nil, Nat.reduceAdd, Nat.reduceSub, List.replicate_succ, List.replicate_zero, List.cons_append, List.nil_append])
  (repeat' (first | (first | (with_reducible first | refine AX_block ?_ | refine AX_skip ?_ | refine AX_exit ?_ | refine AX_ret ?_ | refine AX_ift ?_ | refine AX_iff ?_ | refine AX_seq_k (fun K hK => ?_) | refine ContX.use (by assumption) ?_) | simp only [thenX, inBlockX, if_true, if_false, reduceCtorEq]) | (first | ((with_reducible first | refine XOP tyOK ?_ | refine AOP tyOK ?_); simp (disch := omega) only [go_sem , flatE_w, flatE_p, flatE_n]; (with_reducible first | refine XRes_id ?_ | refine ADF_id ?_)) | (with_reducible first | refine XSK ?_ | refine ASK ?_)) | ((first | (with_reducible refine XRes_nil ?_) | (with_reducible refine ADF_nil ?_)); (first | refine hK _ ?_ | refine hK _ _ ?_); clear hK K) | ((first | (with_reducible refine AX_reg0 fun K hK => ?_) | (refine AX_drawG1 tyOK (by kernel_rfl) (by rfl) (by kernel_rfl) fun K hK => ?_)); simp only [go_sem]) | (first | ((refine XRes_slot (by rfl) rfl (PF.tells (idsA rfl) (fun _ => rfl) (pf_eWithin _ _ _)) ?_); rintro r H' ⟨rfl, rfl⟩; (simp only [putL, List.set_cons_succ, List.set_cons_zero])) | (first | refine XTL (by rfl) (pf_rOpen xs _ _ (by omega) (by omega)) ?_ | refine ATL tyOK (by rfl) (pf_rOpen xs _ _ (by omega) (by omega)) ?_ | refine XTL (by rfl) (pf_rLast xs _ _ (by omega) (by omega)) ?_ | refine ATL tyOK (by rfl) (pf_rLast xs _ _ (by omega) (by omega)) ?_ | refine XTL (by rfl) (pf_eMay _) ?_ | refine ATL tyOK (by rfl) (pf_eMay _) ?_)) | ((first | (refine XRes_splitG (by rfl) (fun hc => ?_) (fun hc => ?_)) | (refine ADF_splitG (by rfl) (fun hc => ?_) (fun hc => ?_))) <;> (try simp only [eqRes, List.cons_beq_cons, Bool.and_eq_true, Bool.not_eq_true, Bool.and_eq_false_iff, decide_eq_true_eq, decide_eq_false_iff_not, bne_iff_ne, beq_iff_eq, bne_eq_false_iff_eq, beq_eq_false_iff_ne, Bool.not_eq_true', Bool.not_eq_false', ne_eq, Int.not_lt, Int.not_le, Decidable.not_not] at hc) <;> simp only [List.set_cons_succ, List.set_cons_zero]) | (first | ((with_reducible refine AX_if_t ?_ ?_); focus (simp (disch := omega) only [go_sem , flatE_w, flatE_p, flatE_n]; done)) | ((with_reducible refine AX_if_f ?_ ?_); focus (simp (disch := omega) only [go_sem , flatE_w, flatE_p, flatE_n]; done)) | (refine AX_cond _ (by rfl) (fun hc => ?_) (fun hc => ?_) <;> (try simp only [eqRes, List.cons_beq_cons, Bool.and_eq_true, Bool.not_eq_true, Bool.and_eq_false_iff, decide_eq_true_eq, decide_eq_false_iff_not, bne_iff_ne, beq_iff_eq, bne_eq_false_iff_eq, beq_eq_false_iff_ne, Bool.not_eq_true', Bool.not_eq_false', ne_eq, Int.not_lt, Int.not_le, Decidable.not_not] at hc)))))
  all_goals
    (simp only [bodyX]; refine ⟨_, by simp only [aresults, aresult, XS.as, Tryd.results71, aload, go_sem, Option.bind_some]; rfl, ?_⟩)
    exact ⟨.iv _, (by first | rw [decide_eq_false (by omega)] | simp [hc]), trivial⟩
set_option maxRecDepth 100000 in
set_option maxHeartbeats 1000000 in
theorem pf_eMay (x : Ev3) : PF Tryd.prog 58 [evA x] fun r H' => r = lt (.int .i64 (eMay x)) ∧ H' = [] := by
  refine SF.forgetAll ?_
  (refine SF_of_bodyX (aload tt) (aload_ok tyOK) Tryd.func58 rfl (by kernel_rfl) ?_; simp only [Tryd.ntmps58, List.length_cons, List.length_nil, Nat.reduceAdd, Nat.reduceSub, List.replicate_succ, List.replicate_zero, List.cons_append, List.nil_append])
  (repeat' (first | (first | (with_reducible first | refine AX_block ?_ | refine AX_skip ?_ | refine AX_exit ?_ | refine AX_ret ?_ | refine AX_ift ?_ | refine AX_iff ?_ | refine AX_seq_k (fun K hK => ?_) | refine ContX.use (by assumption) ?_) | simp only [thenX, inBlockX, if_true, if_false, reduceCtorEq]) | (first | ((with_reducible first | refine XOP tyOK ?_ | refine AOP tyOK ?_); simp (disch := omega) only [go_sem , flatE_w, flatE_p, flatE_n]; (with_reducible first | refine XRes_id ?_ | refine ADF_id ?_)) | (with_reducible first | refine XSK ?_ | refine ASK ?_)) | ((first | (with_reducible refine XRes_nil ?_) | (with_reducible refine ADF_nil ?_)); (first | refine hK _ ?_ | refine hK _ _ ?_); clear hK K) | ((first | (with_reducible refine AX_reg0 fun K hK => ?_) | (refine AX_drawG1 tyOK (by kernel_rfl) (by rfl) (by kernel_rfl) fun K hK => ?_)); simp only [go_sem]) | (first | ((refine XRes_slot (by rfl) rfl (PF.tells (idsA rfl) (fun _ => rfl) (pf_eWithin _ _ _)) ?_); rintro r H' ⟨rfl, rfl⟩; (simp only [putL, List.set_cons_succ, List.set_cons_zero])) | (first | refine XTL (by rfl) (pf_rOpen xs _ _ (by omega) (by omega)) ?_ | refine ATL tyOK (by rfl) (pf_rOpen xs _ _ (by omega) (by omega)) ?_ | refine XTL (by rfl) (pf_rLast xs _ _ (by omega) (by omega)) ?_ | refine ATL tyOK (by rfl) (pf_rLast xs _ _ (by omega) (by omega)) ?_ | refine XTL (by rfl) (pf_eMay _) ?_ | refine ATL tyOK (by rfl) (pf_eMay _) ?_)) | ((first | (refine XRes_splitG (by rfl) (fun hc => ?_) (fun hc => ?_)) | (refine ADF_splitG (by rfl) (fun hc => ?_) (fun hc => ?_))) <;> (try simp only [eqRes, List.cons_beq_cons, Bool.and_eq_true, Bool.not_eq_true, Bool.and_eq_false_iff, decide_eq_true_eq, decide_eq_false_iff_not, bne_iff_ne, beq_iff_eq, bne_eq_false_iff_eq, beq_eq_false_iff_ne, Bool.not_eq_true', Bool.not_eq_false', ne_eq, Int.not_lt, Int.not_le, Decidable.not_not] at hc) <;> simp only [List.set_cons_succ, List.set_cons_zero]) | (first | ((with_reducible refine AX_if_t ?_ ?_); focus (simp (disch := omega) only [go_sem , flatE_w, flatE_p, flatE_n]; done)) | ((with_reducible refine AX_if_f ?_ ?_); focus (simp (disch := omega) only [go_sem , flatE_w, flatE_p, flatE_n]; done)) | (refine AX_cond _ (by rfl) (fun hc => ?_) (fun hc => ?_) <;> (try simp only [eqRes, List.cons_beq_cons, Bool.and_eq_true, Bool.not_eq_true, Bool.and_eq_false_iff, decide_eq_true_eq, decide_eq_false_iff_not, bne_iff_ne, beq_iff_eq, bne_eq_false_iff_eq, beq_eq_false_iff_ne, Bool.not_eq_true', Bool.not_eq_false', ne_eq, Int.not_lt, Int.not_le, Decidable.not_not] at hc)))))
  all_goals
    (simp only [bodyX]; refine ⟨_, by simp only [aresults, aresult, XS.as, Tryd.results58, aload, go_sem, Option.bind_some]; rfl, ?_⟩)
    exact ⟨.iv _, (by congr 2; unfold eMay; (repeat' split) <;> omega), trivial⟩
set_option maxRecDepth 100000 in
set_option maxHeartbeats 1000000 in
theorem pf_rLast (xs : List Ev3) (i : Nat) (p : Int) (hi : i ≤ xs.length) (hx : xs.length ≤ 100000) : PF Tryd.prog 66 [.iv (.sl (fun j => .lit (.int .i64 ((flatE xs).getD j 0))) i 3), lt (.int .i64 p)] fun r H' => r = lt (.int .i64 (eWhere xs i p)) ∧ H' = [] := by
  refine SF.forgetAll ?_
  (refine SF_of_bodyX (aload tt) (aload_ok tyOK) Tryd.func66 rfl (by kernel_rfl) ?_; simp only [Tryd.ntmps66, List.length_cons, List.length_nil, Nat.reduceAdd, Nat.reduceSub, List.replicate_succ, List.replicate_zero, List.cons_append, List.nil_append])
  (refine Wk.o ?_; (repeat revert hK K); refine Wfceea ?_; (repeat intro K hK); refine ⟨?_⟩)
  (refine AWH (σ := Nat) [7, 8, 9, 10, 13, 14, 15, 16, 17, 18, 19, 20, 11, 12] (fun k => [(6, lint k), (5, lint (eWhere xs k p))]) (fun k => []) (fun k => []) (fun k => k ≤ i) (fun k => i - k) 0 (by first | exact Nat.zero_le _) ?_; rintro k d fr hfr hk; simp only [updS, deadS, List.set_cons_succ, List.set_cons_zero, lint] at hfr; subst hfr; (try dsimp only))
  (repeat' (first | (first | (with_reducible first | refine AX_block ?_ | refine AX_skip ?_ | refine AX_exit ?_ | refine AX_ret ?_ | refine AX_ift ?_ | refine AX_iff ?_ | refine AX_seq_k (fun K hK => ?_) | refine ContX.use (by assumption) ?_) | simp only [thenX, inBlockX, if_true, if_false, reduceCtorEq]) | (first | ((with_reducible first | refine XOP tyOK ?_ | refine AOP tyOK ?_); simp (disch := omega) only [go_sem , flatE_w, flatE_p, flatE_n]; (with_reducible first | refine XRes_id ?_ | refine ADF_id ?_)) | (with_reducible first | refine XSK ?_ | refine ASK ?_)) | ((first | (with_reducible refine XRes_nil ?_) | (with_reducible refine ADF_nil ?_)); (first | refine hK _ ?_ | refine hK _ _ ?_); clear hK K) | ((first | (with_reducible refine AX_reg0 fun K hK => ?_) | (refine AX_drawG1 tyOK (by kernel_rfl) (by rfl) (by kernel_rfl) fun K hK => ?_)); simp only [go_sem]) | (first | ((refine XRes_slot (by rfl) rfl (PF.tells (idsA rfl) (fun _ => rfl) (pf_eWithin _ _ _)) ?_); rintro r H' ⟨rfl, rfl⟩; (simp only [putL, List.set_cons_succ, List.set_cons_zero])) | (first | refine XTL (by rfl) (pf_rOpen xs _ _ (by omega) (by omega)) ?_ | refine ATL tyOK (by rfl) (pf_rOpen xs _ _ (by omega) (by omega)) ?_ | refine XTL (by rfl) (pf_rLast xs _ _ (by omega) (by omega)) ?_ | refine ATL tyOK (by rfl) (pf_rLast xs _ _ (by omega) (by omega)) ?_ | refine XTL (by rfl) (pf_eMay _) ?_ | refine ATL tyOK (by rfl) (pf_eMay _) ?_)) | ((first | (refine XRes_splitG (by rfl) (fun hc => ?_) (fun hc => ?_)) | (refine ADF_splitG (by rfl) (fun hc => ?_) (fun hc => ?_))) <;> (try simp only [eqRes, List.cons_beq_cons, Bool.and_eq_true, Bool.not_eq_true, Bool.and_eq_false_iff, decide_eq_true_eq, decide_eq_false_iff_not, bne_iff_ne, beq_iff_eq, bne_eq_false_iff_eq, beq_eq_false_iff_ne, Bool.not_eq_true', Bool.not_eq_false', ne_eq, Int.not_lt, Int.not_le, Decidable.not_not] at hc) <;> simp only [List.set_cons_succ, List.set_cons_zero]) | (first | ((with_reducible refine AX_if_t ?_ ?_); focus (simp (disch := omega) only [go_sem , flatE_w, flatE_p, flatE_n]; done)) | ((with_reducible refine AX_if_f ?_ ?_); focus (simp (disch := omega) only [go_sem , flatE_w, flatE_p, flatE_n]; done)) | (refine AX_cond _ (by rfl) (fun hc => ?_) (fun hc => ?_) <;> (try simp only [eqRes, List.cons_beq_cons, Bool.and_eq_true, Bool.not_eq_true, Bool.and_eq_false_iff, decide_eq_true_eq, decide_eq_false_iff_not, bne_iff_ne, beq_iff_eq, bne_eq_false_iff_eq, beq_eq_false_iff_ne, Bool.not_eq_true', Bool.not_eq_false', ne_eq, Int.not_lt, Int.not_le, Decidable.not_not] at hc)))))
  · refine whx_end (k + 1) (by omega) (by omega) rfl rfl (fun d => ?_)
    rw [eWhere, if_pos hc]; (simp only [deadS, updS, List.set_cons_succ, List.set_cons_zero, lint, List.length_nil, List.length_cons])
  · refine whx_end (k + 1) (by omega) (by omega) rfl rfl (fun d => ?_)
    rw [eWhere, if_neg hc]; (simp only [deadS, updS, List.set_cons_succ, List.set_cons_zero, lint, List.length_nil, List.length_cons])
  · have : k = i := by omega
    subst this
    (simp only [bodyX]; refine ⟨_, by simp only [aresults, aresult, XS.as, Tryd.results66, aload, go_sem, Option.bind_some]; rfl, ?_⟩)
    exact ⟨.iv _, rfl, trivial⟩
set_option maxRecDepth 100000 in
set_option maxHeartbeats 1000000 in
theorem pf_rOpen (xs : List Ev3) (i : Nat) (p : Int) (hi : i ≤ xs.length) (hx : xs.length ≤ 100000) : PF Tryd.prog 59 [.iv (.sl (fun j => .lit (.int .i64 ((flatE xs).getD j 0))) i 3), lt (.int .i64 p)] fun r H' => r = lt (.bool (decide (eLast xs i p = 1))) ∧ H' = [] := by
  refine SF.forgetAll ?_
  (refine SF_of_bodyX (aload tt) (aload_ok tyOK) Tryd.func59 rfl (by kernel_rfl) ?_; simp only [Tryd.ntmps59, List.length_cons, List.length_nil, Nat.reduceAdd, Nat.reduceSub, List.replicate_succ, List.replicate_zero, List.cons_append, List.nil_append])
  have hw := eWhere_lt xs p i
  (repeat' (first | (first | (with_reducible first | refine AX_block ?_ | refine AX_skip ?_ | refine AX_exit ?_ | refine AX_ret ?_ | refine AX_ift ?_ | refine AX_iff ?_ | refine AX_seq_k (fun K hK => ?_) | refine ContX.use (by assumption) ?_) | simp only [thenX, inBlockX, if_true, if_false, reduceCtorEq]) | (first | ((with_reducible first | refine XOP tyOK ?_ | refine AOP tyOK ?_); simp (disch := omega) only [go_sem , flatE_w, flatE_p, flatE_n]; (with_reducible first | refine XRes_id ?_ | refine ADF_id ?_)) | (with_reducible first | refine XSK ?_ | refine ASK ?_)) | ((first | (with_reducible refine XRes_nil ?_) | (with_reducible refine ADF_nil ?_)); (first | refine hK _ ?_ | refine hK _ _ ?_); clear hK K) | ((first | (with_reducible refine AX_reg0 fun K hK => ?_) | (refine AX_drawG1 tyOK (by kernel_rfl) (by rfl) (by kernel_rfl) fun K hK => ?_)); simp only [go_sem]) | (first | ((refine XRes_slot (by rfl) rfl (PF.tells (idsA rfl) (fun _ => rfl) (pf_eWithin _ _ _)) ?_); rintro r H' ⟨rfl, rfl⟩; (simp only [putL, List.set_cons_succ, List.set_cons_zero])) | (first | refine XTL (by rfl) (pf_rOpen xs _ _ (by omega) (by omega)) ?_ | refine ATL tyOK (by rfl) (pf_rOpen xs _ _ (by omega) (by omega)) ?_ | refine XTL (by rfl) (pf_rLast xs _ _ (by omega) (by omega)) ?_ | refine ATL tyOK (by rfl) (pf_rLast xs _ _ (by omega) (by omega)) ?_ | refine XTL (by rfl) (pf_eMay _) ?_ | refine ATL tyOK (by rfl) (pf_eMay _) ?_)) | ((first | (refine XRes_splitG (by rfl) (fun hc => ?_) (fun hc => ?_)) | (refine ADF_splitG (by rfl) (fun hc => ?_) (fun hc => ?_))) <;> (try simp only [eqRes, List.cons_beq_cons, Bool.and_eq_true, Bool.not_eq_true, Bool.and_eq_false_iff, decide_eq_true_eq, decide_eq_false_iff_not, bne_iff_ne, beq_iff_eq, bne_eq_false_iff_eq, beq_eq_false_iff_ne, Bool.not_eq_true', Bool.not_eq_false', ne_eq, Int.not_lt, Int.not_le, Decidable.not_not] at hc) <;> simp only [List.set_cons_succ, List.set_cons_zero]) | (first | ((with_reducible refine AX_if_t ?_ ?_); focus (simp (disch := omega) only [go_sem , flatE_w, flatE_p, flatE_n]; done)) | ((with_reducible refine AX_if_f ?_ ?_); focus (simp (disch := omega) only [go_sem , flatE_w, flatE_p, flatE_n]; done)) | (refine AX_cond _ (by rfl) (fun hc => ?_) (fun hc => ?_) <;> (try simp only [eqRes, List.cons_beq_cons, Bool.and_eq_true, Bool.not_eq_true, Bool.and_eq_false_iff, decide_eq_true_eq, decide_eq_false_iff_not, bne_iff_ne, beq_iff_eq, bne_eq_false_iff_eq, beq_eq_false_iff_ne, Bool.not_eq_true', Bool.not_eq_false', ne_eq, Int.not_lt, Int.not_le, Decidable.not_not] at hc)))))
  · (simp only [bodyX]; refine ⟨_, by simp only [aresults, aresult, XS.as, Tryd.results59, aload, go_sem, Option.bind_some]; rfl, ?_⟩)
    exact ⟨.iv _, (by rw [eWhere_some hc]; congr 2), trivial⟩
  · (simp only [bodyX]; refine ⟨_, by simp only [aresults, aresult, XS.as, Tryd.results59, aload, go_sem, Option.bind_some]; rfl, ?_⟩)
    exact ⟨.iv _, (by rw [eWhere_none hc]; rfl), trivial⟩
set_option maxRecDepth 100000 in
set_option maxHeartbeats 1000000 in
theorem pf_rCheck (xs : List Ev3) (hx : xs.length ≤ 100000) : PF Tryd.prog 36 [.iv (iFlat (flatE xs) xs.length 3)] fun r H' => (∃ a c, EChk xs a c ∧ r = .tup [lt (.int .i64 a), lt (.int .i64 c)]) ∧ H' = [] := by
  refine SF.forgetAll ?_
  (refine SF_of_bodyX (aload tt) (aload_ok tyOK) Tryd.func36 rfl (by kernel_rfl) ?_; simp only [Tryd.ntmps36, List.length_cons, List.length_nil, Nat.reduceAdd, Nat.reduceSub, List.replicate_succ, List.replicate_zero, List.cons_append, List.nil_append])
  unfold iFlat
  by_cases hb : xs.length ≤ 10000
  · (refine Wk.o ?_; (repeat revert hK K); refine Wfceea ?_; (repeat intro K hK); refine ⟨?_⟩)
    (refine AWH (σ := Nat) [9, 10, 11, 12, 15, 16, 17, 18, 5, 19, 20, 21, 22, 23, 24, 25, 26, 27, 2, 3, 28, 29, 30, 31, 32, 33, 34, 35, 36, 37, 38, 39, 40, 41, 42, 43, 44, 45, 46, 47, 48, 49, 50, 51, 52, 53, 54, 55, 56, 57, 58, 59, 60, 61, 62, 63, 64, 65, 66, 67, 68, 69, 70, 71, 72, 73, 74, 75, 76, 77, 78, 79, 80, 81, 82, 83, 84, 85, 86, 87, 88, 89, 90, 13, 14] (fun k => [(4, lint k)]) (fun k => []) (fun k => []) (fun k => k ≤ xs.length ∧ ∀ j, j < k → eErr xs j = 0) (fun k => xs.length - k) 0 (by first | exact ⟨Nat.zero_le _, fun j h => absurd h (by omega)⟩) ?_; rintro k d fr hfr ⟨hk, hp⟩; simp only [updS, deadS, List.set_cons_succ, List.set_cons_zero, lint] at hfr; subst hfr; (try dsimp only))
    (repeat' (first | (first | (with_reducible first | refine AX_block ?_ | refine AX_skip ?_ | refine AX_exit ?_ | refine AX_ret ?_ | refine AX_ift ?_ | refine AX_iff ?_ | refine AX_seq_k (fun K hK => ?_) | refine ContX.use (by assumption) ?_) | simp only [thenX, inBlockX, if_true, if_false, reduceCtorEq]) | (first | ((with_reducible first | refine XOP tyOK ?_ | refine AOP tyOK ?_); simp (disch := omega) only [go_sem , flatE_w, flatE_p, flatE_n]; (with_reducible first | refine XRes_id ?_ | refine ADF_id ?_)) | (with_reducible first | refine XSK ?_ | refine ASK ?_)) | ((first | (with_reducible refine XRes_nil ?_) | (with_reducible refine ADF_nil ?_)); (first | refine hK _ ?_ | refine hK _ _ ?_); clear hK K) | ((first | (with_reducible refine AX_reg0 fun K hK => ?_) | (refine AX_drawG1 tyOK (by kernel_rfl) (by rfl) (by kernel_rfl) fun K hK => ?_)); simp only [go_sem]) | (first | ((refine XRes_slot (by rfl) rfl (PF.tells (idsA rfl) (fun _ => rfl) (pf_eWithin _ _ _)) ?_); rintro r H' ⟨rfl, rfl⟩; (simp only [putL, List.set_cons_succ, List.set_cons_zero])) | (first | refine XTL (by rfl) (pf_rOpen xs _ _ (by omega) (by omega)) ?_ | refine ATL tyOK (by rfl) (pf_rOpen xs _ _ (by omega) (by omega)) ?_ | refine XTL (by rfl) (pf_rLast xs _ _ (by omega) (by omega)) ?_ | refine ATL tyOK (by rfl) (pf_rLast xs _ _ (by omega) (by omega)) ?_ | refine XTL (by rfl) (pf_eMay _) ?_ | refine ATL tyOK (by rfl) (pf_eMay _) ?_)) | ((first | (refine XRes_splitG (by rfl) (fun hc => ?_) (fun hc => ?_)) | (refine ADF_splitG (by rfl) (fun hc => ?_) (fun hc => ?_))) <;> (try simp only [eqRes, List.cons_beq_cons, Bool.and_eq_true, Bool.not_eq_true, Bool.and_eq_false_iff, decide_eq_true_eq, decide_eq_false_iff_not, bne_iff_ne, beq_iff_eq, bne_eq_false_iff_eq, beq_eq_false_iff_ne, Bool.not_eq_true', Bool.not_eq_false', ne_eq, Int.not_lt, Int.not_le, Decidable.not_not] at hc) <;> simp only [List.set_cons_succ, List.set_cons_zero]) | (first | ((with_reducible refine AX_if_t ?_ ?_); focus (simp (disch := omega) only [go_sem , flatE_w, flatE_p, flatE_n]; done)) | ((with_reducible refine AX_if_f ?_ ?_); focus (simp (disch := omega) only [go_sem , flatE_w, flatE_p, flatE_n]; done)) | (refine AX_cond _ (by rfl) (fun hc => ?_) (fun hc => ?_) <;> (try simp only [eqRes, List.cons_beq_cons, Bool.and_eq_true, Bool.not_eq_true, Bool.and_eq_false_iff, decide_eq_true_eq, decide_eq_false_iff_not, bne_iff_ne, beq_iff_eq, bne_eq_false_iff_eq, beq_eq_false_iff_ne, Bool.not_eq_true', Bool.not_eq_false', ne_eq, Int.not_lt, Int.not_le, Decidable.not_not] at hc)))))
    all_goals first
      | ((simp only [bodyX]; refine ⟨_, by simp only [aresults, aresult, XS.as, Tryd.results36, aload, go_sem, Option.bind_some]; rfl, ?_⟩); exact ⟨ids_idB rfl, ⟨_, _, FChk.at hb (by omega) hp (by unfold eErr eMay; (repeat' split) <;> omega) (by decide), rfl⟩, trivial⟩)
      | exact WRN [] (k + 1) ⟨by omega, below_succ hp (by unfold eErr eMay; (repeat' split) <;> omega)⟩ (by (first | omega | (dsimp only; omega) | (simp only; omega)))
      | ((simp only [bodyX]; refine ⟨_, by simp only [aresults, aresult, XS.as, Tryd.results36, aload, go_sem, Option.bind_some]; rfl, ?_⟩); exact ⟨ids_idB rfl, ⟨_, _, FChk.all hb (fun j hj => hp j (by omega)), rfl⟩, trivial⟩)
  · (repeat' (first | (first | (with_reducible first | refine AX_block ?_ | refine AX_skip ?_ | refine AX_exit ?_ | refine AX_ret ?_ | refine AX_ift ?_ | refine AX_iff ?_ | refine AX_seq_k (fun K hK => ?_) | refine ContX.use (by assumption) ?_) | simp only [thenX, inBlockX, if_true, if_false, reduceCtorEq]) | (first | ((with_reducible first | refine XOP tyOK ?_ | refine AOP tyOK ?_); simp (disch := omega) only [go_sem , flatE_w, flatE_p, flatE_n]; (with_reducible first | refine XRes_id ?_ | refine ADF_id ?_)) | (with_reducible first | refine XSK ?_ | refine ASK ?_)) | ((first | (with_reducible refine XRes_nil ?_) | (with_reducible refine ADF_nil ?_)); (first | refine hK _ ?_ | refine hK _ _ ?_); clear hK K) | ((first | (with_reducible refine AX_reg0 fun K hK => ?_) | (refine AX_drawG1 tyOK (by kernel_rfl) (by rfl) (by kernel_rfl) fun K hK => ?_)); simp only [go_sem]) | (first | ((refine XRes_slot (by rfl) rfl (PF.tells (idsA rfl) (fun _ => rfl) (pf_eWithin _ _ _)) ?_); rintro r H' ⟨rfl, rfl⟩; (simp only [putL, List.set_cons_succ, List.set_cons_zero])) | (first | refine XTL (by rfl) (pf_rOpen xs _ _ (by omega) (by omega)) ?_ | refine ATL tyOK (by rfl) (pf_rOpen xs _ _ (by omega) (by omega)) ?_ | refine XTL (by rfl) (pf_rLast xs _ _ (by omega) (by omega)) ?_ | refine ATL tyOK (by rfl) (pf_rLast xs _ _ (by omega) (by omega)) ?_ | refine XTL (by rfl) (pf_eMay _) ?_ | refine ATL tyOK (by rfl) (pf_eMay _) ?_)) | ((first | (refine XRes_splitG (by rfl) (fun hc => ?_) (fun hc => ?_)) | (refine ADF_splitG (by rfl) (fun hc => ?_) (fun hc => ?_))) <;> (try simp only [eqRes, List.cons_beq_cons, Bool.and_eq_true, Bool.not_eq_true, Bool.and_eq_false_iff, decide_eq_true_eq, decide_eq_false_iff_not, bne_iff_ne, beq_iff_eq, bne_eq_false_iff_eq, beq_eq_false_iff_ne, Bool.not_eq_true', Bool.not_eq_false', ne_eq, Int.not_lt, Int.not_le, Decidable.not_not] at hc) <;> simp only [List.set_cons_succ, List.set_cons_zero]) | (first | ((with_reducible refine AX_if_t ?_ ?_); focus (simp (disch := omega) only [go_sem , flatE_w, flatE_p, flatE_n]; done)) | ((with_reducible refine AX_if_f ?_ ?_); focus (simp (disch := omega) only [go_sem , flatE_w, flatE_p, flatE_n]; done)) | (refine AX_cond _ (by rfl) (fun hc => ?_) (fun hc => ?_) <;> (try simp only [eqRes, List.cons_beq_cons, Bool.and_eq_true, Bool.not_eq_true, Bool.and_eq_false_iff, decide_eq_true_eq, decide_eq_false_iff_not, bne_iff_ne, beq_iff_eq, bne_eq_false_iff_eq, beq_eq_false_iff_ne, Bool.not_eq_true', Bool.not_eq_false', ne_eq, Int.not_lt, Int.not_le, Decidable.not_not] at hc)))))
    (simp only [bodyX]; refine ⟨_, by simp only [aresults, aresult, XS.as, Tryd.results36, aload, go_sem, Option.bind_some]; rfl, ?_⟩)
    exact ⟨ids_idB rfl, ⟨_, _, FChk.big' (by omega), rfl⟩, trivial⟩
end Go.Proofs.YtdaenbgjafalcaaDoor
