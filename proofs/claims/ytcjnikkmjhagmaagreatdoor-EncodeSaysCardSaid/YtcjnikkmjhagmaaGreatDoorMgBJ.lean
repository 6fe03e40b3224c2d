import Derived.Test.YtcjnikkmjhagmaaGreatDoorMgBA
import Derived.Test.YtcjnikkmjhagmaaGreatDoorMgBB
import Derived.Test.YtcjnikkmjhagmaaGreatDoorMgAR
namespace Go.Proofs.YtcjnikkmjhagmaaGreatDoor
open Go.RowKit
set_option linter.unusedVariables false
set_option linter.unusedSimpArgs false
set_option maxRecDepth 100000 in
set_option maxHeartbeats 1000000 in
theorem pf_sameInts (xs ys : List Int) (hx : xs.length ≤ 1000000) (hy : ys.length ≤ 1000000) : PF Tryz.prog 48 [.iv (iInts xs), .iv (iInts ys)] fun r H' => r = lt (.bool (decide (xs = ys))) ∧ H' = [] := by
  refine SF.forgetAll ?_
  (refine SF_of_bodyX (aload tt) (aload_ok tyOK) Tryz.func48 rfl (by kernel_rfl) ?_; simp only [Tryz.ntmps48, List.length_cons, List.length_nil, Nat.reduceAdd, Nat.reduceSub, List.replicate_succ, List.replicate_zero, List.cons_append, List.nil_append])
  unfold iInts
  by_cases hl : xs.length = ys.length
  · (repeat (first | (first | (with_reducible first | refine AX_block ?_ | refine AX_skip ?_ | refine AX_exit ?_ | refine AX_ret ?_ | refine AX_ift ?_ | refine AX_iff ?_ | refine AX_seq_k (fun K hK => ?_) | refine ContX.use (by assumption) ?_) | simp only [thenX, inBlockX, if_true, if_false, reduceCtorEq]) | (first | ((with_reducible first | refine XOP tyOK ?_ | refine AOP tyOK ?_); simp (disch := omega) only [go_sem , List.length_nil]; (with_reducible first | refine XRes_id ?_ | refine ADF_id ?_)) | (with_reducible first | refine XSK ?_ | refine ASK ?_)) | ((first | (with_reducible refine XRes_nil ?_) | (with_reducible refine ADF_nil ?_)); (first | refine hK _ ?_ | refine hK _ _ ?_); clear hK K) | ((first | (with_reducible refine AX_reg0 fun K hK => ?_) | (refine AX_drawG1 tyOK (by kernel_rfl) (by rfl) (by kernel_rfl) fun K hK => ?_)); simp only [go_sem]) | fail))
    (refine AWH (σ := Nat) [11, 12, 13, 14, 17, 18, 19, 20, 21, 22, 23, 24, 25, 4, 15, 16] (fun k => [(5, lint k)]) (fun k => []) (fun k => []) (fun k => k ≤ xs.length ∧ ∀ i, i < k → xs.getD i 0 = ys.getD i 0) (fun k => xs.length - k) 0 (by first | exact ⟨Nat.zero_le _, fun i h => absurd h (by omega)⟩) ?_; rintro k d fr hfr ⟨hk, hp⟩; simp only [updS, deadS, List.set_cons_succ, List.set_cons_zero, lint] at hfr; subst hfr; (try dsimp only))
    (repeat' (first | (first | (with_reducible first | refine AX_block ?_ | refine AX_skip ?_ | refine AX_exit ?_ | refine AX_ret ?_ | refine AX_ift ?_ | refine AX_iff ?_ | refine AX_seq_k (fun K hK => ?_) | refine ContX.use (by assumption) ?_) | simp only [thenX, inBlockX, if_true, if_false, reduceCtorEq]) | (first | ((with_reducible first | refine XOP tyOK ?_ | refine AOP tyOK ?_); simp (disch := omega) only [go_sem , List.length_nil]; (with_reducible first | refine XRes_id ?_ | refine ADF_id ?_)) | (with_reducible first | refine XSK ?_ | refine ASK ?_)) | ((first | (with_reducible refine XRes_nil ?_) | (with_reducible refine ADF_nil ?_)); (first | refine hK _ ?_ | refine hK _ _ ?_); clear hK K) | ((first | (with_reducible refine AX_reg0 fun K hK => ?_) | (refine AX_drawG1 tyOK (by kernel_rfl) (by rfl) (by kernel_rfl) fun K hK => ?_)); simp only [go_sem]) | fail | ((first | (refine XRes_splitG (by rfl) (fun hc => ?_) (fun hc => ?_)) | (refine ADF_splitG (by rfl) (fun hc => ?_) (fun hc => ?_))) <;> (try simp only [eqRes, List.cons_beq_cons, Bool.and_eq_true, Bool.not_eq_true, Bool.and_eq_false_iff, decide_eq_true_eq, decide_eq_false_iff_not, bne_iff_ne, beq_iff_eq, bne_eq_false_iff_eq, beq_eq_false_iff_ne, Bool.not_eq_true', Bool.not_eq_false', ne_eq, Int.not_lt, Int.not_le, Decidable.not_not] at hc) <;> simp only [List.set_cons_succ, List.set_cons_zero]) | (first | ((with_reducible refine AX_if_t ?_ ?_); focus (simp (disch := omega) only [go_sem , List.length_nil]; done)) | ((with_reducible refine AX_if_f ?_ ?_); focus (simp (disch := omega) only [go_sem , List.length_nil]; done)) | (refine AX_cond _ (by rfl) (fun hc => ?_) (fun hc => ?_) <;> (try simp only [eqRes, List.cons_beq_cons, Bool.and_eq_true, Bool.not_eq_true, Bool.and_eq_false_iff, decide_eq_true_eq, decide_eq_false_iff_not, bne_iff_ne, beq_iff_eq, bne_eq_false_iff_eq, beq_eq_false_iff_ne, Bool.not_eq_true', Bool.not_eq_false', ne_eq, Int.not_lt, Int.not_le, Decidable.not_not] at hc)))))
    · (simp only [bodyX]; refine ⟨_, by simp only [aresults, aresult, XS.as, Tryz.results48, aload, go_sem, Option.bind_some]; rfl, ?_⟩)
      exact ⟨.iv _, (by rw [decide_eq_false]; intro e; subst e; exact hc rfl), trivial⟩
    · exact whx_end (k + 1) ⟨by omega, fun i hi => by
        rcases Nat.lt_or_ge i k with h | h
        · exact hp i h
        · rw [show i = k by omega]; exact hc⟩ (by (first | omega | (dsimp only; omega) | (simp only; omega))) rfl (by first | rfl | (simp (disch := omega) only [go_sem, lint])) (fun d => by first | ((simp only [deadS, updS, List.set_cons_succ, List.set_cons_zero, lint, List.length_nil, List.length_cons]); done) | ((simp only [deadS, updS, List.set_cons_succ, List.set_cons_zero, lint, List.length_nil, List.length_cons]); rfl) | rfl)
    · (simp only [bodyX]; refine ⟨_, by simp only [aresults, aresult, XS.as, Tryz.results48, aload, go_sem, Option.bind_some]; rfl, ?_⟩)
      refine ⟨.iv _, (by
        rw [decide_eq_true]
        apply List.ext_getElem hl
        intro i h1 h2
        have := hp i (by omega)
        simpa [List.getD, h1, h2] using this), trivial⟩
  · (repeat' (first | (first | (with_reducible first | refine AX_block ?_ | refine AX_skip ?_ | refine AX_exit ?_ | refine AX_ret ?_ | refine AX_ift ?_ | refine AX_iff ?_ | refine AX_seq_k (fun K hK => ?_) | refine ContX.use (by assumption) ?_) | simp only [thenX, inBlockX, if_true, if_false, reduceCtorEq]) | (first | ((with_reducible first | refine XOP tyOK ?_ | refine AOP tyOK ?_); simp (disch := omega) only [go_sem , List.length_nil]; (with_reducible first | refine XRes_id ?_ | refine ADF_id ?_)) | (with_reducible first | refine XSK ?_ | refine ASK ?_)) | ((first | (with_reducible refine XRes_nil ?_) | (with_reducible refine ADF_nil ?_)); (first | refine hK _ ?_ | refine hK _ _ ?_); clear hK K) | ((first | (with_reducible refine AX_reg0 fun K hK => ?_) | (refine AX_drawG1 tyOK (by kernel_rfl) (by rfl) (by kernel_rfl) fun K hK => ?_)); simp only [go_sem]) | fail | ((first | (refine XRes_splitG (by rfl) (fun hc => ?_) (fun hc => ?_)) | (refine ADF_splitG (by rfl) (fun hc => ?_) (fun hc => ?_))) <;> (try simp only [eqRes, List.cons_beq_cons, Bool.and_eq_true, Bool.not_eq_true, Bool.and_eq_false_iff, decide_eq_true_eq, decide_eq_false_iff_not, bne_iff_ne, beq_iff_eq, bne_eq_false_iff_eq, beq_eq_false_iff_ne, Bool.not_eq_true', Bool.not_eq_false', ne_eq, Int.not_lt, Int.not_le, Decidable.not_not] at hc) <;> simp only [List.set_cons_succ, List.set_cons_zero]) | (first | ((with_reducible refine AX_if_t ?_ ?_); focus (simp (disch := omega) only [go_sem , List.length_nil]; done)) | ((with_reducible refine AX_if_f ?_ ?_); focus (simp (disch := omega) only [go_sem , List.length_nil]; done)) | (refine AX_cond _ (by rfl) (fun hc => ?_) (fun hc => ?_) <;> (try simp only [eqRes, List.cons_beq_cons, Bool.and_eq_true, Bool.not_eq_true, Bool.and_eq_false_iff, decide_eq_true_eq, decide_eq_false_iff_not, bne_iff_ne, beq_iff_eq, bne_eq_false_iff_eq, beq_eq_false_iff_ne, Bool.not_eq_true', Bool.not_eq_false', ne_eq, Int.not_lt, Int.not_le, Decidable.not_not] at hc)))))
    (simp only [bodyX]; refine ⟨_, by simp only [aresults, aresult, XS.as, Tryz.results48, aload, go_sem, Option.bind_some]; rfl, ?_⟩)
    exact ⟨.iv _, (by rw [decide_eq_false]; intro e; subst e; exact hl rfl), trivial⟩
end Go.Proofs.YtcjnikkmjhagmaaGreatDoor
namespace Go.Proofs.YtcjnikkmjhagmaaGreatDoor
open Go.RowKit
set_option linter.unusedVariables false
set_option linter.unusedSimpArgs false
theorem mvN_in {o : Ob} (h : obE o = 0) {st kd : Int} (hm : mvOk o st kd = true) : 0 ≤ mvN o st kd ∧ mvN o st kd < o.S := by
  have h1 : mvI o st kd < o.R.length := by unfold mvOk at hm; simpa using hm
  have h2 := (obE_zero.1 h).2 _ h1
  unfold mvN; rw [if_pos h1]
  unfold obErr at h2
  split at h2
  · omega
  · rename_i h3; omega
theorem mvE_in {o : Ob} (h : obE o = 0) (x : Op5) (st : Int) : (mvMay o x st = true ∧ 0 ≤ mvE o x st ∧ mvE o x st < o.S ∧ mvE o x st = mvTo o x st) ∨ (mvMay o x st = false ∧ mvE o x st = -1 ∧ mvTo o x st = 0) := by
  cases hm : mvMay o x st with
  | false => exact .inr ⟨rfl, by unfold mvE; rw [hm]; rfl, by unfold mvTo; rw [hm]; rfl⟩
  | true =>
    have h1 : mvTo o x st = mvN o st x.k := by unfold mvTo; rw [if_pos hm]
    have h2 : mvE o x st = mvTo o x st := by unfold mvE; rw [if_pos hm]
    have h3 := hm
    unfold mvMay at h3
    rw [Bool.and_eq_true] at h3
    have := mvN_in h h3.1
    exact .inl ⟨rfl, by omega, by omega, h2⟩
end Go.Proofs.YtcjnikkmjhagmaaGreatDoor
namespace Go.Proofs.YtcjnikkmjhagmaaGreatDoor
open Go.RowKit
set_option linter.unusedVariables false
set_option linter.unusedSimpArgs false
theorem cover_perm : ∀ (n : Nat) (xs : List Int), xs.length = n → (∀ i : Nat, i < n → (i : Int) ∈ xs) → xs.Perm ((List.range n).map fun i : Nat => (i : Int))
  | 0, xs, h, _ => by rw [List.eq_nil_of_length_eq_zero h]; exact List.Perm.refl _
  | n + 1, xs, h, hm => by
    have h1 := List.perm_cons_erase (hm n (by omega))
    have h2 : (xs.erase (n : Int)).length = n := by have := h1.length_eq; rw [List.length_cons] at this; omega
    have h3 := cover_perm n (xs.erase (n : Int)) h2 fun i hi => (List.mem_erase_of_ne (by omega)).2 (hm i (by omega))
    rw [List.range_succ, List.map_append]
    exact h1.trans ((h3.cons _).trans (List.perm_append_comm (l₁ := [(n : Int)])))
theorem range_up (n : Nat) : ((List.range n).map fun i : Nat => (i : Int)).Pairwise fun x y => x ≤ y := by
  rw [List.pairwise_map]
  exact (List.pairwise_lt_range (n := n)).imp fun h => by omega
theorem rsort_perm (xs : List Int) : (rsort xs).Perm xs := List.mergeSort_perm xs _
theorem rsort_up (xs : List Int) : (rsort xs).Pairwise fun x y => x ≤ y := by
  have h := List.pairwise_mergeSort (le := fun x y : Int => decide (x ≤ y)) (fun a b c h1 h2 => by simp at h1 h2 ⊢; omega) (fun a b => by simp; omega) xs
  exact h.imp fun h => by simpa using h
theorem mAll_iff {n : Nat} {xs : List Int} : mAll n xs = true ↔ xs.length = n ∧ ∀ i : Nat, i < n → (i : Int) ∈ xs := by
  unfold mAll
  rw [decide_eq_true_eq]
  constructor
  · rintro ⟨h1, h2⟩
    have hl : xs.length = n := by omega
    refine ⟨hl, fun i hi => ?_⟩
    have h3 := h1 i (by omega)
    have hr := rsort_len xs
    rw [List.getD_eq_getElem?_getD, List.getElem?_eq_getElem (by omega), Option.getD_some] at h3
    exact (rsort_perm xs).mem_iff.1 (h3 ▸ List.getElem_mem _)
  · rintro ⟨h1, h2⟩
    refine ⟨fun k hk => ?_, by omega⟩
    have e : rsort xs = (List.range n).map fun i : Nat => (i : Int) :=
      List.Perm.eq_of_pairwise (le := fun x y : Int => x ≤ y) (fun a b _ _ h1 h2 => by omega) (rsort_up xs) (range_up n) ((rsort_perm xs).trans (cover_perm n xs h1 h2))
    rw [e, List.getD_eq_getElem?_getD, List.getElem?_map, List.getElem?_range (by omega)]; rfl
theorem mAll_at {n : Nat} {xs : List Int} (h : mAll n xs = true) {k : Nat} (hk : k < n) : ∃ q : Nat, q < n ∧ xs.getD k 0 = q := by
  unfold mAll at h
  rw [decide_eq_true_eq] at h
  have hl : xs.length = n := by omega
  have hm : xs.getD k 0 ∈ xs := by
    rw [List.getD_eq_getElem?_getD, List.getElem?_eq_getElem (by omega), Option.getD_some]; exact List.getElem_mem _
  have hm2 := (rsort_perm xs).mem_iff.2 hm
  obtain ⟨j, hj, e⟩ := List.getElem_of_mem hm2
  have h3 := h.1 j (by rw [← rsort_len]; exact hj)
  rw [List.getD_eq_getElem?_getD, List.getElem?_eq_getElem hj, Option.getD_some, e] at h3
  exact ⟨j, by rw [rsort_len] at hj; omega, h3⟩
def plOp (ord : List Int) (k : Nat) : Nat := (ord.getD k 0).toNat
def plSt (o : Ob) (l : List Op5) (ord : List Int) (inn : List Bool) : Nat → Int
  | 0 => o.I
  | k + 1 => if inn.getD (plOp ord k) false = true then mvTo o (oAt l (plOp ord k)) (plSt o l ord inn k) else plSt o l ord inn k
def plGo (o : Ob) (l : List Op5) (ord : List Int) (inn : List Bool) (k : Nat) : Bool := !(inn.getD (plOp ord k) false) || mvMay o (oAt l (plOp ord k)) (plSt o l ord inn k)
def plRow (o : Ob) (l : List Op5) (ord : List Int) (inn : List Bool) (k : Nat) : List Int := (List.range (k + 1)).map (plSt o l ord inn)
def plIn (l : List Op5) (inn : List Bool) (i : Nat) : Prop := (oAt l i).e = -1 ∨ inn.getD i false = true
instance (l : List Op5) (inn : List Bool) (i : Nat) : Decidable (plIn l inn i) := by unfold plIn; infer_instance
def plOk (o : Ob) (l : List Op5) (ord : List Int) (inn : List Bool) : Prop := nOk (mN o l) (mS o l) ∧ mAll l.length ord = true ∧ inn.length = l.length ∧ (∀ i, i < l.length → plIn l inn i) ∧ ∀ k, k < l.length → plGo o l ord inn k = true
instance (o : Ob) (l : List Op5) (ord : List Int) (inn : List Bool) : Decidable (plOk o l ord inn) := by unfold plOk; infer_instance
def plXs (o : Ob) (l : List Op5) (ord : List Int) (inn : List Bool) : List Int := if plOk o l ord inn then plRow o l ord inn l.length else []
def plB (o : Ob) (l : List Op5) (ord : List Int) (inn : List Bool) : Bool := decide (plOk o l ord inn)
theorem pl_no {o : Ob} {l : List Op5} {ord : List Int} {inn : List Bool} (h : ¬ plOk o l ord inn) : plXs o l ord inn = [] ∧ plB o l ord inn = false := ⟨by unfold plXs; rw [if_neg h], by unfold plB; rw [decide_eq_false h]⟩
theorem pl_yes {o : Ob} {l : List Op5} {ord : List Int} {inn : List Bool} (h : plOk o l ord inn) : plXs o l ord inn = plRow o l ord inn l.length ∧ plB o l ord inn = true := ⟨by unfold plXs; rw [if_pos h], by unfold plB; rw [decide_eq_true h]⟩
theorem plRow_succ (o : Ob) (l : List Op5) (ord : List Int) (inn : List Bool) (k : Nat) : plRow o l ord inn (k + 1) = plRow o l ord inn k ++ [plSt o l ord inn (k + 1)] := by unfold plRow; rw [List.range_succ, List.map_append]; rfl
theorem plRow_len (o : Ob) (l : List Op5) (ord : List Int) (inn : List Bool) (k : Nat) : (plRow o l ord inn k).length = k + 1 := by unfold plRow; simp
theorem plRow_at (o : Ob) (l : List Op5) (ord : List Int) (inn : List Bool) {k j : Nat} (h : j ≤ k) : (plRow o l ord inn k).getD j 0 = plSt o l ord inn j := by
  unfold plRow; rw [List.getD_eq_getElem?_getD, List.getElem?_map, List.getElem?_range (by omega)]; rfl
def plcE (xs : List Int) (x : Int) (i : Nat) : Int := if xs.getD i 0 = x then 1 else 0
def plc (xs : List Int) (x : Int) : Int := if fb (plcE xs x) xs.length < xs.length then (fb (plcE xs x) xs.length : Int) else -1
end Go.Proofs.YtcjnikkmjhagmaaGreatDoor
