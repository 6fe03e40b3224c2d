import Derived.Test.YteldioinhbpfhaaMgAV
import Derived.Test.YteldioinhbpfhaaMgAP
import Derived.Test.YteldioinhbpfhaaMgAT
import Derived.Test.YteldioinhbpfhaaMgAS
namespace Go.Proofs.Yteldioinhbpfhaa
open Go.RowKit Go.Shelf Go.Lib Go.Sort
set_option linter.unusedVariables false
structure EndI (l : List Op5) where
  i : Nat
  lt : i < l.length
  e : 0 ≤ (oAt l i).e
theorem EndI.ext' {l : List Op5} {x y : EndI l} (h : x.i = y.i) : x = y := by cases x; cases y; cases h; rfl
def endC (l : List Op5) (x y : EndI l) : Int := Lib.compareInt (oAt l x.i).e (oAt l y.i).e
theorem endC_lt {l : List Op5} {x y : EndI l} : (ltOf (endC l)) x y = decide ((oAt l x.i).e < (oAt l y.i).e) := by
  unfold ltOf endC Lib.compareInt
  rw [decide_eq_decide]
  split
  · omega
  · split <;> omega
theorem fz_box {n : Nat} {G : Gh} {l : List Op5} {us : List Value} {W : World} (hr : RL n G [.iv (.ptr (fun _ => iOps l) 1)] us) (hW : ∀ b x, G.fz b = some x → W.heap[b]? = some x) (x : EndI l) :
    ∃ bb boff a off cap, us = [.pointer (some ⟨bb, boff, none⟩)] ∧ W.cell? ⟨bb, boff, none⟩ = some (.slice (some ⟨a, off, none⟩) l.length cap) ∧ ∀ j, j < l.length → W.cell? ⟨a, off + j * 5 + 3, none⟩ = some (.int .i64 (oAt l j).e) := by
  obtain ⟨v, us2, rfl, h1, hr⟩ := hr.uncons
  rw [hr.unnil]
  cases h1 with
  | iv _ _ h =>
  cases h with
  | ptr _ _ bb boff cs t fr vs h1 h2 h3 =>
  have e0 := h2 0 (by omega)
  have r0 := h3 0 (by omega)
  rw [Nat.add_zero] at e0
  unfold iOps iFlat at r0
  have hx := x.lt
  generalize hv : vs 0 = v0 at *
  generalize hn : l.length = n at r0 hx ⊢
  cases r0 with
  | nil => omega
  | empty => omega
  | sl _ _ _ b off cap cs2 t2 fr2 vs2 k1 k2 k3 k4 k5 =>
    refine ⟨bb, boff, b, off, cap, rfl, ?_, fun j hj => ?_⟩
    · rw [cell_of_heap (hW _ _ h1), e0]
    · have a1 := k2 (j * 5 + 3) (by omega)
      have a2 := k3 (j * 5 + 3) (by omega)
      dsimp only at a2
      rw [flatO_e] at a2
      rw [cell_of_heap (hW _ _ k1), Nat.add_assoc, a1]
      generalize vs2 (j * 5 + 3) = z at a2 ⊢
      cases a2
      rfl
def eS (l : List Op5) (xs : List (EndI l)) : List Int := (xs.mergeSort fun x y => !(ltOf (endC l)) y x).map fun x => (x.i : Int)
theorem sf_sortEnds (l : List Op5) (hl : l.length ≤ 100000) (hd : endsOk l) (xs : List (EndI l)) (hx : xs.length ≤ 1000000) {H : AHeap} {o n : Nat} {t : TypeId} (ho : H[o]? = some (some ⟨t, (xs.map fun x => (x.i : Int)).map lint⟩)) (hn : n = xs.length) :
    SF Try.prog 22 [.osl o 0 n 1, .fn 23 [] [.iv (.ptr (fun _ => iOps l) 1)]] H fun r H' => r = .tup [] ∧ H' = H.set o (some ⟨t, (eS l xs).map lint⟩) := by
  by_cases hne : Nonempty (EndI l)
  · haveI : Inhabited (EndI l) := ⟨Classical.choice hne⟩
    refine SF_sortF (fun x : EndI l => (x.i : Int)) (endC l) ?_ ?_ ho hn (by omega) (fun args w => by rfl) ?_
    · exact ⟨fun x => by rw [endC_lt]; simp, fun x y z h1 h2 => by rw [endC_lt, decide_eq_true_iff] at *; omega, fun x y z h1 h2 => by rw [endC_lt, decide_eq_false_iff_not] at *; omega⟩
    · intro x y h1 h2
      rw [endC_lt, decide_eq_false_iff_not] at h1 h2
      exact EndI.ext' (hd x.i y.i x.lt y.lt x.e (by omega))
    · intro G W us hr hW x y
      obtain ⟨bb, boff, a, off, cap, rfl, hb, hc⟩ := fz_box hr hW x
      refine (wi_cmp W x.i y.i l.length cap bb boff a off _ _ x.lt y.lt hl hb (hc _ x.lt) (hc _ y.lt)).mono ?_
      rintro e w' ⟨rfl, q, rfl⟩
      exact ⟨rfl, q, #[], by rw [grow_empty]⟩
  · have hxs : xs = [] := by cases xs with
      | nil => rfl
      | cons x _ => exact absurd ⟨x⟩ hne
    subst hxs
    subst hn
    rw [show eS l [] = [] by unfold eS; simp]
    exact SF_sort0 ho
theorem eS_sorted (l : List Op5) (xs : List (EndI l)) : (eS l xs).Pairwise fun a b => (oAt l a.toNat).e ≤ (oAt l b.toNat).e := by
  have h := List.pairwise_mergeSort (le := fun x y : EndI l => !(ltOf (endC l)) y x) (fun a b c h1 h2 => by
    rw [endC_lt] at *; simp at h1 h2 ⊢; omega) (fun a b => by rw [endC_lt, endC_lt]; simp; omega) xs
  unfold eS
  refine List.Pairwise.map _ (fun a b hab => ?_) h
  rw [endC_lt] at hab
  simpa using hab
theorem eS_mem (l : List Op5) (xs : List (EndI l)) (z : Int) : z ∈ eS l xs ↔ ∃ x ∈ xs, (x.i : Int) = z := by
  unfold eS
  rw [List.mem_map]
  constructor
  · rintro ⟨x, hx, e⟩; exact ⟨x, (List.mergeSort_perm xs _).mem_iff.1 hx, e⟩
  · rintro ⟨x, hx, e⟩; exact ⟨x, (List.mergeSort_perm xs _).mem_iff.2 hx, e⟩
theorem eS_len (l : List Op5) (xs : List (EndI l)) : (eS l xs).length = xs.length := by unfold eS; rw [List.length_map, List.length_mergeSort]
def eL (l : List Op5) : Nat → List (EndI l)
  | 0 => []
  | k + 1 => if h : k < l.length ∧ 0 ≤ (oAt l k).e then eL l k ++ [⟨k, h.1, h.2⟩] else eL l k
theorem eL_len (l : List Op5) : ∀ k, (eL l k).length ≤ k
  | 0 => Nat.le_refl _
  | k + 1 => by have := eL_len l k; unfold eL; split <;> simp <;> omega
theorem eL_mem (l : List Op5) (x : EndI l) : ∀ k, x.i < k → x ∈ eL l k
  | 0, h => by omega
  | k + 1, h => by
    unfold eL
    by_cases h1 : x.i < k
    · have := eL_mem l x k h1
      split
      · exact List.mem_append_left _ this
      · exact this
    · have hk : x.i = k := by omega
      have hc : k < l.length ∧ 0 ≤ (oAt l k).e := ⟨hk ▸ x.lt, hk ▸ x.e⟩
      rw [dif_pos hc]
      exact List.mem_append_right _ (List.mem_singleton.2 (EndI.ext' hk))
def eI (l : List Op5) (k : Nat) : List Int := (eL l k).map fun x => (x.i : Int)
theorem eI_yes {l : List Op5} {k : Nat} (h1 : k < l.length) (h2 : 0 ≤ (oAt l k).e) : eI l (k + 1) = eI l k ++ [(k : Int)] := by
  unfold eI; rw [show eL l (k + 1) = eL l k ++ [⟨k, h1, h2⟩] from dif_pos ⟨h1, h2⟩, List.map_append]; rfl
theorem eI_no {l : List Op5} {k : Nat} (h2 : ¬ 0 ≤ (oAt l k).e) : eI l (k + 1) = eI l k := by
  unfold eI; rw [show eL l (k + 1) = eL l k from dif_neg fun h => h2 h.2]
theorem eI_len (l : List Op5) (k : Nat) : (eI l k).length ≤ k := by unfold eI; rw [List.length_map]; exact eL_len l k
theorem endS (l : List Op5) : EndS l (eS l (eL l l.length)) := by
  refine ⟨by rw [eS_len]; exact eL_len _ _, fun j hj => ?_, fun i j hij hj => ?_, fun k hk he => ?_⟩
  · obtain ⟨x, _, e⟩ := (eS_mem l _ _).1 (getD_mem.2 ⟨j, hj, rfl⟩)
    have h1 := x.lt; have h2 := x.e
    rw [← e]
    exact ⟨by omega, by omega, by simpa using h2⟩
  · have h := eS_sorted l (eL l l.length)
    have := List.pairwise_iff_getElem.1 h i j (by omega) hj hij
    rwa [List.getD_eq_getElem?_getD, List.getElem?_eq_getElem (by omega), List.getD_eq_getElem?_getD, List.getElem?_eq_getElem hj]
  · have := (eS_mem l (eL l l.length) (k : Int)).2 ⟨⟨k, hk, he⟩, eL_mem l ⟨k, hk, he⟩ l.length hk, rfl⟩
    exact getD_mem.1 this
end Go.Proofs.Yteldioinhbpfhaa
namespace Go.Proofs.Yteldioinhbpfhaa
open Go.RowKit
set_option linter.unusedVariables false
set_option linter.unusedSimpArgs false
set_option maxRecDepth 100000 in
set_option maxHeartbeats 1000000 in
theorem sf_indexRow (xs : List Rw) (hx : xs.length ≤ 100000) (p : Rw → Bool) (f : FuncId) (caps : List AV) (H : AHeap) (hcl : ∀ x : Rw, SF Try.prog f (rwA x :: caps) H fun r H' => r = lt (.bool (p x)) ∧ H' = H) (n : Nat) (hn : fb (fun i => if p (rwAt xs i) = true then 1 else 0) xs.length = n) :
    SF Try.prog 63 [.iv (iRws xs), .fn f [] caps] H fun r H' => r = lt (.int .i64 (if n < xs.length then n else -1)) ∧ H' = H := by
  (refine SF_of_bodyX (aload tt) (aload_ok tyOK) Try.func63 rfl (by kernel_rfl) ?_; simp only [Try.ntmps63, List.length_cons, List.length_nil, Nat.reduceAdd, Nat.reduceSub, List.replicate_succ, List.replicate_zero, List.cons_append, List.nil_append])
  (repeat (first | (first | (with_reducible first | refine AX_block ?_ | refine AX_skip ?_ | refine AX_exit ?_ | refine AX_ret ?_ | refine AX_ift ?_ | refine AX_iff ?_ | refine AX_seq_k (fun K hK => ?_) | refine ContX.use (by assumption) ?_) | simp only [thenX, inBlockX, if_true, if_false, reduceCtorEq]) | (first | ((with_reducible refine XOP tyOK ?_); simp (disch := omega) only [go_sem , flatR_s, flatR_k, flatR_n, flatR_r]; (with_reducible refine XRes_id ?_)) | (with_reducible refine XSK ?_)) | ((with_reducible refine XRes_nil ?_); refine hK _ ?_; clear hK K) | ((with_reducible refine AX_reg0 fun K hK => ?_); simp only [go_sem]) | (first | ((refine XRes_slot (by rfl) rfl (hcl _) ?_); rintro r H' ⟨rfl, rfl⟩; (simp only [putL, List.set_cons_succ, List.set_cons_zero])))))
  refine AX_wh (σ := Nat) [9, 10, 5, 11, 12, 13, 14, 15, 16, 17, 4, 18] (fun k => [(8, lint k)]) (fun _ => H) (fun _ => []) (fun k => k ≤ xs.length ∧ ∀ j, j < k → p (rwAt xs j) = false) (fun k => xs.length - k) 0 (fun d => by first | ((simp only [deadS, updS, List.set_cons_succ, List.set_cons_zero, lint, List.length_nil, List.length_cons]); done) | ((simp only [deadS, updS, List.set_cons_succ, List.set_cons_zero, lint, List.length_nil, List.length_cons]); rfl) | rfl) rfl rfl ⟨Nat.zero_le _, fun j h => absurd h (by omega)⟩ ?_
  rintro k d fr hfr ⟨hk, hj⟩
  simp only [updS, deadS, List.set_cons_succ, List.set_cons_zero, lint] at hfr
  subst hfr
  by_cases hlt : k < xs.length
  · (repeat' (first | (first | (with_reducible first | refine AX_block ?_ | refine AX_skip ?_ | refine AX_exit ?_ | refine AX_ret ?_ | refine AX_ift ?_ | refine AX_iff ?_ | refine AX_seq_k (fun K hK => ?_) | refine ContX.use (by assumption) ?_) | simp only [thenX, inBlockX, if_true, if_false, reduceCtorEq]) | (first | ((with_reducible refine XOP tyOK ?_); simp (disch := omega) only [go_sem , flatR_s, flatR_k, flatR_n, flatR_r]; (with_reducible refine XRes_id ?_)) | (with_reducible refine XSK ?_)) | ((with_reducible refine XRes_nil ?_); refine hK _ ?_; clear hK K) | ((with_reducible refine AX_reg0 fun K hK => ?_); simp only [go_sem]) | (first | ((refine XRes_slot (by rfl) rfl (hcl _) ?_); rintro r H' ⟨rfl, rfl⟩; (simp only [putL, List.set_cons_succ, List.set_cons_zero]))) | ((refine XRes_splitG (by rfl) (fun hc => ?_) (fun hc => ?_)) <;> (try simp only [eqRes, List.cons_beq_cons, Bool.and_eq_true, Bool.not_eq_true, Bool.and_eq_false_iff, decide_eq_true_eq, decide_eq_false_iff_not, bne_iff_ne, beq_iff_eq, bne_eq_false_iff_eq, beq_eq_false_iff_ne, Bool.not_eq_true', Bool.not_eq_false', ne_eq, Int.not_lt, Int.not_le, Decidable.not_not] at hc) <;> simp only [List.set_cons_succ, List.set_cons_zero]) | (first | ((with_reducible refine AX_if_t ?_ ?_); focus (simp (disch := omega) only [go_sem , flatR_s, flatR_k, flatR_n, flatR_r]; done)) | ((with_reducible refine AX_if_f ?_ ?_); focus (simp (disch := omega) only [go_sem , flatR_s, flatR_k, flatR_n, flatR_r]; done)) | (refine AX_cond _ (by rfl) (fun hc => ?_) (fun hc => ?_) <;> (try simp only [eqRes, List.cons_beq_cons, Bool.and_eq_true, Bool.not_eq_true, Bool.and_eq_false_iff, decide_eq_true_eq, decide_eq_false_iff_not, bne_iff_ne, beq_iff_eq, bne_eq_false_iff_eq, beq_eq_false_iff_ne, Bool.not_eq_true', Bool.not_eq_false', ne_eq, Int.not_lt, Int.not_le, Decidable.not_not] at hc)))))
    · (simp only [bodyX]; refine ⟨_, by simp only [aresults, aresult, XS.as, Try.results63, aload, go_sem, Option.bind_some]; rfl, ?_⟩)
      have : n = k := by rw [← hn]; exact fb_at (fun j h => by simp [hj j h]) (by simp [hc]) hlt
      subst this
      exact ⟨by rw [if_pos hlt], trivial⟩
    · refine whx_end (k + 1) ⟨by omega, fun j h => ?_⟩ (by (first | omega | (dsimp only; omega) | (simp only; omega))) rfl rfl (fun d => by (simp only [deadS, updS, List.set_cons_succ, List.set_cons_zero, lint, List.length_nil, List.length_cons]))
      rcases Nat.lt_or_ge j k with h1 | h1
      · exact hj j h1
      · rw [show j = k by omega]; exact hc
  · have : k = xs.length := by omega
    subst this
    (repeat' (first | (first | (with_reducible first | refine AX_block ?_ | refine AX_skip ?_ | refine AX_exit ?_ | refine AX_ret ?_ | refine AX_ift ?_ | refine AX_iff ?_ | refine AX_seq_k (fun K hK => ?_) | refine ContX.use (by assumption) ?_) | simp only [thenX, inBlockX, if_true, if_false, reduceCtorEq]) | (first | ((with_reducible refine XOP tyOK ?_); simp (disch := omega) only [go_sem , flatR_s, flatR_k, flatR_n, flatR_r]; (with_reducible refine XRes_id ?_)) | (with_reducible refine XSK ?_)) | ((with_reducible refine XRes_nil ?_); refine hK _ ?_; clear hK K) | ((with_reducible refine AX_reg0 fun K hK => ?_); simp only [go_sem]) | (first | ((refine XRes_slot (by rfl) rfl (hcl _) ?_); rintro r H' ⟨rfl, rfl⟩; (simp only [putL, List.set_cons_succ, List.set_cons_zero]))) | ((refine XRes_splitG (by rfl) (fun hc => ?_) (fun hc => ?_)) <;> (try simp only [eqRes, List.cons_beq_cons, Bool.and_eq_true, Bool.not_eq_true, Bool.and_eq_false_iff, decide_eq_true_eq, decide_eq_false_iff_not, bne_iff_ne, beq_iff_eq, bne_eq_false_iff_eq, beq_eq_false_iff_ne, Bool.not_eq_true', Bool.not_eq_false', ne_eq, Int.not_lt, Int.not_le, Decidable.not_not] at hc) <;> simp only [List.set_cons_succ, List.set_cons_zero]) | (first | ((with_reducible refine AX_if_t ?_ ?_); focus (simp (disch := omega) only [go_sem , flatR_s, flatR_k, flatR_n, flatR_r]; done)) | ((with_reducible refine AX_if_f ?_ ?_); focus (simp (disch := omega) only [go_sem , flatR_s, flatR_k, flatR_n, flatR_r]; done)) | (refine AX_cond _ (by rfl) (fun hc => ?_) (fun hc => ?_) <;> (try simp only [eqRes, List.cons_beq_cons, Bool.and_eq_true, Bool.not_eq_true, Bool.and_eq_false_iff, decide_eq_true_eq, decide_eq_false_iff_not, bne_iff_ne, beq_iff_eq, bne_eq_false_iff_eq, beq_eq_false_iff_ne, Bool.not_eq_true', Bool.not_eq_false', ne_eq, Int.not_lt, Int.not_le, Decidable.not_not] at hc)))))
    (simp only [bodyX]; refine ⟨_, by simp only [aresults, aresult, XS.as, Try.results63, aload, go_sem, Option.bind_some]; rfl, ?_⟩)
    have : n = xs.length := by rw [← hn]; exact fb_all (fun j h => by simp [hj j h])
    exact ⟨by rw [if_neg (by omega)], trivial⟩
set_option maxRecDepth 100000 in
set_option maxHeartbeats 1000000 in
theorem sf_move1 (o : Ob) (st kd : Int) (x : Rw) : SF Try.prog 64 [rwA x, .optr 1 0, .optr 2 0] [some ⟨24, [lt (.int .i64 o.S), lt (.int .i64 o.K), lt (.int .i64 o.I), .iv (iRws o.R)]⟩, some ⟨3, [lt (.int .i64 st)]⟩, some ⟨3, [lt (.int .i64 kd)]⟩] fun r H' => r = lt (.bool (decide (x.s = st ∧ x.k = kd))) ∧ H' = [some ⟨24, [lt (.int .i64 o.S), lt (.int .i64 o.K), lt (.int .i64 o.I), .iv (iRws o.R)]⟩, some ⟨3, [lt (.int .i64 st)]⟩, some ⟨3, [lt (.int .i64 kd)]⟩] := by
  (refine SF_of_bodyL (aload tt) (aload_ok tyOK) Try.func64 rfl (by kernel_rfl) ?_; simp only [Try.ntmps64, List.length_cons, List.length_nil, Nat.reduceAdd, Nat.reduceSub, List.replicate_succ, List.replicate_zero, List.cons_append, List.nil_append])
  (repeat' (first | (first | (with_reducible first | refine AX_block ?_ | refine AX_skip ?_ | refine AX_exit ?_ | refine AX_ret ?_ | refine AX_ift ?_ | refine AX_iff ?_ | refine AX_seq_k (fun K hK => ?_) | refine ContX.use (by assumption) ?_) | simp only [thenX, inBlockX, if_true, if_false, reduceCtorEq]) | (first | ((with_reducible refine XOP tyOK ?_); simp (disch := omega) only [go_sem , flatR_s, flatR_k, flatR_n, flatR_r]; (with_reducible refine XRes_id ?_)) | (with_reducible refine XSK ?_)) | ((with_reducible refine XRes_nil ?_); refine hK _ ?_; clear hK K) | ((with_reducible refine AX_reg0 fun K hK => ?_); simp only [go_sem]) | (first | ((refine XRes_slot (by rfl) rfl (hcl _) ?_); rintro r H' ⟨rfl, rfl⟩; (simp only [putL, List.set_cons_succ, List.set_cons_zero]))) | ((refine XRes_splitG (by rfl) (fun hc => ?_) (fun hc => ?_)) <;> (try simp only [eqRes, List.cons_beq_cons, Bool.and_eq_true, Bool.not_eq_true, Bool.and_eq_false_iff, decide_eq_true_eq, decide_eq_false_iff_not, bne_iff_ne, beq_iff_eq, bne_eq_false_iff_eq, beq_eq_false_iff_ne, Bool.not_eq_true', Bool.not_eq_false', ne_eq, Int.not_lt, Int.not_le, Decidable.not_not] at hc) <;> simp only [List.set_cons_succ, List.set_cons_zero]) | (first | ((with_reducible refine AX_if_t ?_ ?_); focus (simp (disch := omega) only [go_sem , flatR_s, flatR_k, flatR_n, flatR_r]; done)) | ((with_reducible refine AX_if_f ?_ ?_); focus (simp (disch := omega) only [go_sem , flatR_s, flatR_k, flatR_n, flatR_r]; done)) | (refine AX_cond _ (by rfl) (fun hc => ?_) (fun hc => ?_) <;> (try simp only [eqRes, List.cons_beq_cons, Bool.and_eq_true, Bool.not_eq_true, Bool.and_eq_false_iff, decide_eq_true_eq, decide_eq_false_iff_not, bne_iff_ne, beq_iff_eq, bne_eq_false_iff_eq, beq_eq_false_iff_ne, Bool.not_eq_true', Bool.not_eq_false', ne_eq, Int.not_lt, Int.not_le, Decidable.not_not] at hc)))))
  all_goals
    (refine lead_drop [] [0, 1, 2, 3, 5, 6, 7, 8, 9, 10, 11, 12, 13, 14] [some ⟨24, [lt (.int .i64 o.S), lt (.int .i64 o.K), lt (.int .i64 o.I), .iv (iRws o.R)]⟩, some ⟨3, [lt (.int .i64 st)]⟩, some ⟨3, [lt (.int .i64 kd)]⟩] (by decide) (by decide) (by (simp (disch := omega) only [go_sem, lint , flatR_s, flatR_k, flatR_n, flatR_r])) (by (simp (disch := omega) only [go_sem, lint , flatR_s, flatR_k, flatR_n, flatR_r])) (by (simp (disch := omega) only [go_sem, lint , flatR_s, flatR_k, flatR_n, flatR_r])) (fun d => ?_); (simp (disch := omega) only [go_sem, lint , flatR_s, flatR_k, flatR_n, flatR_r]))
    (simp only [bodyX]; refine ⟨_, by simp only [aresults, aresult, XS.as, Try.results64, aload, go_sem, Option.bind_some]; rfl, ?_⟩)
    exact ⟨by first | rfl | (refine congrArg (fun b => lt (.bool b)) ?_; rw [Bool.eq_iff_iff]; simp [*]; done), trivial⟩
end Go.Proofs.Yteldioinhbpfhaa
namespace Go.Proofs.Yteldioinhbpfhaa
open Go.RowKit
set_option linter.unusedVariables false
set_option linter.unusedSimpArgs false
set_option maxRecDepth 100000 in
set_option maxHeartbeats 1000000 in
theorem pf_within (n lo hi : Int) : PF Try.prog 27 [lt (.int .i64 n), lt (.int .i64 lo), lt (.int .i64 hi)] fun r H' => r = lt (.bool (decide (lo ≤ n ∧ n ≤ hi))) ∧ H' = [] := by
  refine SF.forgetAll ?_
  (refine SF_of_bodyX (aload tt) (aload_ok tyOK) Try.func27 rfl (by kernel_rfl) ?_; simp only [Try.ntmps27, List.length_cons, List.length_nil, Nat.reduceAdd, Nat.reduceSub, List.replicate_succ, List.replicate_zero, List.cons_append, List.nil_append])
  (repeat' (first | (first | (with_reducible first | refine AX_block ?_ | refine AX_skip ?_ | refine AX_exit ?_ | refine AX_ret ?_ | refine AX_ift ?_ | refine AX_iff ?_ | refine AX_seq_k (fun K hK => ?_) | refine ContX.use (by assumption) ?_) | simp only [thenX, inBlockX, if_true, if_false, reduceCtorEq]) | (first | ((with_reducible first | refine XOP tyOK ?_ | refine AOP tyOK ?_); simp (disch := omega) only [go_sem , flatR_s, flatR_k, flatR_n, flatR_r]; (with_reducible first | refine XRes_id ?_ | refine ADF_id ?_)) | (with_reducible first | refine XSK ?_ | refine ASK ?_)) | ((first | (with_reducible refine XRes_nil ?_) | (with_reducible refine ADF_nil ?_)); (first | refine hK _ ?_ | refine hK _ _ ?_); clear hK K) | ((first | (with_reducible refine AX_reg0 fun K hK => ?_) | (refine AX_drawG1 tyOK (by kernel_rfl) (by rfl) (by kernel_rfl) fun K hK => ?_)); simp only [go_sem]) | (first | ((refine XRes_slot (by rfl) rfl (PF.tells (idsA rfl) (fun _ => rfl) (pf_within _ _ _)) ?_); rintro r H' ⟨rfl, rfl⟩; (simp only [putL, List.set_cons_succ, List.set_cons_zero])) | (first | refine XTL (by rfl) (pf_rises _ _) ?_ | refine ATL tyOK (by rfl) (pf_rises _ _) ?_)) | ((first | (refine XRes_splitG (by rfl) (fun hc => ?_) (fun hc => ?_)) | (refine ADF_splitG (by rfl) (fun hc => ?_) (fun hc => ?_))) <;> (try simp only [eqRes, List.cons_beq_cons, Bool.and_eq_true, Bool.not_eq_true, Bool.and_eq_false_iff, decide_eq_true_eq, decide_eq_false_iff_not, bne_iff_ne, beq_iff_eq, bne_eq_false_iff_eq, beq_eq_false_iff_ne, Bool.not_eq_true', Bool.not_eq_false', ne_eq, Int.not_lt, Int.not_le, Decidable.not_not] at hc) <;> simp only [List.set_cons_succ, List.set_cons_zero]) | (first | ((with_reducible refine AX_if_t ?_ ?_); focus (simp (disch := omega) only [go_sem , flatR_s, flatR_k, flatR_n, flatR_r]; done)) | ((with_reducible refine AX_if_f ?_ ?_); focus (simp (disch := omega) only [go_sem , flatR_s, flatR_k, flatR_n, flatR_r]; done)) | (refine AX_cond _ (by rfl) (fun hc => ?_) (fun hc => ?_) <;> (try simp only [eqRes, List.cons_beq_cons, Bool.and_eq_true, Bool.not_eq_true, Bool.and_eq_false_iff, decide_eq_true_eq, decide_eq_false_iff_not, bne_iff_ne, beq_iff_eq, bne_eq_false_iff_eq, beq_eq_false_iff_ne, Bool.not_eq_true', Bool.not_eq_false', ne_eq, Int.not_lt, Int.not_le, Decidable.not_not] at hc)))))
  all_goals
    (simp only [bodyX]; refine ⟨_, by simp only [aresults, aresult, XS.as, Try.results27, aload, go_sem, Option.bind_some]; rfl, ?_⟩)
    exact ⟨.iv _, (by first | rw [decide_eq_false (by omega)] | simp [hc]), trivial⟩
set_option maxRecDepth 100000 in
set_option maxHeartbeats 1000000 in
theorem pf_rises (x y : Rw) : PF Try.prog 28 [rwA x, rwA y] fun r H' => r = lt (.bool (decide (rises x y))) ∧ H' = [] := by
  refine SF.forgetAll ?_
  (refine SF_of_bodyX (aload tt) (aload_ok tyOK) Try.func28 rfl (by kernel_rfl) ?_; simp only [Try.ntmps28, List.length_cons, List.length_nil, Nat.reduceAdd, Nat.reduceSub, List.replicate_succ, List.replicate_zero, List.cons_append, List.nil_append])
  (repeat' (first | (first | (with_reducible first | refine AX_block ?_ | refine AX_skip ?_ | refine AX_exit ?_ | refine AX_ret ?_ | refine AX_ift ?_ | refine AX_iff ?_ | refine AX_seq_k (fun K hK => ?_) | refine ContX.use (by assumption) ?_) | simp only [thenX, inBlockX, if_true, if_false, reduceCtorEq]) | (first | ((with_reducible first | refine XOP tyOK ?_ | refine AOP tyOK ?_); simp (disch := omega) only [go_sem , flatR_s, flatR_k, flatR_n, flatR_r]; (with_reducible first | refine XRes_id ?_ | refine ADF_id ?_)) | (with_reducible first | refine XSK ?_ | refine ASK ?_)) | ((first | (with_reducible refine XRes_nil ?_) | (with_reducible refine ADF_nil ?_)); (first | refine hK _ ?_ | refine hK _ _ ?_); clear hK K) | ((first | (with_reducible refine AX_reg0 fun K hK => ?_) | (refine AX_drawG1 tyOK (by kernel_rfl) (by rfl) (by kernel_rfl) fun K hK => ?_)); simp only [go_sem]) | (first | ((refine XRes_slot (by rfl) rfl (PF.tells (idsA rfl) (fun _ => rfl) (pf_within _ _ _)) ?_); rintro r H' ⟨rfl, rfl⟩; (simp only [putL, List.set_cons_succ, List.set_cons_zero])) | (first | refine XTL (by rfl) (pf_rises _ _) ?_ | refine ATL tyOK (by rfl) (pf_rises _ _) ?_)) | ((first | (refine XRes_splitG (by rfl) (fun hc => ?_) (fun hc => ?_)) | (refine ADF_splitG (by rfl) (fun hc => ?_) (fun hc => ?_))) <;> (try simp only [eqRes, List.cons_beq_cons, Bool.and_eq_true, Bool.not_eq_true, Bool.and_eq_false_iff, decide_eq_true_eq, decide_eq_false_iff_not, bne_iff_ne, beq_iff_eq, bne_eq_false_iff_eq, beq_eq_false_iff_ne, Bool.not_eq_true', Bool.not_eq_false', ne_eq, Int.not_lt, Int.not_le, Decidable.not_not] at hc) <;> simp only [List.set_cons_succ, List.set_cons_zero]) | (first | ((with_reducible refine AX_if_t ?_ ?_); focus (simp (disch := omega) only [go_sem , flatR_s, flatR_k, flatR_n, flatR_r]; done)) | ((with_reducible refine AX_if_f ?_ ?_); focus (simp (disch := omega) only [go_sem , flatR_s, flatR_k, flatR_n, flatR_r]; done)) | (refine AX_cond _ (by rfl) (fun hc => ?_) (fun hc => ?_) <;> (try simp only [eqRes, List.cons_beq_cons, Bool.and_eq_true, Bool.not_eq_true, Bool.and_eq_false_iff, decide_eq_true_eq, decide_eq_false_iff_not, bne_iff_ne, beq_iff_eq, bne_eq_false_iff_eq, beq_eq_false_iff_ne, Bool.not_eq_true', Bool.not_eq_false', ne_eq, Int.not_lt, Int.not_le, Decidable.not_not] at hc)))))
  all_goals
    (simp only [bodyX]; refine ⟨_, by simp only [aresults, aresult, XS.as, Try.results28, aload, go_sem, Option.bind_some]; rfl, ?_⟩)
    exact ⟨.iv _, (by unfold rises; congr 2; first | (rw [decide_eq_false (by omega)]; done) | (rw [decide_eq_true (by omega)]; done) | (simp [*]; done)), trivial⟩
theorem obAt_at {o : Ob} {i : Nat} (hh : obHead o) (hp : ∀ j, j < i → obErr o j = 0) (hi : i < o.R.length) (c : Int) (hc : c ≠ 0) (he : obErr o i = c) : obAt o = i ∧ obE o = c := by
  have h1 : obBad o = i := fb_at hp (by rw [he]; exact hc) hi
  unfold obAt obE
  rw [if_pos hh, if_pos hh, h1, if_pos hi, he]
  exact ⟨rfl, rfl⟩
theorem obAt_of {o : Ob} {i : Nat} (hh : obHead o) (hp : ∀ j, j < i → obErr o j = 0) (hi : i < o.R.length) (he : obErr o i ≠ 0) : obAt o = i ∧ obE o = obErr o i := obAt_at hh hp hi _ he rfl
theorem obAt_end {o : Ob} (hh : obHead o) (hp : ∀ j, j < o.R.length → obErr o j = 0) : obAt o = o.R.length ∧ obE o = 0 := by
  have h1 : obBad o = o.R.length := fb_all hp
  unfold obAt obE
  rw [if_pos hh, if_pos hh, h1, if_neg (by omega)]
  exact ⟨rfl, rfl⟩
theorem obAt_head {o : Ob} (hh : ¬ obHead o) : obAt o = -1 ∧ obE o = 2 := by
  unfold obAt obE
  rw [if_neg hh, if_neg hh]
  exact ⟨rfl, rfl⟩
set_option maxRecDepth 100000 in
set_option maxHeartbeats 4000000 in
theorem pf_obCheck (o : Ob) (hr : o.R.length ≤ 100000) (ho : o.Ok) : PF Try.prog 12 [obA o] fun r H' => r = .tup [lt (.int .i64 (obAt o)), lt (.int .i64 (obE o))] ∧ H' = [] := by
  refine SF.forgetAll ?_
  have b1 := ho.S; have b2 := ho.K; have b3 := ho.I
  by_cases hh : obHead o
  · have hh1 := hh
    unfold obHead at hh1
    (refine SF_of_bodyX (aload tt) (aload_ok tyOK) Try.func12 rfl (by kernel_rfl) ?_; simp only [Try.ntmps12, List.length_cons, List.length_nil, Nat.reduceAdd, Nat.reduceSub, List.replicate_succ, List.replicate_zero, List.cons_append, List.nil_append])
    (repeat (first | (first | (with_reducible first | refine AX_block ?_ | refine AX_skip ?_ | refine AX_exit ?_ | refine AX_ret ?_ | refine AX_ift ?_ | refine AX_iff ?_ | refine AX_seq_k (fun K hK => ?_) | refine ContX.use (by assumption) ?_) | simp only [thenX, inBlockX, if_true, if_false, reduceCtorEq]) | (first | ((with_reducible first | refine XOP tyOK ?_ | refine AOP tyOK ?_); simp (disch := omega) only [go_sem , flatR_s, flatR_k, flatR_n, flatR_r]; (with_reducible first | refine XRes_id ?_ | refine ADF_id ?_)) | (with_reducible first | refine XSK ?_ | refine ASK ?_)) | ((first | (with_reducible refine XRes_nil ?_) | (with_reducible refine ADF_nil ?_)); (first | refine hK _ ?_ | refine hK _ _ ?_); clear hK K) | ((first | (with_reducible refine AX_reg0 fun K hK => ?_) | (refine AX_drawG1 tyOK (by kernel_rfl) (by rfl) (by kernel_rfl) fun K hK => ?_)); simp only [go_sem]) | (first | ((refine XRes_slot (by rfl) rfl (PF.tells (idsA rfl) (fun _ => rfl) (pf_within _ _ _)) ?_); rintro r H' ⟨rfl, rfl⟩; (simp only [putL, List.set_cons_succ, List.set_cons_zero])) | (first | refine XTL (by rfl) (pf_rises _ _) ?_ | refine ATL tyOK (by rfl) (pf_rises _ _) ?_))))
    (refine AWH (σ := Nat) [33, 34, 35, 36, 6, 5, 38, 39, 40, 41, 42, 43, 44, 45, 46, 47, 48, 49, 50, 51, 52, 53, 54, 55, 37, 56, 2, 3, 58, 59, 60, 61, 62, 63, 64, 65, 57, 66, 68, 69, 70, 71, 72, 67, 73, 75, 76, 77, 78, 79, 80, 81, 82, 83, 84, 85, 86, 87, 74, 88, 89] (fun i => [(32, lint i)]) (fun i => [some ⟨24, [lt (.int .i64 o.S), lt (.int .i64 o.K), lt (.int .i64 o.I), .iv (iRws o.R)]⟩]) (fun i => []) (fun i => i ≤ o.R.length ∧ ∀ j, j < i → obErr o j = 0) (fun i => o.R.length - i) 0 (by first | exact ⟨Nat.zero_le _, fun j h => absurd h (by omega)⟩) ?_; rintro i d fr hfr ⟨hi, hp⟩; simp only [updS, deadS, List.set_cons_succ, List.set_cons_zero, lint] at hfr; subst hfr; (try dsimp only))
    by_cases hlt : i < o.R.length
    · have hti : ((i : Int) - 1).toNat = i - 1 := by omega
      (repeat' (first | (first | (with_reducible first | refine AX_block ?_ | refine AX_skip ?_ | refine AX_exit ?_ | refine AX_ret ?_ | refine AX_ift ?_ | refine AX_iff ?_ | refine AX_seq_k (fun K hK => ?_) | refine ContX.use (by assumption) ?_) | simp only [thenX, inBlockX, if_true, if_false, reduceCtorEq]) | (first | ((with_reducible first | refine XOP tyOK ?_ | refine AOP tyOK ?_); simp (disch := omega) only [go_sem , flatR_s, flatR_k, flatR_n, flatR_r]; (with_reducible first | refine XRes_id ?_ | refine ADF_id ?_)) | (with_reducible first | refine XSK ?_ | refine ASK ?_)) | ((first | (with_reducible refine XRes_nil ?_) | (with_reducible refine ADF_nil ?_)); (first | refine hK _ ?_ | refine hK _ _ ?_); clear hK K) | ((first | (with_reducible refine AX_reg0 fun K hK => ?_) | (refine AX_drawG1 tyOK (by kernel_rfl) (by rfl) (by kernel_rfl) fun K hK => ?_)); simp only [go_sem]) | (first | ((refine XRes_slot (by rfl) rfl (PF.tells (idsA rfl) (fun _ => rfl) (pf_within _ _ _)) ?_); rintro r H' ⟨rfl, rfl⟩; (simp only [putL, List.set_cons_succ, List.set_cons_zero])) | (first | refine XTL (by rfl) (pf_rises _ _) ?_ | refine ATL tyOK (by rfl) (pf_rises _ _) ?_)) | ((first | (refine XRes_splitG (by rfl) (fun hc => ?_) (fun hc => ?_)) | (refine ADF_splitG (by rfl) (fun hc => ?_) (fun hc => ?_))) <;> (try simp only [eqRes, List.cons_beq_cons, Bool.and_eq_true, Bool.not_eq_true, Bool.and_eq_false_iff, decide_eq_true_eq, decide_eq_false_iff_not, bne_iff_ne, beq_iff_eq, bne_eq_false_iff_eq, beq_eq_false_iff_ne, Bool.not_eq_true', Bool.not_eq_false', ne_eq, Int.not_lt, Int.not_le, Decidable.not_not] at hc) <;> simp only [List.set_cons_succ, List.set_cons_zero]) | (first | ((with_reducible refine AX_if_t ?_ ?_); focus (simp (disch := omega) only [go_sem , flatR_s, flatR_k, flatR_n, flatR_r]; done)) | ((with_reducible refine AX_if_f ?_ ?_); focus (simp (disch := omega) only [go_sem , flatR_s, flatR_k, flatR_n, flatR_r]; done)) | (refine AX_cond _ (by rfl) (fun hc => ?_) (fun hc => ?_) <;> (try simp only [eqRes, List.cons_beq_cons, Bool.and_eq_true, Bool.not_eq_true, Bool.and_eq_false_iff, decide_eq_true_eq, decide_eq_false_iff_not, bne_iff_ne, beq_iff_eq, bne_eq_false_iff_eq, beq_eq_false_iff_ne, Bool.not_eq_true', Bool.not_eq_false', ne_eq, Int.not_lt, Int.not_le, Decidable.not_not] at hc)))))
      all_goals first
        | ((simp only [bodyX]; refine ⟨_, by simp only [aresults, aresult, XS.as, Try.results12, aload, go_sem, Option.bind_some]; rfl, ?_⟩); (obtain ⟨e1, e2⟩ := obAt_of hh hp hlt (by ((try simp only [hti, rises] at *); unfold obErr; (try simp only [rises]); (repeat' split) <;> first | rfl | omega)); rw [e1, e2]; refine ⟨ids_idB rfl, congrArg (fun z : Int => AV.tup [lt (.int .i64 (i : Int)), lt (.int .i64 z)]) (?_ : _ = obErr o i), trivial⟩; ((try simp only [hti, rises] at *); unfold obErr; (try simp only [rises]); (repeat' split) <;> first | rfl | omega)))
        | (refine WRN [0] (i + 1) ⟨by omega, fun j h => ?_⟩ (by (first | omega | (dsimp only; omega) | (simp only; omega)))
           rcases Nat.lt_or_ge j i with h1 | h1
           · exact hp j h1
           · rw [show j = i by omega]; ((try simp only [hti, rises] at *); unfold obErr; (try simp only [rises]); (repeat' split) <;> first | rfl | omega))
    · have hii : i = o.R.length := by omega
      subst hii
      (repeat' (first | (first | (with_reducible first | refine AX_block ?_ | refine AX_skip ?_ | refine AX_exit ?_ | refine AX_ret ?_ | refine AX_ift ?_ | refine AX_iff ?_ | refine AX_seq_k (fun K hK => ?_) | refine ContX.use (by assumption) ?_) | simp only [thenX, inBlockX, if_true, if_false, reduceCtorEq]) | (first | ((with_reducible first | refine XOP tyOK ?_ | refine AOP tyOK ?_); simp (disch := omega) only [go_sem , flatR_s, flatR_k, flatR_n, flatR_r]; (with_reducible first | refine XRes_id ?_ | refine ADF_id ?_)) | (with_reducible first | refine XSK ?_ | refine ASK ?_)) | ((first | (with_reducible refine XRes_nil ?_) | (with_reducible refine ADF_nil ?_)); (first | refine hK _ ?_ | refine hK _ _ ?_); clear hK K) | ((first | (with_reducible refine AX_reg0 fun K hK => ?_) | (refine AX_drawG1 tyOK (by kernel_rfl) (by rfl) (by kernel_rfl) fun K hK => ?_)); simp only [go_sem]) | (first | ((refine XRes_slot (by rfl) rfl (PF.tells (idsA rfl) (fun _ => rfl) (pf_within _ _ _)) ?_); rintro r H' ⟨rfl, rfl⟩; (simp only [putL, List.set_cons_succ, List.set_cons_zero])) | (first | refine XTL (by rfl) (pf_rises _ _) ?_ | refine ATL tyOK (by rfl) (pf_rises _ _) ?_)) | ((first | (refine XRes_splitG (by rfl) (fun hc => ?_) (fun hc => ?_)) | (refine ADF_splitG (by rfl) (fun hc => ?_) (fun hc => ?_))) <;> (try simp only [eqRes, List.cons_beq_cons, Bool.and_eq_true, Bool.not_eq_true, Bool.and_eq_false_iff, decide_eq_true_eq, decide_eq_false_iff_not, bne_iff_ne, beq_iff_eq, bne_eq_false_iff_eq, beq_eq_false_iff_ne, Bool.not_eq_true', Bool.not_eq_false', ne_eq, Int.not_lt, Int.not_le, Decidable.not_not] at hc) <;> simp only [List.set_cons_succ, List.set_cons_zero]) | (first | ((with_reducible refine AX_if_t ?_ ?_); focus (simp (disch := omega) only [go_sem , flatR_s, flatR_k, flatR_n, flatR_r]; done)) | ((with_reducible refine AX_if_f ?_ ?_); focus (simp (disch := omega) only [go_sem , flatR_s, flatR_k, flatR_n, flatR_r]; done)) | (refine AX_cond _ (by rfl) (fun hc => ?_) (fun hc => ?_) <;> (try simp only [eqRes, List.cons_beq_cons, Bool.and_eq_true, Bool.not_eq_true, Bool.and_eq_false_iff, decide_eq_true_eq, decide_eq_false_iff_not, bne_iff_ne, beq_iff_eq, bne_eq_false_iff_eq, beq_eq_false_iff_ne, Bool.not_eq_true', Bool.not_eq_false', ne_eq, Int.not_lt, Int.not_le, Decidable.not_not] at hc)))))
      (simp only [bodyX]; refine ⟨_, by simp only [aresults, aresult, XS.as, Try.results12, aload, go_sem, Option.bind_some]; rfl, ?_⟩)
      obtain ⟨e1, e2⟩ := obAt_end hh hp
      rw [e1, e2]
      exact ⟨ids_idB rfl, rfl, trivial⟩
  · have hh1 := hh
    unfold obHead at hh1
    obtain ⟨e1, e2⟩ := obAt_head hh
    (refine SF_of_bodyX (aload tt) (aload_ok tyOK) Try.func12 rfl (by kernel_rfl) ?_; simp only [Try.ntmps12, List.length_cons, List.length_nil, Nat.reduceAdd, Nat.reduceSub, List.replicate_succ, List.replicate_zero, List.cons_append, List.nil_append])
    (repeat' (first | (first | (with_reducible first | refine AX_block ?_ | refine AX_skip ?_ | refine AX_exit ?_ | refine AX_ret ?_ | refine AX_ift ?_ | refine AX_iff ?_ | refine AX_seq_k (fun K hK => ?_) | refine ContX.use (by assumption) ?_) | simp only [thenX, inBlockX, if_true, if_false, reduceCtorEq]) | (first | ((with_reducible first | refine XOP tyOK ?_ | refine AOP tyOK ?_); simp (disch := omega) only [go_sem , flatR_s, flatR_k, flatR_n, flatR_r]; (with_reducible first | refine XRes_id ?_ | refine ADF_id ?_)) | (with_reducible first | refine XSK ?_ | refine ASK ?_)) | ((first | (with_reducible refine XRes_nil ?_) | (with_reducible refine ADF_nil ?_)); (first | refine hK _ ?_ | refine hK _ _ ?_); clear hK K) | ((first | (with_reducible refine AX_reg0 fun K hK => ?_) | (refine AX_drawG1 tyOK (by kernel_rfl) (by rfl) (by kernel_rfl) fun K hK => ?_)); simp only [go_sem]) | (first | ((refine XRes_slot (by rfl) rfl (PF.tells (idsA rfl) (fun _ => rfl) (pf_within _ _ _)) ?_); rintro r H' ⟨rfl, rfl⟩; (simp only [putL, List.set_cons_succ, List.set_cons_zero])) | (first | refine XTL (by rfl) (pf_rises _ _) ?_ | refine ATL tyOK (by rfl) (pf_rises _ _) ?_)) | ((first | (refine XRes_splitG (by rfl) (fun hc => ?_) (fun hc => ?_)) | (refine ADF_splitG (by rfl) (fun hc => ?_) (fun hc => ?_))) <;> (try simp only [eqRes, List.cons_beq_cons, Bool.and_eq_true, Bool.not_eq_true, Bool.and_eq_false_iff, decide_eq_true_eq, decide_eq_false_iff_not, bne_iff_ne, beq_iff_eq, bne_eq_false_iff_eq, beq_eq_false_iff_ne, Bool.not_eq_true', Bool.not_eq_false', ne_eq, Int.not_lt, Int.not_le, Decidable.not_not] at hc) <;> simp only [List.set_cons_succ, List.set_cons_zero]) | (first | ((with_reducible refine AX_if_t ?_ ?_); focus (simp (disch := omega) only [go_sem , flatR_s, flatR_k, flatR_n, flatR_r]; done)) | ((with_reducible refine AX_if_f ?_ ?_); focus (simp (disch := omega) only [go_sem , flatR_s, flatR_k, flatR_n, flatR_r]; done)) | (refine AX_cond _ (by rfl) (fun hc => ?_) (fun hc => ?_) <;> (try simp only [eqRes, List.cons_beq_cons, Bool.and_eq_true, Bool.not_eq_true, Bool.and_eq_false_iff, decide_eq_true_eq, decide_eq_false_iff_not, bne_iff_ne, beq_iff_eq, bne_eq_false_iff_eq, beq_eq_false_iff_ne, Bool.not_eq_true', Bool.not_eq_false', ne_eq, Int.not_lt, Int.not_le, Decidable.not_not] at hc)))))
    all_goals (first | (exfalso; omega) | ((simp only [bodyX]; refine ⟨_, by simp only [aresults, aresult, XS.as, Try.results12, aload, go_sem, Option.bind_some]; rfl, ?_⟩); rw [e1, e2]; exact ⟨ids_idB rfl, rfl, trivial⟩))
end Go.Proofs.Yteldioinhbpfhaa
