import Derived.Test.YtpgbimpbjdoicaaMgAN
import Derived.Test.YtpgbimpbjdoicaaMgAO
import Derived.Maps.RangeWalk
import Derived.OpenShut
import Derived.Test.YtpgbimpbjdoicaaMgAM
namespace Go.Proofs.Ytpgbimpbjdoicaa
/-! ### Numbers in order -/
theorem isort_eq {xs ys : List Int} (h : ys.Perm xs) (hs : ys.Pairwise fun x y => x ≤ y) : isort xs = ys :=
  List.Perm.eq_of_pairwise (le := fun x y : Int => x ≤ y) (fun a b _ _ h1 h2 => by omega) (isort_sorted xs) hs ((isort_perm xs).trans h.symm)
theorem isort_congr {xs ys : List Int} (h : xs.Perm ys) : isort xs = isort ys := isort_eq ((isort_perm ys).trans h.symm) (isort_sorted ys)
theorem isort_set {xs ys : List Int} (hx : xs.Nodup) (hy : ys.Nodup) (h : ∀ k, k ∈ xs ↔ k ∈ ys) : isort xs = isort ys := isort_congr ((List.perm_ext_iff_of_nodup hx hy).2 h)
theorem mem_isort {xs : List Int} {x : Int} : x ∈ isort xs ↔ x ∈ xs := (isort_perm xs).mem_iff
/-- A number put in its place. -/
theorem isort_put {xs ys : List Int} {p : Int} {k : Nat} (h : ys = isort xs) (hk : k ≤ ys.length) (h1 : ∀ j, j < k → ys.getD j 0 < p) (h2 : k < ys.length → p ≤ ys.getD k 0) : ys.take k ++ [p] ++ ys.drop k = isort (xs ++ [p]) := by
  symm
  have hs : ys.Pairwise fun x y => x ≤ y := by rw [h]; exact isort_sorted xs
  have hp : ys.Perm xs := by rw [h]; exact isort_perm xs
  have hsp : ∀ i j, i < j → j < ys.length → ys.getD i 0 ≤ ys.getD j 0 := fun i j hij hj => by
    have := List.pairwise_iff_getElem.1 hs i j (by omega) hj hij
    rw [List.getD_eq_getElem?_getD, List.getD_eq_getElem?_getD, List.getElem?_eq_getElem (by omega : i < ys.length), List.getElem?_eq_getElem hj]
    exact this
  have ht : ∀ x, x ∈ ys.take k → ∃ j, j < k ∧ j < ys.length ∧ ys.getD j 0 = x := fun x hx => by
    obtain ⟨j, hj, rfl⟩ := List.mem_iff_getElem.1 hx
    have hj' := hj
    rw [List.length_take] at hj'
    refine ⟨j, by omega, by omega, ?_⟩
    rw [List.getElem_take, List.getD_eq_getElem?_getD, List.getElem?_eq_getElem (by omega : j < ys.length)]; rfl
  have hd : ∀ x, x ∈ ys.drop k → ∃ j, k ≤ j ∧ j < ys.length ∧ ys.getD j 0 = x := fun x hx => by
    obtain ⟨j, hj, rfl⟩ := List.mem_iff_getElem.1 hx
    have hj' := hj
    rw [List.length_drop] at hj'
    refine ⟨k + j, by omega, by omega, ?_⟩
    rw [List.getElem_drop, List.getD_eq_getElem?_getD, List.getElem?_eq_getElem (by omega : k + j < ys.length)]; rfl
  refine isort_eq ?_ ?_
  · have e : (ys.take k ++ [p] ++ ys.drop k).Perm (ys.take k ++ ys.drop k ++ [p]) := by
      rw [List.append_assoc, List.append_assoc]
      exact List.Perm.append_left _ List.perm_append_comm
    rw [List.take_append_drop] at e
    exact e.trans (hp.append_right _)
  · rw [List.pairwise_append, List.pairwise_append]
    refine ⟨⟨hs.sublist (List.take_sublist _ _), List.pairwise_singleton _ _, fun a ha b hb => ?_⟩, hs.sublist (List.drop_sublist _ _), fun a ha b hb => ?_⟩
    · rw [List.mem_singleton.1 hb]
      obtain ⟨j, j1, j2, rfl⟩ := ht a ha
      have := h1 j j1; omega
    · obtain ⟨q, q1, q2, rfl⟩ := hd b hb
      rcases List.mem_append.1 ha with ha | ha
      · obtain ⟨j, j1, j2, rfl⟩ := ht a ha
        exact hsp j q (by omega) q2
      · rw [List.mem_singleton.1 ha]
        have h3 := h2 (by omega)
        rcases Nat.lt_or_ge k q with h4 | h4
        · have := hsp k q h4 q2; omega
        · rw [show q = k by omega]; exact h3
/-! ### Kinds -/
def eKin (xs : List Ev3) : Nat → Int
  | 0 => 0
  | k + 1 => if (evAt xs k).w = 1 then max (eKin xs k) (min (evAt xs k).n 63 + 1) else eKin xs k
theorem eKin_succ (xs : List Ev3) (k : Nat) : eKin xs (k + 1) = if (evAt xs k).w = 1 then max (eKin xs k) (min (evAt xs k).n 63 + 1) else eKin xs k := rfl
theorem eKin_le (xs : List Ev3) : ∀ k, 0 ≤ eKin xs k ∧ eKin xs k ≤ 64
  | 0 => by unfold eKin; omega
  | k + 1 => by
    have := eKin_le xs k
    unfold eKin
    split <;> omega
/-! ### What is open -/
def eLM (xs : List Ev3) : Nat → Int → Option Int
  | 0 => fun _ => none
  | k + 1 => if (evAt xs k).w = 1 then updF (eLM xs k) (evAt xs k).p k else delF (eLM xs k) (evAt xs k).p
theorem eLM_yes {xs : List Ev3} {k : Nat} (h : (evAt xs k).w = 1) : eLM xs (k + 1) = updF (eLM xs k) (evAt xs k).p k := by show (if _ then _ else _) = _; rw [if_pos h]
theorem eLM_no {xs : List Ev3} {k : Nat} (h : ¬ (evAt xs k).w = 1) : eLM xs (k + 1) = delF (eLM xs k) (evAt xs k).p := by show (if _ then _ else _) = _; rw [if_neg h]
theorem eLM_at (xs : List Ev3) : ∀ (k : Nat) (p : Int), eLM xs k p = if eLast xs k p = 1 then some (eWhere xs k p) else none
  | 0, p => by unfold eLM eLast; rfl
  | k + 1, p => by
    unfold eLM eLast eWhere
    by_cases hw : (evAt xs k).w = 1
    · rw [if_pos hw]
      unfold updF
      by_cases hp : p = (evAt xs k).p
      · subst hp; rw [if_pos rfl, if_pos rfl, if_pos rfl, if_pos hw]
      · rw [if_neg hp, if_neg (Ne.symm hp), if_neg (Ne.symm hp), eLM_at xs k p]
    · rw [if_neg hw]
      unfold delF
      by_cases hp : p = (evAt xs k).p
      · subst hp; rw [if_pos rfl, if_pos rfl, if_pos rfl, if_neg hw]
      · rw [if_neg hp, if_neg (Ne.symm hp), if_neg (Ne.symm hp), eLM_at xs k p]
/-- Is the event at i the last one of its process, and a call? -/
def eOp (xs : List Ev3) (i : Nat) : Bool := decide ((evAt xs i).w = 1 ∧ eWhere xs xs.length (evAt xs i).p = i)
def oks (xs : List Ev3) : Nat → List Int
  | 0 => []
  | k + 1 => if eOp xs k = true then oks xs k ++ [(evAt xs k).p] else oks xs k
theorem mem_oks {xs : List Ev3} {p : Int} : ∀ {k : Nat}, p ∈ oks xs k ↔ ∃ i, i < k ∧ eOp xs i = true ∧ (evAt xs i).p = p
  | 0 => ⟨fun h => by simp [oks] at h, fun ⟨i, h, _⟩ => by omega⟩
  | k + 1 => by
    unfold oks
    constructor
    · intro h
      split at h
      · rename_i ho
        rcases List.mem_append.1 h with h | h
        · obtain ⟨i, h1, h2⟩ := mem_oks.1 h; exact ⟨i, by omega, h2⟩
        · exact ⟨k, by omega, ho, (List.mem_singleton.1 h).symm⟩
      · obtain ⟨i, h1, h2⟩ := mem_oks.1 h; exact ⟨i, by omega, h2⟩
    · rintro ⟨i, h1, h2, h3⟩
      rcases Nat.lt_or_ge i k with h4 | h4
      · have : p ∈ oks xs k := mem_oks.2 ⟨i, h4, h2, h3⟩
        split
        · exact List.mem_append_left _ this
        · exact this
      · obtain rfl : i = k := by omega
        rw [if_pos h2]
        exact List.mem_append_right _ (by simp [h3])
theorem eOp_iff {xs : List Ev3} {i : Nat} : eOp xs i = true ↔ (evAt xs i).w = 1 ∧ eWhere xs xs.length (evAt xs i).p = i := by unfold eOp; rw [decide_eq_true_eq]
theorem oks_nodup (xs : List Ev3) : ∀ k, (oks xs k).Nodup
  | 0 => by simp [oks]
  | k + 1 => by
    unfold oks
    split
    · rename_i ho
      refine List.nodup_append.2 ⟨oks_nodup xs k, by simp, fun a ha b hb hab => ?_⟩
      obtain ⟨i, h1, h2, h3⟩ := mem_oks.1 ha
      have e1 := (eOp_iff.1 h2).2
      have e2 := (eOp_iff.1 ho).2
      rw [h3] at e1
      rw [hab, List.mem_singleton.1 hb, e2] at e1
      omega
    · exact oks_nodup xs k
theorem eWhere_at {xs : List Ev3} {p : Int} : ∀ {k : Nat}, 0 ≤ eWhere xs k p → (evAt xs (eWhere xs k p).toNat).p = p
  | 0, h => by unfold eWhere at h; omega
  | k + 1, h => by
    unfold eWhere at h ⊢
    split
    · rename_i hp; simpa using hp
    · rename_i hp; rw [if_neg hp] at h; exact eWhere_at h
theorem mem_open {xs : List Ev3} {p : Int} : p ∈ oks xs xs.length ↔ eLast xs xs.length p = 1 := by
  rw [mem_oks]
  constructor
  · rintro ⟨i, h1, h2, rfl⟩
    obtain ⟨h3, h4⟩ := eOp_iff.1 h2
    rw [eWhere_some (by rw [h4]; omega), h4]
    simpa using h3
  · intro h
    have hw : 0 ≤ eWhere xs xs.length p := by
      rcases Int.lt_or_le (eWhere xs xs.length p) 0 with h1 | h1
      · rw [eWhere_none h1] at h; omega
      · exact h1
    have hlt := (eWhere_lt xs p xs.length).2
    refine ⟨(eWhere xs xs.length p).toNat, by omega, eOp_iff.2 ⟨?_, ?_⟩, eWhere_at hw⟩
    · rw [← eWhere_some hw]; exact h
    · rw [eWhere_at hw]; omega
theorem oks_len (xs : List Ev3) : ∀ k, (oks xs k).length ≤ k
  | 0 => by simp [oks]
  | k + 1 => by
    have := oks_len xs k
    unfold oks
    split
    · rw [List.length_append]; simp; omega
    · omega
theorem keys_perm {xs : List Ev3} {ys : List Int} (hn : ys.Nodup) (h : ∀ k, k ∈ ys ↔ (eLM xs xs.length k).isSome = true) : ys.Perm (oks xs xs.length) := by
  refine (List.perm_ext_iff_of_nodup hn (oks_nodup xs _)).2 fun k => ?_
  rw [h k, mem_open, eLM_at]
  split <;> simp_all
theorem keys_len {xs : List Ev3} {ys : List Int} (hn : ys.Nodup) (h : ∀ k, k ∈ ys ↔ (eLM xs xs.length k).isSome = true) : ys.length ≤ xs.length := by
  rw [(keys_perm hn h).length_eq]; exact oks_len xs _
/-- The processes that are open, in order. -/
def eOps (xs : List Ev3) : List Int := isort (oks xs xs.length)
/-! ### What stays -/
def eSel (xs : List Ev3) (g : Nat → Bool) : Nat → List Ev3
  | 0 => []
  | k + 1 => if g k = true then eSel xs g k ++ [evAt xs k] else eSel xs g k
theorem eSel_len (xs : List Ev3) (g : Nat → Bool) : ∀ k, (eSel xs g k).length ≤ k
  | 0 => by simp [eSel]
  | k + 1 => by
    have := eSel_len xs g k
    unfold eSel
    split
    · rw [List.length_append]; simp; omega
    · omega
theorem eSel_yes {xs : List Ev3} {g : Nat → Bool} {k : Nat} (h : g k = true) : eSel xs g (k + 1) = eSel xs g k ++ [evAt xs k] := by show (if _ then _ else _) = _; rw [if_pos h]
theorem eSel_no {xs : List Ev3} {g : Nat → Bool} {k : Nat} (h : ¬ g k = true) : eSel xs g (k + 1) = eSel xs g k := by show (if _ then _ else _) = _; rw [if_neg h]
theorem eSel_congr {xs : List Ev3} {g g' : Nat → Bool} : ∀ {k : Nat}, (∀ i, i < k → g i = g' i) → eSel xs g k = eSel xs g' k
  | 0, _ => rfl
  | k + 1, h => by
    unfold eSel
    rw [h k (by omega), eSel_congr fun i hi => h i (by omega)]
theorem flatE_app (xs : List Ev3) (x : Ev3) : flatE (xs ++ [x]) = flatE xs ++ [x.w, x.p, x.n] := by unfold flatE; rw [List.flatMap_append]; rfl
def ePg (xs : List Ev3) (p : Int) (i : Nat) : Bool := decide ((evAt xs i).p = p)
def eDg (xs : List Ev3) (i : Nat) : Bool := !eOp xs i
def eOfL (xs : List Ev3) (p : Int) : List Ev3 := eSel xs (ePg xs p) xs.length
def eDoneL (xs : List Ev3) : List Ev3 := eSel xs (eDg xs) xs.length
/-! ### Sameness -/
def eSame (xs ys : List Ev3) : Bool := decide (xs.length = ys.length) && (List.range xs.length).all fun i => eFl (evAt xs i) == eFl (evAt ys i)
theorem eSame_no1 {xs ys : List Ev3} (h : ¬ xs.length = ys.length) : eSame xs ys = false := by unfold eSame; rw [decide_eq_false h]; rfl
theorem eSame_no2 {xs ys : List Ev3} {i : Nat} (hi : i < xs.length) (h : eFl (evAt xs i) ≠ eFl (evAt ys i)) : eSame xs ys = false := by
  unfold eSame
  rw [Bool.and_eq_false_iff]; right
  rw [List.all_eq_false]
  exact ⟨i, List.mem_range.2 hi, by simpa using h⟩
theorem eSame_yes {xs ys : List Ev3} (h : xs.length = ys.length) (h2 : ∀ i, i < xs.length → eFl (evAt xs i) = eFl (evAt ys i)) : eSame xs ys = true := by
  unfold eSame
  rw [decide_eq_true h, Bool.true_and, List.all_eq_true]
  exact fun i hi => by simpa using h2 i (List.mem_range.1 hi)
theorem eSame_refl (xs : List Ev3) : eSame xs xs = true := eSame_yes rfl fun _ _ => rfl
end Go.Proofs.Ytpgbimpbjdoicaa
namespace Go.Proofs.Ytpgbimpbjdoicaa
open Go.RowKit
set_option linter.unusedVariables false
set_option linter.unusedSimpArgs false


abbrev iEvs (xs : List Ev3) : IV := iFlat (flatE xs) xs.length 3
set_option maxRecDepth 100000 in
set_option maxHeartbeats 1000000 in
theorem pf_rESame (xs ys : List Ev3) (hx : xs.length ≤ 100000) (hy : ys.length ≤ 100000) : PF Try.prog 14 [.iv (iEvs xs), .iv (iEvs ys)] fun r H' => r = lt (.bool (eSame xs ys)) ∧ H' = [] := by
  refine SF.forgetAll ?_
  (refine SF_of_bodyX (aload tt) (aload_ok tyOK) Try.func14 rfl (by kernel_rfl) ?_; simp only [Try.ntmps14, List.length_cons, List.length_nil, Nat.reduceAdd, Nat.reduceSub, List.replicate_succ, List.replicate_zero, List.cons_append, List.nil_append])
  unfold iEvs iFlat
  by_cases hl : xs.length = ys.length
  · (repeat (first | (first | (with_reducible first | refine AX_block ?_ | refine AX_skip ?_ | refine AX_exit ?_ | refine AX_ret ?_) | ((with_reducible refine AX_if_t ?_ ?_); focus (simp only [go_sem]; done)) | ((with_reducible refine AX_if_f ?_ ?_); focus (simp only [go_sem]; done)) | (with_reducible refine AX_seq_k (fun K hK => ?_)) | ((with_reducible refine ContX.use (by assumption) ?_)) | (simp only [thenX, inBlockX, if_true, if_false, reduceCtorEq])) | (first | ((first | ((with_reducible refine XRes_op tyOK ?_ ?_); (focus (first | (with_reducible rfl) | ((simp (disch := omega) only [go_sem]); done)))) | ((with_reducible refine ADF_op tyOK ?_ ?_ ?_); (focus rfl); (focus (first | (with_reducible rfl) | ((simp (disch := omega) only [go_sem]); done)))) | ((with_reducible refine ADR_alloc1 tyOK ?_ ?_); (focus (first | (with_reducible rfl) | ((simp (disch := omega) only [go_sem]); done)))) | ((with_reducible refine ADX_op tyOK ?_ ?_ ?_); (focus rfl); (focus (first | (with_reducible rfl) | ((simp (disch := omega) only [go_sem]); done)))) | ((with_reducible refine ADR_free1 tyOK ?_ ?_ ?_); (focus rfl); (focus (first | (with_reducible rfl) | ((simp (disch := omega) only [go_sem]); done)))) | ((with_reducible refine ADR_free0 tyOK ?_ ?_ ?_); (focus rfl); (focus (first | (with_reducible rfl) | ((simp (disch := omega) only [go_sem]); done)))) | ((with_reducible refine ADR_read1 tyOK ?_ ?_ ?_); (focus rfl); (focus (first | (with_reducible rfl) | ((simp (disch := omega) only [go_sem]); done)))) | ((with_reducible refine ADR_chg1 tyOK ?_ ?_); (focus (first | (with_reducible rfl) | ((simp (disch := omega) only [go_sem]); done))))); simp (maxSteps := 2000000) (disch := omega) only [go_sem , flatE_w, flatE_p, flatE_n]; (first | (with_reducible refine XRes_id ?_) | (with_reducible refine ADF_id ?_) | (with_reducible refine ADR_id1 ?_) | (with_reducible refine ADX_id ?_))) | ((first | (with_reducible refine XRes_skip ?_ ?_) | (with_reducible refine ADF_skip (b := true) ?_ ?_) | (with_reducible refine ADX_skip ?_ ?_) | ((with_reducible refine ADR_skip1 ?_ ?_ ?_); (focus rfl))); (focus (first | rfl | ((simp (disch := omega) only [go_sem]); done))); (simp only [putL, List.set_cons_succ, List.set_cons_zero]))) | ((first | (with_reducible refine XRes_nil ?_) | (with_reducible refine ADF_nil ?_) | (with_reducible refine ADR_nil ?_) | (with_reducible refine ADX_nil ?_)); (first | refine hK _ ?_ | refine hK _ _ ?_); clear hK K) | ((first | (with_reducible refine AX_reg0 fun K hK => ?_) | (refine AX_drawG1 tyOK (by kernel_rfl) (by rfl) (by kernel_rfl) fun K hK => ?_) | (refine AX_drawT tyOK (by kernel_rfl) (by decide +kernel) fun K hK => ?_) | (refine AX_drawM1 (by kernel_rfl) (by rfl) (by decide +kernel) fun K hK => ?_) | (refine AX_drawA tyOK (by kernel_rfl) (by decide +kernel) fun K hK => ?_)); (first | simp only [go_sem, preN, effOp, runF, alM, mapOp, alD2, kdOf2, Bool.not_false, Bool.not_true, reduceCtorEq] | simp only [go_sem, preN, effOp, runF, alM, mapOp, Bool.not_false, Bool.not_true, reduceCtorEq] | simp only [go_sem, preN, effOp, runF, alD2, kdOf2, Bool.not_false, Bool.not_true, reduceCtorEq] | simp only [go_sem, alD2, kdOf2, Bool.not_false, Bool.not_true, reduceCtorEq] | simp only [go_sem, preN, effOp, runF, Bool.not_false, Bool.not_true, reduceCtorEq] | simp only [go_sem])) | ((first | (first | (refine XRes_eqA (us := [_, _]) (vs2 := [_, _]) rfl (by first | exact .inl rfl | exact .inr rfl) rfl rfl rfl rfl (by kernel_rfl) ?_) | (refine XRes_eqA (us := [_, _, _]) (vs2 := [_, _, _]) rfl (by first | exact .inl rfl | exact .inr rfl) rfl rfl rfl rfl (by kernel_rfl) ?_) | (refine XRes_eqA (us := [_, _, _, _, _]) (vs2 := [_, _, _, _, _]) rfl (by first | exact .inl rfl | exact .inr rfl) rfl rfl rfl rfl (by kernel_rfl) ?_)) | (first | (refine ADF_eqA (us := [_, _]) (vs2 := [_, _]) rfl (by first | exact .inl rfl | exact .inr rfl) rfl rfl rfl rfl (by kernel_rfl) ?_) | (refine ADF_eqA (us := [_, _, _]) (vs2 := [_, _, _]) rfl (by first | exact .inl rfl | exact .inr rfl) rfl rfl rfl rfl (by kernel_rfl) ?_) | (refine ADF_eqA (us := [_, _, _, _, _]) (vs2 := [_, _, _, _, _]) rfl (by first | exact .inl rfl | exact .inr rfl) rfl rfl rfl rfl (by kernel_rfl) ?_))); (simp only [putL, List.set_cons_succ, List.set_cons_zero]))))
    (refine AX_wh (σ := Nat) [11, 12, 13, 14, 17, 18, 19, 20, 21, 22, 23, 24, 25, 4, 15, 16] (fun k => [(5, lint k)]) (fun k => []) (fun k => []) (fun k => k ≤ xs.length ∧ ∀ i, i < k → eFl (evAt xs i) = eFl (evAt ys i)) (fun k => xs.length - k) 0 (fun d => by first | ((simp only [deadS, updS, List.set_cons_succ, List.set_cons_zero, lint, List.length_nil, List.length_cons]); done) | ((simp only [deadS, updS, List.set_cons_succ, List.set_cons_zero, lint, List.length_nil, List.length_cons]); rfl) | rfl) (by first | (with_reducible rfl) | (simp only [hinit]; done) | rfl) (by first | (with_reducible rfl) | rfl) (by first | exact ⟨Nat.zero_le _, fun i h => absurd h (by omega)⟩) ?_; rintro k d fr hfr ⟨hk, hp⟩; simp only [updS, deadS, List.set_cons_succ, List.set_cons_zero, lint] at hfr; subst hfr; (try dsimp only))
    (repeat' (first | (first | (with_reducible first | refine AX_block ?_ | refine AX_skip ?_ | refine AX_exit ?_ | refine AX_ret ?_) | ((with_reducible refine AX_if_t ?_ ?_); focus (simp only [go_sem]; done)) | ((with_reducible refine AX_if_f ?_ ?_); focus (simp only [go_sem]; done)) | (with_reducible refine AX_seq_k (fun K hK => ?_)) | ((with_reducible refine ContX.use (by assumption) ?_)) | (simp only [thenX, inBlockX, if_true, if_false, reduceCtorEq])) | (first | ((first | ((with_reducible refine XRes_op tyOK ?_ ?_); (focus (first | (with_reducible rfl) | ((simp (disch := omega) only [go_sem]); done)))) | ((with_reducible refine ADF_op tyOK ?_ ?_ ?_); (focus rfl); (focus (first | (with_reducible rfl) | ((simp (disch := omega) only [go_sem]); done)))) | ((with_reducible refine ADR_alloc1 tyOK ?_ ?_); (focus (first | (with_reducible rfl) | ((simp (disch := omega) only [go_sem]); done)))) | ((with_reducible refine ADX_op tyOK ?_ ?_ ?_); (focus rfl); (focus (first | (with_reducible rfl) | ((simp (disch := omega) only [go_sem]); done)))) | ((with_reducible refine ADR_free1 tyOK ?_ ?_ ?_); (focus rfl); (focus (first | (with_reducible rfl) | ((simp (disch := omega) only [go_sem]); done)))) | ((with_reducible refine ADR_free0 tyOK ?_ ?_ ?_); (focus rfl); (focus (first | (with_reducible rfl) | ((simp (disch := omega) only [go_sem]); done)))) | ((with_reducible refine ADR_read1 tyOK ?_ ?_ ?_); (focus rfl); (focus (first | (with_reducible rfl) | ((simp (disch := omega) only [go_sem]); done)))) | ((with_reducible refine ADR_chg1 tyOK ?_ ?_); (focus (first | (with_reducible rfl) | ((simp (disch := omega) only [go_sem]); done))))); simp (maxSteps := 2000000) (disch := omega) only [go_sem , flatE_w, flatE_p, flatE_n]; (first | (with_reducible refine XRes_id ?_) | (with_reducible refine ADF_id ?_) | (with_reducible refine ADR_id1 ?_) | (with_reducible refine ADX_id ?_))) | ((first | (with_reducible refine XRes_skip ?_ ?_) | (with_reducible refine ADF_skip (b := true) ?_ ?_) | (with_reducible refine ADX_skip ?_ ?_) | ((with_reducible refine ADR_skip1 ?_ ?_ ?_); (focus rfl))); (focus (first | rfl | ((simp (disch := omega) only [go_sem]); done))); (simp only [putL, List.set_cons_succ, List.set_cons_zero]))) | ((first | (with_reducible refine XRes_nil ?_) | (with_reducible refine ADF_nil ?_) | (with_reducible refine ADR_nil ?_) | (with_reducible refine ADX_nil ?_)); (first | refine hK _ ?_ | refine hK _ _ ?_); clear hK K) | ((first | (with_reducible refine AX_reg0 fun K hK => ?_) | (refine AX_drawG1 tyOK (by kernel_rfl) (by rfl) (by kernel_rfl) fun K hK => ?_) | (refine AX_drawT tyOK (by kernel_rfl) (by decide +kernel) fun K hK => ?_) | (refine AX_drawM1 (by kernel_rfl) (by rfl) (by decide +kernel) fun K hK => ?_) | (refine AX_drawA tyOK (by kernel_rfl) (by decide +kernel) fun K hK => ?_)); (first | simp only [go_sem, preN, effOp, runF, alM, mapOp, alD2, kdOf2, Bool.not_false, Bool.not_true, reduceCtorEq] | simp only [go_sem, preN, effOp, runF, alM, mapOp, Bool.not_false, Bool.not_true, reduceCtorEq] | simp only [go_sem, preN, effOp, runF, alD2, kdOf2, Bool.not_false, Bool.not_true, reduceCtorEq] | simp only [go_sem, alD2, kdOf2, Bool.not_false, Bool.not_true, reduceCtorEq] | simp only [go_sem, preN, effOp, runF, Bool.not_false, Bool.not_true, reduceCtorEq] | simp only [go_sem])) | ((first | (first | (refine XRes_eqA (us := [_, _]) (vs2 := [_, _]) rfl (by first | exact .inl rfl | exact .inr rfl) rfl rfl rfl rfl (by kernel_rfl) ?_) | (refine XRes_eqA (us := [_, _, _]) (vs2 := [_, _, _]) rfl (by first | exact .inl rfl | exact .inr rfl) rfl rfl rfl rfl (by kernel_rfl) ?_) | (refine XRes_eqA (us := [_, _, _, _, _]) (vs2 := [_, _, _, _, _]) rfl (by first | exact .inl rfl | exact .inr rfl) rfl rfl rfl rfl (by kernel_rfl) ?_)) | (first | (refine ADF_eqA (us := [_, _]) (vs2 := [_, _]) rfl (by first | exact .inl rfl | exact .inr rfl) rfl rfl rfl rfl (by kernel_rfl) ?_) | (refine ADF_eqA (us := [_, _, _]) (vs2 := [_, _, _]) rfl (by first | exact .inl rfl | exact .inr rfl) rfl rfl rfl rfl (by kernel_rfl) ?_) | (refine ADF_eqA (us := [_, _, _, _, _]) (vs2 := [_, _, _, _, _]) rfl (by first | exact .inl rfl | exact .inr rfl) rfl rfl rfl rfl (by kernel_rfl) ?_))); (simp only [putL, List.set_cons_succ, List.set_cons_zero])) | ((first | (refine XRes_splitG (by rfl) (fun hc => ?_) (fun hc => ?_)) | (refine ADF_splitG (by rfl) (fun hc => ?_) (fun hc => ?_))) <;> (try simp only [eqRes, List.cons_beq_cons, Bool.and_eq_true, Bool.not_eq_true, Bool.and_eq_false_iff, decide_eq_true_eq, decide_eq_false_iff_not, bne_iff_ne, beq_iff_eq, bne_eq_false_iff_eq, beq_eq_false_iff_ne, Bool.not_eq_true', Bool.not_eq_false', ne_eq, Int.not_lt, Int.not_le, Decidable.not_not] at hc) <;> simp only [List.set_cons_succ, List.set_cons_zero]) | (first | ((with_reducible refine AX_if_t ?_ ?_); focus (simp (maxSteps := 2000000) (disch := omega) only [go_sem , flatE_w, flatE_p, flatE_n]; done)) | ((with_reducible refine AX_if_f ?_ ?_); focus (simp (maxSteps := 2000000) (disch := omega) only [go_sem , flatE_w, flatE_p, flatE_n]; done)) | (refine AX_cond _ (by rfl) (fun hc => ?_) (fun hc => ?_) <;> (try simp only [eqRes, List.cons_beq_cons, Bool.and_eq_true, Bool.not_eq_true, Bool.and_eq_false_iff, decide_eq_true_eq, decide_eq_false_iff_not, bne_iff_ne, beq_iff_eq, bne_eq_false_iff_eq, beq_eq_false_iff_ne, Bool.not_eq_true', Bool.not_eq_false', ne_eq, Int.not_lt, Int.not_le, Decidable.not_not] at hc)))))
    · (simp only [bodyX]; refine ⟨_, by simp only [aresults, aresult, XS.as, Try.results14, aload, List.getD_cons_succ, List.getD_cons_zero, List.getElem?_cons_succ, List.getElem?_cons_zero, Option.bind_some]; rfl, ?_⟩)
      have hne : eFl (evAt xs k) ≠ eFl (evAt ys k) := fun h => by
        simp only [eFl, List.cons.injEq] at h
        obtain ⟨h1, h2, h3, _⟩ := h
        simp [h1, h2, h3] at hc
      exact ⟨.iv _, (by rw [eSame_no2 (i := k) (by omega) hne]), trivial⟩
    · refine whx_end (k + 1) ⟨by omega, fun i hi => ?_⟩ (by (first | omega | (dsimp only; omega) | (simp only; omega))) rfl (by first | rfl | (simp (maxSteps := 2000000) (disch := omega) only [go_sem, lint])) (fun d => by first | ((simp only [deadS, updS, List.set_cons_succ, List.set_cons_zero, lint, List.length_nil, List.length_cons]); done) | ((simp only [deadS, updS, List.set_cons_succ, List.set_cons_zero, lint, List.length_nil, List.length_cons]); rfl) | rfl)
      rcases Nat.lt_or_ge i k with h | h
      · exact hp i h
      · rw [show i = k by omega]; simp only [eFl]; simp [hc]
    · (simp only [bodyX]; refine ⟨_, by simp only [aresults, aresult, XS.as, Try.results14, aload, List.getD_cons_succ, List.getD_cons_zero, List.getElem?_cons_succ, List.getElem?_cons_zero, Option.bind_some]; rfl, ?_⟩)
      exact ⟨.iv _, (by rw [eSame_yes hl fun i hi => hp i (by omega)]), trivial⟩
  · (repeat' (first | (first | (with_reducible first | refine AX_block ?_ | refine AX_skip ?_ | refine AX_exit ?_ | refine AX_ret ?_) | ((with_reducible refine AX_if_t ?_ ?_); focus (simp only [go_sem]; done)) | ((with_reducible refine AX_if_f ?_ ?_); focus (simp only [go_sem]; done)) | (with_reducible refine AX_seq_k (fun K hK => ?_)) | ((with_reducible refine ContX.use (by assumption) ?_)) | (simp only [thenX, inBlockX, if_true, if_false, reduceCtorEq])) | (first | ((first | ((with_reducible refine XRes_op tyOK ?_ ?_); (focus (first | (with_reducible rfl) | ((simp (disch := omega) only [go_sem]); done)))) | ((with_reducible refine ADF_op tyOK ?_ ?_ ?_); (focus rfl); (focus (first | (with_reducible rfl) | ((simp (disch := omega) only [go_sem]); done)))) | ((with_reducible refine ADR_alloc1 tyOK ?_ ?_); (focus (first | (with_reducible rfl) | ((simp (disch := omega) only [go_sem]); done)))) | ((with_reducible refine ADX_op tyOK ?_ ?_ ?_); (focus rfl); (focus (first | (with_reducible rfl) | ((simp (disch := omega) only [go_sem]); done)))) | ((with_reducible refine ADR_free1 tyOK ?_ ?_ ?_); (focus rfl); (focus (first | (with_reducible rfl) | ((simp (disch := omega) only [go_sem]); done)))) | ((with_reducible refine ADR_free0 tyOK ?_ ?_ ?_); (focus rfl); (focus (first | (with_reducible rfl) | ((simp (disch := omega) only [go_sem]); done)))) | ((with_reducible refine ADR_read1 tyOK ?_ ?_ ?_); (focus rfl); (focus (first | (with_reducible rfl) | ((simp (disch := omega) only [go_sem]); done)))) | ((with_reducible refine ADR_chg1 tyOK ?_ ?_); (focus (first | (with_reducible rfl) | ((simp (disch := omega) only [go_sem]); done))))); simp (maxSteps := 2000000) (disch := omega) only [go_sem , flatE_w, flatE_p, flatE_n]; (first | (with_reducible refine XRes_id ?_) | (with_reducible refine ADF_id ?_) | (with_reducible refine ADR_id1 ?_) | (with_reducible refine ADX_id ?_))) | ((first | (with_reducible refine XRes_skip ?_ ?_) | (with_reducible refine ADF_skip (b := true) ?_ ?_) | (with_reducible refine ADX_skip ?_ ?_) | ((with_reducible refine ADR_skip1 ?_ ?_ ?_); (focus rfl))); (focus (first | rfl | ((simp (disch := omega) only [go_sem]); done))); (simp only [putL, List.set_cons_succ, List.set_cons_zero]))) | ((first | (with_reducible refine XRes_nil ?_) | (with_reducible refine ADF_nil ?_) | (with_reducible refine ADR_nil ?_) | (with_reducible refine ADX_nil ?_)); (first | refine hK _ ?_ | refine hK _ _ ?_); clear hK K) | ((first | (with_reducible refine AX_reg0 fun K hK => ?_) | (refine AX_drawG1 tyOK (by kernel_rfl) (by rfl) (by kernel_rfl) fun K hK => ?_) | (refine AX_drawT tyOK (by kernel_rfl) (by decide +kernel) fun K hK => ?_) | (refine AX_drawM1 (by kernel_rfl) (by rfl) (by decide +kernel) fun K hK => ?_) | (refine AX_drawA tyOK (by kernel_rfl) (by decide +kernel) fun K hK => ?_)); (first | simp only [go_sem, preN, effOp, runF, alM, mapOp, alD2, kdOf2, Bool.not_false, Bool.not_true, reduceCtorEq] | simp only [go_sem, preN, effOp, runF, alM, mapOp, Bool.not_false, Bool.not_true, reduceCtorEq] | simp only [go_sem, preN, effOp, runF, alD2, kdOf2, Bool.not_false, Bool.not_true, reduceCtorEq] | simp only [go_sem, alD2, kdOf2, Bool.not_false, Bool.not_true, reduceCtorEq] | simp only [go_sem, preN, effOp, runF, Bool.not_false, Bool.not_true, reduceCtorEq] | simp only [go_sem])) | ((first | (first | (refine XRes_eqA (us := [_, _]) (vs2 := [_, _]) rfl (by first | exact .inl rfl | exact .inr rfl) rfl rfl rfl rfl (by kernel_rfl) ?_) | (refine XRes_eqA (us := [_, _, _]) (vs2 := [_, _, _]) rfl (by first | exact .inl rfl | exact .inr rfl) rfl rfl rfl rfl (by kernel_rfl) ?_) | (refine XRes_eqA (us := [_, _, _, _, _]) (vs2 := [_, _, _, _, _]) rfl (by first | exact .inl rfl | exact .inr rfl) rfl rfl rfl rfl (by kernel_rfl) ?_)) | (first | (refine ADF_eqA (us := [_, _]) (vs2 := [_, _]) rfl (by first | exact .inl rfl | exact .inr rfl) rfl rfl rfl rfl (by kernel_rfl) ?_) | (refine ADF_eqA (us := [_, _, _]) (vs2 := [_, _, _]) rfl (by first | exact .inl rfl | exact .inr rfl) rfl rfl rfl rfl (by kernel_rfl) ?_) | (refine ADF_eqA (us := [_, _, _, _, _]) (vs2 := [_, _, _, _, _]) rfl (by first | exact .inl rfl | exact .inr rfl) rfl rfl rfl rfl (by kernel_rfl) ?_))); (simp only [putL, List.set_cons_succ, List.set_cons_zero])) | ((first | (refine XRes_splitG (by rfl) (fun hc => ?_) (fun hc => ?_)) | (refine ADF_splitG (by rfl) (fun hc => ?_) (fun hc => ?_))) <;> (try simp only [eqRes, List.cons_beq_cons, Bool.and_eq_true, Bool.not_eq_true, Bool.and_eq_false_iff, decide_eq_true_eq, decide_eq_false_iff_not, bne_iff_ne, beq_iff_eq, bne_eq_false_iff_eq, beq_eq_false_iff_ne, Bool.not_eq_true', Bool.not_eq_false', ne_eq, Int.not_lt, Int.not_le, Decidable.not_not] at hc) <;> simp only [List.set_cons_succ, List.set_cons_zero]) | (first | ((with_reducible refine AX_if_t ?_ ?_); focus (simp (maxSteps := 2000000) (disch := omega) only [go_sem , flatE_w, flatE_p, flatE_n]; done)) | ((with_reducible refine AX_if_f ?_ ?_); focus (simp (maxSteps := 2000000) (disch := omega) only [go_sem , flatE_w, flatE_p, flatE_n]; done)) | (refine AX_cond _ (by rfl) (fun hc => ?_) (fun hc => ?_) <;> (try simp only [eqRes, List.cons_beq_cons, Bool.and_eq_true, Bool.not_eq_true, Bool.and_eq_false_iff, decide_eq_true_eq, decide_eq_false_iff_not, bne_iff_ne, beq_iff_eq, bne_eq_false_iff_eq, beq_eq_false_iff_ne, Bool.not_eq_true', Bool.not_eq_false', ne_eq, Int.not_lt, Int.not_le, Decidable.not_not] at hc)))))
    (simp only [bodyX]; refine ⟨_, by simp only [aresults, aresult, XS.as, Try.results14, aload, List.getD_cons_succ, List.getD_cons_zero, List.getElem?_cons_succ, List.getElem?_cons_zero, Option.bind_some]; rfl, ?_⟩)
    exact ⟨.iv _, (by rw [eSame_no1 hl]), trivial⟩
set_option maxRecDepth 100000 in
set_option maxHeartbeats 1000000 in
theorem pf_eEqual (xs ys : List Ev3) (hx : xs.length ≤ 100000) (hy : ys.length ≤ 100000) : PF Try.prog 30 [.iv (iEvs xs), .iv (iEvs ys)] fun r H' => r = lt (.bool (eSame xs ys)) ∧ H' = [] := by
  refine SF.forgetAll ?_
  (refine SF_of_bodyX (aload tt) (aload_ok tyOK) Try.func30 rfl (by kernel_rfl) ?_; simp only [Try.ntmps30, List.length_cons, List.length_nil, Nat.reduceAdd, Nat.reduceSub, List.replicate_succ, List.replicate_zero, List.cons_append, List.nil_append])
  unfold iEvs iFlat
  by_cases hl : xs.length = ys.length
  · (repeat (first | (first | (with_reducible first | refine AX_block ?_ | refine AX_skip ?_ | refine AX_exit ?_ | refine AX_ret ?_) | ((with_reducible refine AX_if_t ?_ ?_); focus (simp only [go_sem]; done)) | ((with_reducible refine AX_if_f ?_ ?_); focus (simp only [go_sem]; done)) | (with_reducible refine AX_seq_k (fun K hK => ?_)) | ((with_reducible refine ContX.use (by assumption) ?_)) | (simp only [thenX, inBlockX, if_true, if_false, reduceCtorEq])) | (first | ((first | ((with_reducible refine XRes_op tyOK ?_ ?_); (focus (first | (with_reducible rfl) | ((simp (disch := omega) only [go_sem]); done)))) | ((with_reducible refine ADF_op tyOK ?_ ?_ ?_); (focus rfl); (focus (first | (with_reducible rfl) | ((simp (disch := omega) only [go_sem]); done)))) | ((with_reducible refine ADR_alloc1 tyOK ?_ ?_); (focus (first | (with_reducible rfl) | ((simp (disch := omega) only [go_sem]); done)))) | ((with_reducible refine ADX_op tyOK ?_ ?_ ?_); (focus rfl); (focus (first | (with_reducible rfl) | ((simp (disch := omega) only [go_sem]); done)))) | ((with_reducible refine ADR_free1 tyOK ?_ ?_ ?_); (focus rfl); (focus (first | (with_reducible rfl) | ((simp (disch := omega) only [go_sem]); done)))) | ((with_reducible refine ADR_free0 tyOK ?_ ?_ ?_); (focus rfl); (focus (first | (with_reducible rfl) | ((simp (disch := omega) only [go_sem]); done)))) | ((with_reducible refine ADR_read1 tyOK ?_ ?_ ?_); (focus rfl); (focus (first | (with_reducible rfl) | ((simp (disch := omega) only [go_sem]); done)))) | ((with_reducible refine ADR_chg1 tyOK ?_ ?_); (focus (first | (with_reducible rfl) | ((simp (disch := omega) only [go_sem]); done))))); simp (maxSteps := 2000000) (disch := omega) only [go_sem , flatE_w, flatE_p, flatE_n]; (first | (with_reducible refine XRes_id ?_) | (with_reducible refine ADF_id ?_) | (with_reducible refine ADR_id1 ?_) | (with_reducible refine ADX_id ?_))) | ((first | (with_reducible refine XRes_skip ?_ ?_) | (with_reducible refine ADF_skip (b := true) ?_ ?_) | (with_reducible refine ADX_skip ?_ ?_) | ((with_reducible refine ADR_skip1 ?_ ?_ ?_); (focus rfl))); (focus (first | rfl | ((simp (disch := omega) only [go_sem]); done))); (simp only [putL, List.set_cons_succ, List.set_cons_zero]))) | ((first | (with_reducible refine XRes_nil ?_) | (with_reducible refine ADF_nil ?_) | (with_reducible refine ADR_nil ?_) | (with_reducible refine ADX_nil ?_)); (first | refine hK _ ?_ | refine hK _ _ ?_); clear hK K) | ((first | (with_reducible refine AX_reg0 fun K hK => ?_) | (refine AX_drawG1 tyOK (by kernel_rfl) (by rfl) (by kernel_rfl) fun K hK => ?_) | (refine AX_drawT tyOK (by kernel_rfl) (by decide +kernel) fun K hK => ?_) | (refine AX_drawM1 (by kernel_rfl) (by rfl) (by decide +kernel) fun K hK => ?_) | (refine AX_drawA tyOK (by kernel_rfl) (by decide +kernel) fun K hK => ?_)); (first | simp only [go_sem, preN, effOp, runF, alM, mapOp, alD2, kdOf2, Bool.not_false, Bool.not_true, reduceCtorEq] | simp only [go_sem, preN, effOp, runF, alM, mapOp, Bool.not_false, Bool.not_true, reduceCtorEq] | simp only [go_sem, preN, effOp, runF, alD2, kdOf2, Bool.not_false, Bool.not_true, reduceCtorEq] | simp only [go_sem, alD2, kdOf2, Bool.not_false, Bool.not_true, reduceCtorEq] | simp only [go_sem, preN, effOp, runF, Bool.not_false, Bool.not_true, reduceCtorEq] | simp only [go_sem])) | ((first | (first | (refine XRes_eqA (us := [_, _]) (vs2 := [_, _]) rfl (by first | exact .inl rfl | exact .inr rfl) rfl rfl rfl rfl (by kernel_rfl) ?_) | (refine XRes_eqA (us := [_, _, _]) (vs2 := [_, _, _]) rfl (by first | exact .inl rfl | exact .inr rfl) rfl rfl rfl rfl (by kernel_rfl) ?_) | (refine XRes_eqA (us := [_, _, _, _, _]) (vs2 := [_, _, _, _, _]) rfl (by first | exact .inl rfl | exact .inr rfl) rfl rfl rfl rfl (by kernel_rfl) ?_)) | (first | (refine ADF_eqA (us := [_, _]) (vs2 := [_, _]) rfl (by first | exact .inl rfl | exact .inr rfl) rfl rfl rfl rfl (by kernel_rfl) ?_) | (refine ADF_eqA (us := [_, _, _]) (vs2 := [_, _, _]) rfl (by first | exact .inl rfl | exact .inr rfl) rfl rfl rfl rfl (by kernel_rfl) ?_) | (refine ADF_eqA (us := [_, _, _, _, _]) (vs2 := [_, _, _, _, _]) rfl (by first | exact .inl rfl | exact .inr rfl) rfl rfl rfl rfl (by kernel_rfl) ?_))); (simp only [putL, List.set_cons_succ, List.set_cons_zero]))))
    (refine AX_wh (σ := Nat) [14, 15, 5, 16, 17, 18, 19, 20, 21, 22, 23, 24, 4, 25] (fun k => [(13, lint k)]) (fun k => []) (fun k => []) (fun k => k ≤ xs.length ∧ ∀ i, i < k → eFl (evAt xs i) = eFl (evAt ys i)) (fun k => xs.length - k) 0 (fun d => by first | ((simp only [deadS, updS, List.set_cons_succ, List.set_cons_zero, lint, List.length_nil, List.length_cons]); done) | ((simp only [deadS, updS, List.set_cons_succ, List.set_cons_zero, lint, List.length_nil, List.length_cons]); rfl) | rfl) (by first | (with_reducible rfl) | (simp only [hinit]; done) | rfl) (by first | (with_reducible rfl) | rfl) (by first | exact ⟨Nat.zero_le _, fun i h => absurd h (by omega)⟩) ?_; rintro k d fr hfr ⟨hk, hp⟩; simp only [updS, deadS, List.set_cons_succ, List.set_cons_zero, lint] at hfr; subst hfr; (try dsimp only))
    (repeat' (first | (first | (with_reducible first | refine AX_block ?_ | refine AX_skip ?_ | refine AX_exit ?_ | refine AX_ret ?_) | ((with_reducible refine AX_if_t ?_ ?_); focus (simp only [go_sem]; done)) | ((with_reducible refine AX_if_f ?_ ?_); focus (simp only [go_sem]; done)) | (with_reducible refine AX_seq_k (fun K hK => ?_)) | ((with_reducible refine ContX.use (by assumption) ?_)) | (simp only [thenX, inBlockX, if_true, if_false, reduceCtorEq])) | (first | ((first | ((with_reducible refine XRes_op tyOK ?_ ?_); (focus (first | (with_reducible rfl) | ((simp (disch := omega) only [go_sem]); done)))) | ((with_reducible refine ADF_op tyOK ?_ ?_ ?_); (focus rfl); (focus (first | (with_reducible rfl) | ((simp (disch := omega) only [go_sem]); done)))) | ((with_reducible refine ADR_alloc1 tyOK ?_ ?_); (focus (first | (with_reducible rfl) | ((simp (disch := omega) only [go_sem]); done)))) | ((with_reducible refine ADX_op tyOK ?_ ?_ ?_); (focus rfl); (focus (first | (with_reducible rfl) | ((simp (disch := omega) only [go_sem]); done)))) | ((with_reducible refine ADR_free1 tyOK ?_ ?_ ?_); (focus rfl); (focus (first | (with_reducible rfl) | ((simp (disch := omega) only [go_sem]); done)))) | ((with_reducible refine ADR_free0 tyOK ?_ ?_ ?_); (focus rfl); (focus (first | (with_reducible rfl) | ((simp (disch := omega) only [go_sem]); done)))) | ((with_reducible refine ADR_read1 tyOK ?_ ?_ ?_); (focus rfl); (focus (first | (with_reducible rfl) | ((simp (disch := omega) only [go_sem]); done)))) | ((with_reducible refine ADR_chg1 tyOK ?_ ?_); (focus (first | (with_reducible rfl) | ((simp (disch := omega) only [go_sem]); done))))); simp (maxSteps := 2000000) (disch := omega) only [go_sem , flatE_w, flatE_p, flatE_n]; (first | (with_reducible refine XRes_id ?_) | (with_reducible refine ADF_id ?_) | (with_reducible refine ADR_id1 ?_) | (with_reducible refine ADX_id ?_))) | ((first | (with_reducible refine XRes_skip ?_ ?_) | (with_reducible refine ADF_skip (b := true) ?_ ?_) | (with_reducible refine ADX_skip ?_ ?_) | ((with_reducible refine ADR_skip1 ?_ ?_ ?_); (focus rfl))); (focus (first | rfl | ((simp (disch := omega) only [go_sem]); done))); (simp only [putL, List.set_cons_succ, List.set_cons_zero]))) | ((first | (with_reducible refine XRes_nil ?_) | (with_reducible refine ADF_nil ?_) | (with_reducible refine ADR_nil ?_) | (with_reducible refine ADX_nil ?_)); (first | refine hK _ ?_ | refine hK _ _ ?_); clear hK K) | ((first | (with_reducible refine AX_reg0 fun K hK => ?_) | (refine AX_drawG1 tyOK (by kernel_rfl) (by rfl) (by kernel_rfl) fun K hK => ?_) | (refine AX_drawT tyOK (by kernel_rfl) (by decide +kernel) fun K hK => ?_) | (refine AX_drawM1 (by kernel_rfl) (by rfl) (by decide +kernel) fun K hK => ?_) | (refine AX_drawA tyOK (by kernel_rfl) (by decide +kernel) fun K hK => ?_)); (first | simp only [go_sem, preN, effOp, runF, alM, mapOp, alD2, kdOf2, Bool.not_false, Bool.not_true, reduceCtorEq] | simp only [go_sem, preN, effOp, runF, alM, mapOp, Bool.not_false, Bool.not_true, reduceCtorEq] | simp only [go_sem, preN, effOp, runF, alD2, kdOf2, Bool.not_false, Bool.not_true, reduceCtorEq] | simp only [go_sem, alD2, kdOf2, Bool.not_false, Bool.not_true, reduceCtorEq] | simp only [go_sem, preN, effOp, runF, Bool.not_false, Bool.not_true, reduceCtorEq] | simp only [go_sem])) | ((first | (first | (refine XRes_eqA (us := [_, _]) (vs2 := [_, _]) rfl (by first | exact .inl rfl | exact .inr rfl) rfl rfl rfl rfl (by kernel_rfl) ?_) | (refine XRes_eqA (us := [_, _, _]) (vs2 := [_, _, _]) rfl (by first | exact .inl rfl | exact .inr rfl) rfl rfl rfl rfl (by kernel_rfl) ?_) | (refine XRes_eqA (us := [_, _, _, _, _]) (vs2 := [_, _, _, _, _]) rfl (by first | exact .inl rfl | exact .inr rfl) rfl rfl rfl rfl (by kernel_rfl) ?_)) | (first | (refine ADF_eqA (us := [_, _]) (vs2 := [_, _]) rfl (by first | exact .inl rfl | exact .inr rfl) rfl rfl rfl rfl (by kernel_rfl) ?_) | (refine ADF_eqA (us := [_, _, _]) (vs2 := [_, _, _]) rfl (by first | exact .inl rfl | exact .inr rfl) rfl rfl rfl rfl (by kernel_rfl) ?_) | (refine ADF_eqA (us := [_, _, _, _, _]) (vs2 := [_, _, _, _, _]) rfl (by first | exact .inl rfl | exact .inr rfl) rfl rfl rfl rfl (by kernel_rfl) ?_))); (simp only [putL, List.set_cons_succ, List.set_cons_zero])) | ((first | (refine XRes_splitG (by rfl) (fun hc => ?_) (fun hc => ?_)) | (refine ADF_splitG (by rfl) (fun hc => ?_) (fun hc => ?_))) <;> (try simp only [eqRes, List.cons_beq_cons, Bool.and_eq_true, Bool.not_eq_true, Bool.and_eq_false_iff, decide_eq_true_eq, decide_eq_false_iff_not, bne_iff_ne, beq_iff_eq, bne_eq_false_iff_eq, beq_eq_false_iff_ne, Bool.not_eq_true', Bool.not_eq_false', ne_eq, Int.not_lt, Int.not_le, Decidable.not_not] at hc) <;> simp only [List.set_cons_succ, List.set_cons_zero]) | (first | ((with_reducible refine AX_if_t ?_ ?_); focus (simp (maxSteps := 2000000) (disch := omega) only [go_sem , flatE_w, flatE_p, flatE_n]; done)) | ((with_reducible refine AX_if_f ?_ ?_); focus (simp (maxSteps := 2000000) (disch := omega) only [go_sem , flatE_w, flatE_p, flatE_n]; done)) | (refine AX_cond _ (by rfl) (fun hc => ?_) (fun hc => ?_) <;> (try simp only [eqRes, List.cons_beq_cons, Bool.and_eq_true, Bool.not_eq_true, Bool.and_eq_false_iff, decide_eq_true_eq, decide_eq_false_iff_not, bne_iff_ne, beq_iff_eq, bne_eq_false_iff_eq, beq_eq_false_iff_ne, Bool.not_eq_true', Bool.not_eq_false', ne_eq, Int.not_lt, Int.not_le, Decidable.not_not] at hc)))))
    · (simp only [bodyX]; refine ⟨_, by simp only [aresults, aresult, XS.as, Try.results30, aload, List.getD_cons_succ, List.getD_cons_zero, List.getElem?_cons_succ, List.getElem?_cons_zero, Option.bind_some]; rfl, ?_⟩)
      have hne : eFl (evAt xs k) ≠ eFl (evAt ys k) := fun h => by
        simp only [eFl, List.cons.injEq] at h
        obtain ⟨h1, h2, h3, _⟩ := h
        simp [h1, h2, h3] at hc
      exact ⟨.iv _, (by rw [eSame_no2 (i := k) (by omega) hne]), trivial⟩
    · refine whx_end (k + 1) ⟨by omega, fun i hi => ?_⟩ (by (first | omega | (dsimp only; omega) | (simp only; omega))) rfl (by first | rfl | (simp (maxSteps := 2000000) (disch := omega) only [go_sem, lint])) (fun d => by first | ((simp only [deadS, updS, List.set_cons_succ, List.set_cons_zero, lint, List.length_nil, List.length_cons]); done) | ((simp only [deadS, updS, List.set_cons_succ, List.set_cons_zero, lint, List.length_nil, List.length_cons]); rfl) | rfl)
      rcases Nat.lt_or_ge i k with h | h
      · exact hp i h
      · rw [show i = k by omega]; simp only [eFl]; simp [hc]
    · (simp only [bodyX]; refine ⟨_, by simp only [aresults, aresult, XS.as, Try.results30, aload, List.getD_cons_succ, List.getD_cons_zero, List.getElem?_cons_succ, List.getElem?_cons_zero, Option.bind_some]; rfl, ?_⟩)
      exact ⟨.iv _, (by rw [eSame_yes hl fun i hi => hp i (by omega)]), trivial⟩
  · (repeat' (first | (first | (with_reducible first | refine AX_block ?_ | refine AX_skip ?_ | refine AX_exit ?_ | refine AX_ret ?_) | ((with_reducible refine AX_if_t ?_ ?_); focus (simp only [go_sem]; done)) | ((with_reducible refine AX_if_f ?_ ?_); focus (simp only [go_sem]; done)) | (with_reducible refine AX_seq_k (fun K hK => ?_)) | ((with_reducible refine ContX.use (by assumption) ?_)) | (simp only [thenX, inBlockX, if_true, if_false, reduceCtorEq])) | (first | ((first | ((with_reducible refine XRes_op tyOK ?_ ?_); (focus (first | (with_reducible rfl) | ((simp (disch := omega) only [go_sem]); done)))) | ((with_reducible refine ADF_op tyOK ?_ ?_ ?_); (focus rfl); (focus (first | (with_reducible rfl) | ((simp (disch := omega) only [go_sem]); done)))) | ((with_reducible refine ADR_alloc1 tyOK ?_ ?_); (focus (first | (with_reducible rfl) | ((simp (disch := omega) only [go_sem]); done)))) | ((with_reducible refine ADX_op tyOK ?_ ?_ ?_); (focus rfl); (focus (first | (with_reducible rfl) | ((simp (disch := omega) only [go_sem]); done)))) | ((with_reducible refine ADR_free1 tyOK ?_ ?_ ?_); (focus rfl); (focus (first | (with_reducible rfl) | ((simp (disch := omega) only [go_sem]); done)))) | ((with_reducible refine ADR_free0 tyOK ?_ ?_ ?_); (focus rfl); (focus (first | (with_reducible rfl) | ((simp (disch := omega) only [go_sem]); done)))) | ((with_reducible refine ADR_read1 tyOK ?_ ?_ ?_); (focus rfl); (focus (first | (with_reducible rfl) | ((simp (disch := omega) only [go_sem]); done)))) | ((with_reducible refine ADR_chg1 tyOK ?_ ?_); (focus (first | (with_reducible rfl) | ((simp (disch := omega) only [go_sem]); done))))); simp (maxSteps := 2000000) (disch := omega) only [go_sem , flatE_w, flatE_p, flatE_n]; (first | (with_reducible refine XRes_id ?_) | (with_reducible refine ADF_id ?_) | (with_reducible refine ADR_id1 ?_) | (with_reducible refine ADX_id ?_))) | ((first | (with_reducible refine XRes_skip ?_ ?_) | (with_reducible refine ADF_skip (b := true) ?_ ?_) | (with_reducible refine ADX_skip ?_ ?_) | ((with_reducible refine ADR_skip1 ?_ ?_ ?_); (focus rfl))); (focus (first | rfl | ((simp (disch := omega) only [go_sem]); done))); (simp only [putL, List.set_cons_succ, List.set_cons_zero]))) | ((first | (with_reducible refine XRes_nil ?_) | (with_reducible refine ADF_nil ?_) | (with_reducible refine ADR_nil ?_) | (with_reducible refine ADX_nil ?_)); (first | refine hK _ ?_ | refine hK _ _ ?_); clear hK K) | ((first | (with_reducible refine AX_reg0 fun K hK => ?_) | (refine AX_drawG1 tyOK (by kernel_rfl) (by rfl) (by kernel_rfl) fun K hK => ?_) | (refine AX_drawT tyOK (by kernel_rfl) (by decide +kernel) fun K hK => ?_) | (refine AX_drawM1 (by kernel_rfl) (by rfl) (by decide +kernel) fun K hK => ?_) | (refine AX_drawA tyOK (by kernel_rfl) (by decide +kernel) fun K hK => ?_)); (first | simp only [go_sem, preN, effOp, runF, alM, mapOp, alD2, kdOf2, Bool.not_false, Bool.not_true, reduceCtorEq] | simp only [go_sem, preN, effOp, runF, alM, mapOp, Bool.not_false, Bool.not_true, reduceCtorEq] | simp only [go_sem, preN, effOp, runF, alD2, kdOf2, Bool.not_false, Bool.not_true, reduceCtorEq] | simp only [go_sem, alD2, kdOf2, Bool.not_false, Bool.not_true, reduceCtorEq] | simp only [go_sem, preN, effOp, runF, Bool.not_false, Bool.not_true, reduceCtorEq] | simp only [go_sem])) | ((first | (first | (refine XRes_eqA (us := [_, _]) (vs2 := [_, _]) rfl (by first | exact .inl rfl | exact .inr rfl) rfl rfl rfl rfl (by kernel_rfl) ?_) | (refine XRes_eqA (us := [_, _, _]) (vs2 := [_, _, _]) rfl (by first | exact .inl rfl | exact .inr rfl) rfl rfl rfl rfl (by kernel_rfl) ?_) | (refine XRes_eqA (us := [_, _, _, _, _]) (vs2 := [_, _, _, _, _]) rfl (by first | exact .inl rfl | exact .inr rfl) rfl rfl rfl rfl (by kernel_rfl) ?_)) | (first | (refine ADF_eqA (us := [_, _]) (vs2 := [_, _]) rfl (by first | exact .inl rfl | exact .inr rfl) rfl rfl rfl rfl (by kernel_rfl) ?_) | (refine ADF_eqA (us := [_, _, _]) (vs2 := [_, _, _]) rfl (by first | exact .inl rfl | exact .inr rfl) rfl rfl rfl rfl (by kernel_rfl) ?_) | (refine ADF_eqA (us := [_, _, _, _, _]) (vs2 := [_, _, _, _, _]) rfl (by first | exact .inl rfl | exact .inr rfl) rfl rfl rfl rfl (by kernel_rfl) ?_))); (simp only [putL, List.set_cons_succ, List.set_cons_zero])) | ((first | (refine XRes_splitG (by rfl) (fun hc => ?_) (fun hc => ?_)) | (refine ADF_splitG (by rfl) (fun hc => ?_) (fun hc => ?_))) <;> (try simp only [eqRes, List.cons_beq_cons, Bool.and_eq_true, Bool.not_eq_true, Bool.and_eq_false_iff, decide_eq_true_eq, decide_eq_false_iff_not, bne_iff_ne, beq_iff_eq, bne_eq_false_iff_eq, beq_eq_false_iff_ne, Bool.not_eq_true', Bool.not_eq_false', ne_eq, Int.not_lt, Int.not_le, Decidable.not_not] at hc) <;> simp only [List.set_cons_succ, List.set_cons_zero]) | (first | ((with_reducible refine AX_if_t ?_ ?_); focus (simp (maxSteps := 2000000) (disch := omega) only [go_sem , flatE_w, flatE_p, flatE_n]; done)) | ((with_reducible refine AX_if_f ?_ ?_); focus (simp (maxSteps := 2000000) (disch := omega) only [go_sem , flatE_w, flatE_p, flatE_n]; done)) | (refine AX_cond _ (by rfl) (fun hc => ?_) (fun hc => ?_) <;> (try simp only [eqRes, List.cons_beq_cons, Bool.and_eq_true, Bool.not_eq_true, Bool.and_eq_false_iff, decide_eq_true_eq, decide_eq_false_iff_not, bne_iff_ne, beq_iff_eq, bne_eq_false_iff_eq, beq_eq_false_iff_ne, Bool.not_eq_true', Bool.not_eq_false', ne_eq, Int.not_lt, Int.not_le, Decidable.not_not] at hc)))))
    (simp only [bodyX]; refine ⟨_, by simp only [aresults, aresult, XS.as, Try.results30, aload, List.getD_cons_succ, List.getD_cons_zero, List.getElem?_cons_succ, List.getElem?_cons_zero, Option.bind_some]; rfl, ?_⟩)
    exact ⟨.iv _, (by rw [eSame_no1 hl]), trivial⟩
set_option maxRecDepth 100000 in
set_option maxHeartbeats 1000000 in
theorem pf_eSame (xs ys : List Ev3) (hx : xs.length ≤ 100000) (hy : ys.length ≤ 100000) : PF Try.prog 19 [.iv (iEvs xs), .iv (iEvs ys)] fun r H' => r = lt (.bool (eSame xs ys)) ∧ H' = [] := by
  refine SF.forgetAll ?_
  (refine SF_of_bodyX (aload tt) (aload_ok tyOK) Try.func19 rfl (by kernel_rfl) ?_; simp only [Try.ntmps19, List.length_cons, List.length_nil, Nat.reduceAdd, Nat.reduceSub, List.replicate_succ, List.replicate_zero, List.cons_append, List.nil_append])
  (repeat (first | (first | (with_reducible first | refine AX_block ?_ | refine AX_skip ?_ | refine AX_exit ?_ | refine AX_ret ?_) | ((with_reducible refine AX_if_t ?_ ?_); focus (simp only [go_sem]; done)) | ((with_reducible refine AX_if_f ?_ ?_); focus (simp only [go_sem]; done)) | (with_reducible refine AX_seq_k (fun K hK => ?_)) | ((with_reducible refine ContX.use (by assumption) ?_)) | (simp only [thenX, inBlockX, if_true, if_false, reduceCtorEq])) | (first | ((first | ((with_reducible refine XRes_op tyOK ?_ ?_); (focus (first | (with_reducible rfl) | ((simp (disch := omega) only [go_sem]); done)))) | ((with_reducible refine ADF_op tyOK ?_ ?_ ?_); (focus rfl); (focus (first | (with_reducible rfl) | ((simp (disch := omega) only [go_sem]); done)))) | ((with_reducible refine ADR_alloc1 tyOK ?_ ?_); (focus (first | (with_reducible rfl) | ((simp (disch := omega) only [go_sem]); done)))) | ((with_reducible refine ADX_op tyOK ?_ ?_ ?_); (focus rfl); (focus (first | (with_reducible rfl) | ((simp (disch := omega) only [go_sem]); done)))) | ((with_reducible refine ADR_free1 tyOK ?_ ?_ ?_); (focus rfl); (focus (first | (with_reducible rfl) | ((simp (disch := omega) only [go_sem]); done)))) | ((with_reducible refine ADR_free0 tyOK ?_ ?_ ?_); (focus rfl); (focus (first | (with_reducible rfl) | ((simp (disch := omega) only [go_sem]); done)))) | ((with_reducible refine ADR_read1 tyOK ?_ ?_ ?_); (focus rfl); (focus (first | (with_reducible rfl) | ((simp (disch := omega) only [go_sem]); done)))) | ((with_reducible refine ADR_chg1 tyOK ?_ ?_); (focus (first | (with_reducible rfl) | ((simp (disch := omega) only [go_sem]); done))))); simp (maxSteps := 2000000) (disch := omega) only [go_sem , flatE_w, flatE_p, flatE_n]; (first | (with_reducible refine XRes_id ?_) | (with_reducible refine ADF_id ?_) | (with_reducible refine ADR_id1 ?_) | (with_reducible refine ADX_id ?_))) | ((first | (with_reducible refine XRes_skip ?_ ?_) | (with_reducible refine ADF_skip (b := true) ?_ ?_) | (with_reducible refine ADX_skip ?_ ?_) | ((with_reducible refine ADR_skip1 ?_ ?_ ?_); (focus rfl))); (focus (first | rfl | ((simp (disch := omega) only [go_sem]); done))); (simp only [putL, List.set_cons_succ, List.set_cons_zero]))) | ((first | (with_reducible refine XRes_nil ?_) | (with_reducible refine ADF_nil ?_) | (with_reducible refine ADR_nil ?_) | (with_reducible refine ADX_nil ?_)); (first | refine hK _ ?_ | refine hK _ _ ?_); clear hK K) | ((first | (with_reducible refine AX_reg0 fun K hK => ?_) | (refine AX_drawG1 tyOK (by kernel_rfl) (by rfl) (by kernel_rfl) fun K hK => ?_) | (refine AX_drawT tyOK (by kernel_rfl) (by decide +kernel) fun K hK => ?_) | (refine AX_drawM1 (by kernel_rfl) (by rfl) (by decide +kernel) fun K hK => ?_) | (refine AX_drawA tyOK (by kernel_rfl) (by decide +kernel) fun K hK => ?_)); (first | simp only [go_sem, preN, effOp, runF, alM, mapOp, alD2, kdOf2, Bool.not_false, Bool.not_true, reduceCtorEq] | simp only [go_sem, preN, effOp, runF, alM, mapOp, Bool.not_false, Bool.not_true, reduceCtorEq] | simp only [go_sem, preN, effOp, runF, alD2, kdOf2, Bool.not_false, Bool.not_true, reduceCtorEq] | simp only [go_sem, alD2, kdOf2, Bool.not_false, Bool.not_true, reduceCtorEq] | simp only [go_sem, preN, effOp, runF, Bool.not_false, Bool.not_true, reduceCtorEq] | simp only [go_sem])) | ((first | (first | (refine XRes_eqA (us := [_, _]) (vs2 := [_, _]) rfl (by first | exact .inl rfl | exact .inr rfl) rfl rfl rfl rfl (by kernel_rfl) ?_) | (refine XRes_eqA (us := [_, _, _]) (vs2 := [_, _, _]) rfl (by first | exact .inl rfl | exact .inr rfl) rfl rfl rfl rfl (by kernel_rfl) ?_) | (refine XRes_eqA (us := [_, _, _, _, _]) (vs2 := [_, _, _, _, _]) rfl (by first | exact .inl rfl | exact .inr rfl) rfl rfl rfl rfl (by kernel_rfl) ?_)) | (first | (refine ADF_eqA (us := [_, _]) (vs2 := [_, _]) rfl (by first | exact .inl rfl | exact .inr rfl) rfl rfl rfl rfl (by kernel_rfl) ?_) | (refine ADF_eqA (us := [_, _, _]) (vs2 := [_, _, _]) rfl (by first | exact .inl rfl | exact .inr rfl) rfl rfl rfl rfl (by kernel_rfl) ?_) | (refine ADF_eqA (us := [_, _, _, _, _]) (vs2 := [_, _, _, _, _]) rfl (by first | exact .inl rfl | exact .inr rfl) rfl rfl rfl rfl (by kernel_rfl) ?_))); (simp only [putL, List.set_cons_succ, List.set_cons_zero]))))
  (first | ((refine XRes_tell (by rfl) (pf_eEqual xs ys hx hy) ?_ (fun _ => rfl) ?_); (focus exact idsA (by rfl)); (simp only [putL, List.set_cons_succ, List.set_cons_zero])) | ((refine ADF_tells tyOK (by rfl) (pf_eEqual xs ys hx hy) ?_ (fun _ => rfl) ?_); (focus exact idsA (by rfl)); (simp only [putL, List.set_cons_succ, List.set_cons_zero])))
  (repeat' (first | (first | (with_reducible first | refine AX_block ?_ | refine AX_skip ?_ | refine AX_exit ?_ | refine AX_ret ?_) | ((with_reducible refine AX_if_t ?_ ?_); focus (simp only [go_sem]; done)) | ((with_reducible refine AX_if_f ?_ ?_); focus (simp only [go_sem]; done)) | (with_reducible refine AX_seq_k (fun K hK => ?_)) | ((with_reducible refine ContX.use (by assumption) ?_)) | (simp only [thenX, inBlockX, if_true, if_false, reduceCtorEq])) | (first | ((first | ((with_reducible refine XRes_op tyOK ?_ ?_); (focus (first | (with_reducible rfl) | ((simp (disch := omega) only [go_sem]); done)))) | ((with_reducible refine ADF_op tyOK ?_ ?_ ?_); (focus rfl); (focus (first | (with_reducible rfl) | ((simp (disch := omega) only [go_sem]); done)))) | ((with_reducible refine ADR_alloc1 tyOK ?_ ?_); (focus (first | (with_reducible rfl) | ((simp (disch := omega) only [go_sem]); done)))) | ((with_reducible refine ADX_op tyOK ?_ ?_ ?_); (focus rfl); (focus (first | (with_reducible rfl) | ((simp (disch := omega) only [go_sem]); done)))) | ((with_reducible refine ADR_free1 tyOK ?_ ?_ ?_); (focus rfl); (focus (first | (with_reducible rfl) | ((simp (disch := omega) only [go_sem]); done)))) | ((with_reducible refine ADR_free0 tyOK ?_ ?_ ?_); (focus rfl); (focus (first | (with_reducible rfl) | ((simp (disch := omega) only [go_sem]); done)))) | ((with_reducible refine ADR_read1 tyOK ?_ ?_ ?_); (focus rfl); (focus (first | (with_reducible rfl) | ((simp (disch := omega) only [go_sem]); done)))) | ((with_reducible refine ADR_chg1 tyOK ?_ ?_); (focus (first | (with_reducible rfl) | ((simp (disch := omega) only [go_sem]); done))))); simp (maxSteps := 2000000) (disch := omega) only [go_sem , flatE_w, flatE_p, flatE_n]; (first | (with_reducible refine XRes_id ?_) | (with_reducible refine ADF_id ?_) | (with_reducible refine ADR_id1 ?_) | (with_reducible refine ADX_id ?_))) | ((first | (with_reducible refine XRes_skip ?_ ?_) | (with_reducible refine ADF_skip (b := true) ?_ ?_) | (with_reducible refine ADX_skip ?_ ?_) | ((with_reducible refine ADR_skip1 ?_ ?_ ?_); (focus rfl))); (focus (first | rfl | ((simp (disch := omega) only [go_sem]); done))); (simp only [putL, List.set_cons_succ, List.set_cons_zero]))) | ((first | (with_reducible refine XRes_nil ?_) | (with_reducible refine ADF_nil ?_) | (with_reducible refine ADR_nil ?_) | (with_reducible refine ADX_nil ?_)); (first | refine hK _ ?_ | refine hK _ _ ?_); clear hK K) | ((first | (with_reducible refine AX_reg0 fun K hK => ?_) | (refine AX_drawG1 tyOK (by kernel_rfl) (by rfl) (by kernel_rfl) fun K hK => ?_) | (refine AX_drawT tyOK (by kernel_rfl) (by decide +kernel) fun K hK => ?_) | (refine AX_drawM1 (by kernel_rfl) (by rfl) (by decide +kernel) fun K hK => ?_) | (refine AX_drawA tyOK (by kernel_rfl) (by decide +kernel) fun K hK => ?_)); (first | simp only [go_sem, preN, effOp, runF, alM, mapOp, alD2, kdOf2, Bool.not_false, Bool.not_true, reduceCtorEq] | simp only [go_sem, preN, effOp, runF, alM, mapOp, Bool.not_false, Bool.not_true, reduceCtorEq] | simp only [go_sem, preN, effOp, runF, alD2, kdOf2, Bool.not_false, Bool.not_true, reduceCtorEq] | simp only [go_sem, alD2, kdOf2, Bool.not_false, Bool.not_true, reduceCtorEq] | simp only [go_sem, preN, effOp, runF, Bool.not_false, Bool.not_true, reduceCtorEq] | simp only [go_sem])) | ((first | (first | (refine XRes_eqA (us := [_, _]) (vs2 := [_, _]) rfl (by first | exact .inl rfl | exact .inr rfl) rfl rfl rfl rfl (by kernel_rfl) ?_) | (refine XRes_eqA (us := [_, _, _]) (vs2 := [_, _, _]) rfl (by first | exact .inl rfl | exact .inr rfl) rfl rfl rfl rfl (by kernel_rfl) ?_) | (refine XRes_eqA (us := [_, _, _, _, _]) (vs2 := [_, _, _, _, _]) rfl (by first | exact .inl rfl | exact .inr rfl) rfl rfl rfl rfl (by kernel_rfl) ?_)) | (first | (refine ADF_eqA (us := [_, _]) (vs2 := [_, _]) rfl (by first | exact .inl rfl | exact .inr rfl) rfl rfl rfl rfl (by kernel_rfl) ?_) | (refine ADF_eqA (us := [_, _, _]) (vs2 := [_, _, _]) rfl (by first | exact .inl rfl | exact .inr rfl) rfl rfl rfl rfl (by kernel_rfl) ?_) | (refine ADF_eqA (us := [_, _, _, _, _]) (vs2 := [_, _, _, _, _]) rfl (by first | exact .inl rfl | exact .inr rfl) rfl rfl rfl rfl (by kernel_rfl) ?_))); (simp only [putL, List.set_cons_succ, List.set_cons_zero])) | ((first | (refine XRes_splitG (by rfl) (fun hc => ?_) (fun hc => ?_)) | (refine ADF_splitG (by rfl) (fun hc => ?_) (fun hc => ?_))) <;> (try simp only [eqRes, List.cons_beq_cons, Bool.and_eq_true, Bool.not_eq_true, Bool.and_eq_false_iff, decide_eq_true_eq, decide_eq_false_iff_not, bne_iff_ne, beq_iff_eq, bne_eq_false_iff_eq, beq_eq_false_iff_ne, Bool.not_eq_true', Bool.not_eq_false', ne_eq, Int.not_lt, Int.not_le, Decidable.not_not] at hc) <;> simp only [List.set_cons_succ, List.set_cons_zero]) | (first | ((with_reducible refine AX_if_t ?_ ?_); focus (simp (maxSteps := 2000000) (disch := omega) only [go_sem , flatE_w, flatE_p, flatE_n]; done)) | ((with_reducible refine AX_if_f ?_ ?_); focus (simp (maxSteps := 2000000) (disch := omega) only [go_sem , flatE_w, flatE_p, flatE_n]; done)) | (refine AX_cond _ (by rfl) (fun hc => ?_) (fun hc => ?_) <;> (try simp only [eqRes, List.cons_beq_cons, Bool.and_eq_true, Bool.not_eq_true, Bool.and_eq_false_iff, decide_eq_true_eq, decide_eq_false_iff_not, bne_iff_ne, beq_iff_eq, bne_eq_false_iff_eq, beq_eq_false_iff_ne, Bool.not_eq_true', Bool.not_eq_false', ne_eq, Int.not_lt, Int.not_le, Decidable.not_not] at hc)))))
  (simp only [bodyX]; refine ⟨_, by simp only [aresults, aresult, XS.as, Try.results19, aload, List.getD_cons_succ, List.getD_cons_zero, List.getElem?_cons_succ, List.getElem?_cons_zero, Option.bind_some]; rfl, ?_⟩)
  exact ⟨.iv _, rfl, trivial⟩
set_option maxRecDepth 100000 in
set_option maxHeartbeats 1000000 in
theorem pf_eKinds (xs : List Ev3) (hx : xs.length ≤ 100000) (hn : ∀ i, -9223372036854775808 ≤ (evAt xs i).n) : PF Try.prog 9 [.iv (iEvs xs)] fun r H' => r = lt (.int .i64 (eKin xs xs.length)) ∧ H' = [] := by
  refine SF.forgetAll ?_
  (refine SF_of_bodyX (aload tt) (aload_ok tyOK) Try.func9 rfl (by kernel_rfl) ?_; simp only [Try.ntmps9, List.length_cons, List.length_nil, Nat.reduceAdd, Nat.reduceSub, List.replicate_succ, List.replicate_zero, List.cons_append, List.nil_append])
  unfold iEvs iFlat
  (repeat (first | (first | (with_reducible first | refine AX_block ?_ | refine AX_skip ?_ | refine AX_exit ?_ | refine AX_ret ?_) | ((with_reducible refine AX_if_t ?_ ?_); focus (simp only [go_sem]; done)) | ((with_reducible refine AX_if_f ?_ ?_); focus (simp only [go_sem]; done)) | (with_reducible refine AX_seq_k (fun K hK => ?_)) | ((with_reducible refine ContX.use (by assumption) ?_)) | (simp only [thenX, inBlockX, if_true, if_false, reduceCtorEq])) | (first | ((first | ((with_reducible refine XRes_op tyOK ?_ ?_); (focus (first | (with_reducible rfl) | ((simp (disch := omega) only [go_sem]); done)))) | ((with_reducible refine ADF_op tyOK ?_ ?_ ?_); (focus rfl); (focus (first | (with_reducible rfl) | ((simp (disch := omega) only [go_sem]); done)))) | ((with_reducible refine ADR_alloc1 tyOK ?_ ?_); (focus (first | (with_reducible rfl) | ((simp (disch := omega) only [go_sem]); done)))) | ((with_reducible refine ADX_op tyOK ?_ ?_ ?_); (focus rfl); (focus (first | (with_reducible rfl) | ((simp (disch := omega) only [go_sem]); done)))) | ((with_reducible refine ADR_free1 tyOK ?_ ?_ ?_); (focus rfl); (focus (first | (with_reducible rfl) | ((simp (disch := omega) only [go_sem]); done)))) | ((with_reducible refine ADR_free0 tyOK ?_ ?_ ?_); (focus rfl); (focus (first | (with_reducible rfl) | ((simp (disch := omega) only [go_sem]); done)))) | ((with_reducible refine ADR_read1 tyOK ?_ ?_ ?_); (focus rfl); (focus (first | (with_reducible rfl) | ((simp (disch := omega) only [go_sem]); done)))) | ((with_reducible refine ADR_chg1 tyOK ?_ ?_); (focus (first | (with_reducible rfl) | ((simp (disch := omega) only [go_sem]); done))))); simp (maxSteps := 2000000) (disch := omega) only [go_sem , flatE_w, flatE_p, flatE_n]; (first | (with_reducible refine XRes_id ?_) | (with_reducible refine ADF_id ?_) | (with_reducible refine ADR_id1 ?_) | (with_reducible refine ADX_id ?_))) | ((first | (with_reducible refine XRes_skip ?_ ?_) | (with_reducible refine ADF_skip (b := true) ?_ ?_) | (with_reducible refine ADX_skip ?_ ?_) | ((with_reducible refine ADR_skip1 ?_ ?_ ?_); (focus rfl))); (focus (first | rfl | ((simp (disch := omega) only [go_sem]); done))); (simp only [putL, List.set_cons_succ, List.set_cons_zero]))) | ((first | (with_reducible refine XRes_nil ?_) | (with_reducible refine ADF_nil ?_) | (with_reducible refine ADR_nil ?_) | (with_reducible refine ADX_nil ?_)); (first | refine hK _ ?_ | refine hK _ _ ?_); clear hK K) | ((first | (with_reducible refine AX_reg0 fun K hK => ?_) | (refine AX_drawG1 tyOK (by kernel_rfl) (by rfl) (by kernel_rfl) fun K hK => ?_) | (refine AX_drawT tyOK (by kernel_rfl) (by decide +kernel) fun K hK => ?_) | (refine AX_drawM1 (by kernel_rfl) (by rfl) (by decide +kernel) fun K hK => ?_) | (refine AX_drawA tyOK (by kernel_rfl) (by decide +kernel) fun K hK => ?_)); (first | simp only [go_sem, preN, effOp, runF, alM, mapOp, alD2, kdOf2, Bool.not_false, Bool.not_true, reduceCtorEq] | simp only [go_sem, preN, effOp, runF, alM, mapOp, Bool.not_false, Bool.not_true, reduceCtorEq] | simp only [go_sem, preN, effOp, runF, alD2, kdOf2, Bool.not_false, Bool.not_true, reduceCtorEq] | simp only [go_sem, alD2, kdOf2, Bool.not_false, Bool.not_true, reduceCtorEq] | simp only [go_sem, preN, effOp, runF, Bool.not_false, Bool.not_true, reduceCtorEq] | simp only [go_sem])) | ((first | (first | (refine XRes_eqA (us := [_, _]) (vs2 := [_, _]) rfl (by first | exact .inl rfl | exact .inr rfl) rfl rfl rfl rfl (by kernel_rfl) ?_) | (refine XRes_eqA (us := [_, _, _]) (vs2 := [_, _, _]) rfl (by first | exact .inl rfl | exact .inr rfl) rfl rfl rfl rfl (by kernel_rfl) ?_) | (refine XRes_eqA (us := [_, _, _, _, _]) (vs2 := [_, _, _, _, _]) rfl (by first | exact .inl rfl | exact .inr rfl) rfl rfl rfl rfl (by kernel_rfl) ?_)) | (first | (refine ADF_eqA (us := [_, _]) (vs2 := [_, _]) rfl (by first | exact .inl rfl | exact .inr rfl) rfl rfl rfl rfl (by kernel_rfl) ?_) | (refine ADF_eqA (us := [_, _, _]) (vs2 := [_, _, _]) rfl (by first | exact .inl rfl | exact .inr rfl) rfl rfl rfl rfl (by kernel_rfl) ?_) | (refine ADF_eqA (us := [_, _, _, _, _]) (vs2 := [_, _, _, _, _]) rfl (by first | exact .inl rfl | exact .inr rfl) rfl rfl rfl rfl (by kernel_rfl) ?_))); (simp only [putL, List.set_cons_succ, List.set_cons_zero]))))
  (refine AX_wh (σ := Nat) [9, 10, 11, 5, 12, 13, 14, 15, 16, 17, 18, 19, 20, 21] (fun k => [(8, lint k), (3, lint (eKin xs k))]) (fun k => []) (fun k => []) (fun k => k ≤ xs.length) (fun k => xs.length - k) 0 (fun d => by first | ((simp only [deadS, updS, List.set_cons_succ, List.set_cons_zero, lint, List.length_nil, List.length_cons]); done) | ((simp only [deadS, updS, List.set_cons_succ, List.set_cons_zero, lint, List.length_nil, List.length_cons]); rfl) | rfl) (by first | (with_reducible rfl) | (simp only [hinit]; done) | rfl) (by first | (with_reducible rfl) | rfl) (by first | exact Nat.zero_le _) ?_; rintro k d fr hfr hk; simp only [updS, deadS, List.set_cons_succ, List.set_cons_zero, lint] at hfr; subst hfr; (try dsimp only))
  have hb := eKin_le xs k
  have hnk := hn k
  (repeat' (first | (first | (with_reducible first | refine AX_block ?_ | refine AX_skip ?_ | refine AX_exit ?_ | refine AX_ret ?_) | ((with_reducible refine AX_if_t ?_ ?_); focus (simp only [go_sem]; done)) | ((with_reducible refine AX_if_f ?_ ?_); focus (simp only [go_sem]; done)) | (with_reducible refine AX_seq_k (fun K hK => ?_)) | ((with_reducible refine ContX.use (by assumption) ?_)) | (simp only [thenX, inBlockX, if_true, if_false, reduceCtorEq])) | (first | ((first | ((with_reducible refine XRes_op tyOK ?_ ?_); (focus (first | (with_reducible rfl) | ((simp (disch := omega) only [go_sem]); done)))) | ((with_reducible refine ADF_op tyOK ?_ ?_ ?_); (focus rfl); (focus (first | (with_reducible rfl) | ((simp (disch := omega) only [go_sem]); done)))) | ((with_reducible refine ADR_alloc1 tyOK ?_ ?_); (focus (first | (with_reducible rfl) | ((simp (disch := omega) only [go_sem]); done)))) | ((with_reducible refine ADX_op tyOK ?_ ?_ ?_); (focus rfl); (focus (first | (with_reducible rfl) | ((simp (disch := omega) only [go_sem]); done)))) | ((with_reducible refine ADR_free1 tyOK ?_ ?_ ?_); (focus rfl); (focus (first | (with_reducible rfl) | ((simp (disch := omega) only [go_sem]); done)))) | ((with_reducible refine ADR_free0 tyOK ?_ ?_ ?_); (focus rfl); (focus (first | (with_reducible rfl) | ((simp (disch := omega) only [go_sem]); done)))) | ((with_reducible refine ADR_read1 tyOK ?_ ?_ ?_); (focus rfl); (focus (first | (with_reducible rfl) | ((simp (disch := omega) only [go_sem]); done)))) | ((with_reducible refine ADR_chg1 tyOK ?_ ?_); (focus (first | (with_reducible rfl) | ((simp (disch := omega) only [go_sem]); done))))); simp (maxSteps := 2000000) (disch := omega) only [go_sem , flatE_w, flatE_p, flatE_n]; (first | (with_reducible refine XRes_id ?_) | (with_reducible refine ADF_id ?_) | (with_reducible refine ADR_id1 ?_) | (with_reducible refine ADX_id ?_))) | ((first | (with_reducible refine XRes_skip ?_ ?_) | (with_reducible refine ADF_skip (b := true) ?_ ?_) | (with_reducible refine ADX_skip ?_ ?_) | ((with_reducible refine ADR_skip1 ?_ ?_ ?_); (focus rfl))); (focus (first | rfl | ((simp (disch := omega) only [go_sem]); done))); (simp only [putL, List.set_cons_succ, List.set_cons_zero]))) | ((first | (with_reducible refine XRes_nil ?_) | (with_reducible refine ADF_nil ?_) | (with_reducible refine ADR_nil ?_) | (with_reducible refine ADX_nil ?_)); (first | refine hK _ ?_ | refine hK _ _ ?_); clear hK K) | ((first | (with_reducible refine AX_reg0 fun K hK => ?_) | (refine AX_drawG1 tyOK (by kernel_rfl) (by rfl) (by kernel_rfl) fun K hK => ?_) | (refine AX_drawT tyOK (by kernel_rfl) (by decide +kernel) fun K hK => ?_) | (refine AX_drawM1 (by kernel_rfl) (by rfl) (by decide +kernel) fun K hK => ?_) | (refine AX_drawA tyOK (by kernel_rfl) (by decide +kernel) fun K hK => ?_)); (first | simp only [go_sem, preN, effOp, runF, alM, mapOp, alD2, kdOf2, Bool.not_false, Bool.not_true, reduceCtorEq] | simp only [go_sem, preN, effOp, runF, alM, mapOp, Bool.not_false, Bool.not_true, reduceCtorEq] | simp only [go_sem, preN, effOp, runF, alD2, kdOf2, Bool.not_false, Bool.not_true, reduceCtorEq] | simp only [go_sem, alD2, kdOf2, Bool.not_false, Bool.not_true, reduceCtorEq] | simp only [go_sem, preN, effOp, runF, Bool.not_false, Bool.not_true, reduceCtorEq] | simp only [go_sem])) | ((first | (first | (refine XRes_eqA (us := [_, _]) (vs2 := [_, _]) rfl (by first | exact .inl rfl | exact .inr rfl) rfl rfl rfl rfl (by kernel_rfl) ?_) | (refine XRes_eqA (us := [_, _, _]) (vs2 := [_, _, _]) rfl (by first | exact .inl rfl | exact .inr rfl) rfl rfl rfl rfl (by kernel_rfl) ?_) | (refine XRes_eqA (us := [_, _, _, _, _]) (vs2 := [_, _, _, _, _]) rfl (by first | exact .inl rfl | exact .inr rfl) rfl rfl rfl rfl (by kernel_rfl) ?_)) | (first | (refine ADF_eqA (us := [_, _]) (vs2 := [_, _]) rfl (by first | exact .inl rfl | exact .inr rfl) rfl rfl rfl rfl (by kernel_rfl) ?_) | (refine ADF_eqA (us := [_, _, _]) (vs2 := [_, _, _]) rfl (by first | exact .inl rfl | exact .inr rfl) rfl rfl rfl rfl (by kernel_rfl) ?_) | (refine ADF_eqA (us := [_, _, _, _, _]) (vs2 := [_, _, _, _, _]) rfl (by first | exact .inl rfl | exact .inr rfl) rfl rfl rfl rfl (by kernel_rfl) ?_))); (simp only [putL, List.set_cons_succ, List.set_cons_zero])) | ((first | (refine XRes_splitG (by rfl) (fun hc => ?_) (fun hc => ?_)) | (refine ADF_splitG (by rfl) (fun hc => ?_) (fun hc => ?_))) <;> (try simp only [eqRes, List.cons_beq_cons, Bool.and_eq_true, Bool.not_eq_true, Bool.and_eq_false_iff, decide_eq_true_eq, decide_eq_false_iff_not, bne_iff_ne, beq_iff_eq, bne_eq_false_iff_eq, beq_eq_false_iff_ne, Bool.not_eq_true', Bool.not_eq_false', ne_eq, Int.not_lt, Int.not_le, Decidable.not_not] at hc) <;> simp only [List.set_cons_succ, List.set_cons_zero]) | (first | ((with_reducible refine AX_if_t ?_ ?_); focus (simp (maxSteps := 2000000) (disch := omega) only [go_sem , flatE_w, flatE_p, flatE_n]; done)) | ((with_reducible refine AX_if_f ?_ ?_); focus (simp (maxSteps := 2000000) (disch := omega) only [go_sem , flatE_w, flatE_p, flatE_n]; done)) | (refine AX_cond _ (by rfl) (fun hc => ?_) (fun hc => ?_) <;> (try simp only [eqRes, List.cons_beq_cons, Bool.and_eq_true, Bool.not_eq_true, Bool.and_eq_false_iff, decide_eq_true_eq, decide_eq_false_iff_not, bne_iff_ne, beq_iff_eq, bne_eq_false_iff_eq, beq_eq_false_iff_ne, Bool.not_eq_true', Bool.not_eq_false', ne_eq, Int.not_lt, Int.not_le, Decidable.not_not] at hc)))))
  · refine whx_ren [] (k + 1) (by omega) (by (first | omega | (dsimp only; omega) | (simp only; omega))) rfl (by decide) (by decide) (by (simp (maxSteps := 2000000) (disch := omega) only [go_sem, lint])) (by (simp (maxSteps := 2000000) (disch := omega) only [go_sem, lint])) (by (simp (maxSteps := 2000000) (disch := omega) only [go_sem, lint])) (fun d => ?_)
    rw [eKin, if_pos hc]; (simp (maxSteps := 2000000) (disch := omega) only [go_sem, lint])
  · refine whx_ren [] (k + 1) (by omega) (by (first | omega | (dsimp only; omega) | (simp only; omega))) rfl (by decide) (by decide) (by (simp (maxSteps := 2000000) (disch := omega) only [go_sem, lint])) (by (simp (maxSteps := 2000000) (disch := omega) only [go_sem, lint])) (by (simp (maxSteps := 2000000) (disch := omega) only [go_sem, lint])) (fun d => ?_)
    rw [eKin, if_neg hc]; (simp (maxSteps := 2000000) (disch := omega) only [go_sem, lint])
  · have : k = xs.length := by omega
    subst this
    (simp only [bodyX]; refine ⟨_, by simp only [aresults, aresult, XS.as, Try.results9, aload, List.getD_cons_succ, List.getD_cons_zero, List.getElem?_cons_succ, List.getElem?_cons_zero, Option.bind_some]; rfl, ?_⟩)
    exact ⟨.iv _, rfl, trivial⟩
set_option maxRecDepth 100000 in
set_option maxHeartbeats 1000000 in
theorem pf_rKinds (xs : List Ev3) (hx : xs.length ≤ 100000) (hn : ∀ i, -9223372036854775808 ≤ (evAt xs i).n) : PF Try.prog 10 [.iv (iEvs xs)] fun r H' => r = lt (.int .i64 (eKin xs xs.length)) ∧ H' = [] := by
  refine SF.forgetAll ?_
  (refine SF_of_bodyX (aload tt) (aload_ok tyOK) Try.func10 rfl (by kernel_rfl) ?_; simp only [Try.ntmps10, List.length_cons, List.length_nil, Nat.reduceAdd, Nat.reduceSub, List.replicate_succ, List.replicate_zero, List.cons_append, List.nil_append])
  unfold iEvs iFlat
  (repeat (first | (first | (with_reducible first | refine AX_block ?_ | refine AX_skip ?_ | refine AX_exit ?_ | refine AX_ret ?_) | ((with_reducible refine AX_if_t ?_ ?_); focus (simp only [go_sem]; done)) | ((with_reducible refine AX_if_f ?_ ?_); focus (simp only [go_sem]; done)) | (with_reducible refine AX_seq_k (fun K hK => ?_)) | ((with_reducible refine ContX.use (by assumption) ?_)) | (simp only [thenX, inBlockX, if_true, if_false, reduceCtorEq])) | (first | ((first | ((with_reducible refine XRes_op tyOK ?_ ?_); (focus (first | (with_reducible rfl) | ((simp (disch := omega) only [go_sem]); done)))) | ((with_reducible refine ADF_op tyOK ?_ ?_ ?_); (focus rfl); (focus (first | (with_reducible rfl) | ((simp (disch := omega) only [go_sem]); done)))) | ((with_reducible refine ADR_alloc1 tyOK ?_ ?_); (focus (first | (with_reducible rfl) | ((simp (disch := omega) only [go_sem]); done)))) | ((with_reducible refine ADX_op tyOK ?_ ?_ ?_); (focus rfl); (focus (first | (with_reducible rfl) | ((simp (disch := omega) only [go_sem]); done)))) | ((with_reducible refine ADR_free1 tyOK ?_ ?_ ?_); (focus rfl); (focus (first | (with_reducible rfl) | ((simp (disch := omega) only [go_sem]); done)))) | ((with_reducible refine ADR_free0 tyOK ?_ ?_ ?_); (focus rfl); (focus (first | (with_reducible rfl) | ((simp (disch := omega) only [go_sem]); done)))) | ((with_reducible refine ADR_read1 tyOK ?_ ?_ ?_); (focus rfl); (focus (first | (with_reducible rfl) | ((simp (disch := omega) only [go_sem]); done)))) | ((with_reducible refine ADR_chg1 tyOK ?_ ?_); (focus (first | (with_reducible rfl) | ((simp (disch := omega) only [go_sem]); done))))); simp (maxSteps := 2000000) (disch := omega) only [go_sem , flatE_w, flatE_p, flatE_n]; (first | (with_reducible refine XRes_id ?_) | (with_reducible refine ADF_id ?_) | (with_reducible refine ADR_id1 ?_) | (with_reducible refine ADX_id ?_))) | ((first | (with_reducible refine XRes_skip ?_ ?_) | (with_reducible refine ADF_skip (b := true) ?_ ?_) | (with_reducible refine ADX_skip ?_ ?_) | ((with_reducible refine ADR_skip1 ?_ ?_ ?_); (focus rfl))); (focus (first | rfl | ((simp (disch := omega) only [go_sem]); done))); (simp only [putL, List.set_cons_succ, List.set_cons_zero]))) | ((first | (with_reducible refine XRes_nil ?_) | (with_reducible refine ADF_nil ?_) | (with_reducible refine ADR_nil ?_) | (with_reducible refine ADX_nil ?_)); (first | refine hK _ ?_ | refine hK _ _ ?_); clear hK K) | ((first | (with_reducible refine AX_reg0 fun K hK => ?_) | (refine AX_drawG1 tyOK (by kernel_rfl) (by rfl) (by kernel_rfl) fun K hK => ?_) | (refine AX_drawT tyOK (by kernel_rfl) (by decide +kernel) fun K hK => ?_) | (refine AX_drawM1 (by kernel_rfl) (by rfl) (by decide +kernel) fun K hK => ?_) | (refine AX_drawA tyOK (by kernel_rfl) (by decide +kernel) fun K hK => ?_)); (first | simp only [go_sem, preN, effOp, runF, alM, mapOp, alD2, kdOf2, Bool.not_false, Bool.not_true, reduceCtorEq] | simp only [go_sem, preN, effOp, runF, alM, mapOp, Bool.not_false, Bool.not_true, reduceCtorEq] | simp only [go_sem, preN, effOp, runF, alD2, kdOf2, Bool.not_false, Bool.not_true, reduceCtorEq] | simp only [go_sem, alD2, kdOf2, Bool.not_false, Bool.not_true, reduceCtorEq] | simp only [go_sem, preN, effOp, runF, Bool.not_false, Bool.not_true, reduceCtorEq] | simp only [go_sem])) | ((first | (first | (refine XRes_eqA (us := [_, _]) (vs2 := [_, _]) rfl (by first | exact .inl rfl | exact .inr rfl) rfl rfl rfl rfl (by kernel_rfl) ?_) | (refine XRes_eqA (us := [_, _, _]) (vs2 := [_, _, _]) rfl (by first | exact .inl rfl | exact .inr rfl) rfl rfl rfl rfl (by kernel_rfl) ?_) | (refine XRes_eqA (us := [_, _, _, _, _]) (vs2 := [_, _, _, _, _]) rfl (by first | exact .inl rfl | exact .inr rfl) rfl rfl rfl rfl (by kernel_rfl) ?_)) | (first | (refine ADF_eqA (us := [_, _]) (vs2 := [_, _]) rfl (by first | exact .inl rfl | exact .inr rfl) rfl rfl rfl rfl (by kernel_rfl) ?_) | (refine ADF_eqA (us := [_, _, _]) (vs2 := [_, _, _]) rfl (by first | exact .inl rfl | exact .inr rfl) rfl rfl rfl rfl (by kernel_rfl) ?_) | (refine ADF_eqA (us := [_, _, _, _, _]) (vs2 := [_, _, _, _, _]) rfl (by first | exact .inl rfl | exact .inr rfl) rfl rfl rfl rfl (by kernel_rfl) ?_))); (simp only [putL, List.set_cons_succ, List.set_cons_zero]))))
  (refine AX_wh (σ := Nat) [5, 6, 7, 8, 11, 12, 13, 14, 15, 16, 17, 18, 19, 20, 21, 22, 23, 24, 25, 26, 27, 28, 29, 30, 31, 32, 33, 34, 35, 36, 37, 38, 39, 40, 41, 42, 43, 44, 45, 9, 10] (fun k => [(4, lint k), (3, lint (eKin xs k))]) (fun k => []) (fun k => []) (fun k => k ≤ xs.length) (fun k => xs.length - k) 0 (fun d => by first | ((simp only [deadS, updS, List.set_cons_succ, List.set_cons_zero, lint, List.length_nil, List.length_cons]); done) | ((simp only [deadS, updS, List.set_cons_succ, List.set_cons_zero, lint, List.length_nil, List.length_cons]); rfl) | rfl) (by first | (with_reducible rfl) | (simp only [hinit]; done) | rfl) (by first | (with_reducible rfl) | rfl) (by first | exact Nat.zero_le _) ?_; rintro k d fr hfr hk; simp only [updS, deadS, List.set_cons_succ, List.set_cons_zero, lint] at hfr; subst hfr; (try dsimp only))
  have hb := eKin_le xs k
  have hnk := hn k
  (repeat' (first | (first | (with_reducible first | refine AX_block ?_ | refine AX_skip ?_ | refine AX_exit ?_ | refine AX_ret ?_) | ((with_reducible refine AX_if_t ?_ ?_); focus (simp only [go_sem]; done)) | ((with_reducible refine AX_if_f ?_ ?_); focus (simp only [go_sem]; done)) | (with_reducible refine AX_seq_k (fun K hK => ?_)) | ((with_reducible refine ContX.use (by assumption) ?_)) | (simp only [thenX, inBlockX, if_true, if_false, reduceCtorEq])) | (first | ((first | ((with_reducible refine XRes_op tyOK ?_ ?_); (focus (first | (with_reducible rfl) | ((simp (disch := omega) only [go_sem]); done)))) | ((with_reducible refine ADF_op tyOK ?_ ?_ ?_); (focus rfl); (focus (first | (with_reducible rfl) | ((simp (disch := omega) only [go_sem]); done)))) | ((with_reducible refine ADR_alloc1 tyOK ?_ ?_); (focus (first | (with_reducible rfl) | ((simp (disch := omega) only [go_sem]); done)))) | ((with_reducible refine ADX_op tyOK ?_ ?_ ?_); (focus rfl); (focus (first | (with_reducible rfl) | ((simp (disch := omega) only [go_sem]); done)))) | ((with_reducible refine ADR_free1 tyOK ?_ ?_ ?_); (focus rfl); (focus (first | (with_reducible rfl) | ((simp (disch := omega) only [go_sem]); done)))) | ((with_reducible refine ADR_free0 tyOK ?_ ?_ ?_); (focus rfl); (focus (first | (with_reducible rfl) | ((simp (disch := omega) only [go_sem]); done)))) | ((with_reducible refine ADR_read1 tyOK ?_ ?_ ?_); (focus rfl); (focus (first | (with_reducible rfl) | ((simp (disch := omega) only [go_sem]); done)))) | ((with_reducible refine ADR_chg1 tyOK ?_ ?_); (focus (first | (with_reducible rfl) | ((simp (disch := omega) only [go_sem]); done))))); simp (maxSteps := 2000000) (disch := omega) only [go_sem , flatE_w, flatE_p, flatE_n]; (first | (with_reducible refine XRes_id ?_) | (with_reducible refine ADF_id ?_) | (with_reducible refine ADR_id1 ?_) | (with_reducible refine ADX_id ?_))) | ((first | (with_reducible refine XRes_skip ?_ ?_) | (with_reducible refine ADF_skip (b := true) ?_ ?_) | (with_reducible refine ADX_skip ?_ ?_) | ((with_reducible refine ADR_skip1 ?_ ?_ ?_); (focus rfl))); (focus (first | rfl | ((simp (disch := omega) only [go_sem]); done))); (simp only [putL, List.set_cons_succ, List.set_cons_zero]))) | ((first | (with_reducible refine XRes_nil ?_) | (with_reducible refine ADF_nil ?_) | (with_reducible refine ADR_nil ?_) | (with_reducible refine ADX_nil ?_)); (first | refine hK _ ?_ | refine hK _ _ ?_); clear hK K) | ((first | (with_reducible refine AX_reg0 fun K hK => ?_) | (refine AX_drawG1 tyOK (by kernel_rfl) (by rfl) (by kernel_rfl) fun K hK => ?_) | (refine AX_drawT tyOK (by kernel_rfl) (by decide +kernel) fun K hK => ?_) | (refine AX_drawM1 (by kernel_rfl) (by rfl) (by decide +kernel) fun K hK => ?_) | (refine AX_drawA tyOK (by kernel_rfl) (by decide +kernel) fun K hK => ?_)); (first | simp only [go_sem, preN, effOp, runF, alM, mapOp, alD2, kdOf2, Bool.not_false, Bool.not_true, reduceCtorEq] | simp only [go_sem, preN, effOp, runF, alM, mapOp, Bool.not_false, Bool.not_true, reduceCtorEq] | simp only [go_sem, preN, effOp, runF, alD2, kdOf2, Bool.not_false, Bool.not_true, reduceCtorEq] | simp only [go_sem, alD2, kdOf2, Bool.not_false, Bool.not_true, reduceCtorEq] | simp only [go_sem, preN, effOp, runF, Bool.not_false, Bool.not_true, reduceCtorEq] | simp only [go_sem])) | ((first | (first | (refine XRes_eqA (us := [_, _]) (vs2 := [_, _]) rfl (by first | exact .inl rfl | exact .inr rfl) rfl rfl rfl rfl (by kernel_rfl) ?_) | (refine XRes_eqA (us := [_, _, _]) (vs2 := [_, _, _]) rfl (by first | exact .inl rfl | exact .inr rfl) rfl rfl rfl rfl (by kernel_rfl) ?_) | (refine XRes_eqA (us := [_, _, _, _, _]) (vs2 := [_, _, _, _, _]) rfl (by first | exact .inl rfl | exact .inr rfl) rfl rfl rfl rfl (by kernel_rfl) ?_)) | (first | (refine ADF_eqA (us := [_, _]) (vs2 := [_, _]) rfl (by first | exact .inl rfl | exact .inr rfl) rfl rfl rfl rfl (by kernel_rfl) ?_) | (refine ADF_eqA (us := [_, _, _]) (vs2 := [_, _, _]) rfl (by first | exact .inl rfl | exact .inr rfl) rfl rfl rfl rfl (by kernel_rfl) ?_) | (refine ADF_eqA (us := [_, _, _, _, _]) (vs2 := [_, _, _, _, _]) rfl (by first | exact .inl rfl | exact .inr rfl) rfl rfl rfl rfl (by kernel_rfl) ?_))); (simp only [putL, List.set_cons_succ, List.set_cons_zero])) | ((first | (refine XRes_splitG (by rfl) (fun hc => ?_) (fun hc => ?_)) | (refine ADF_splitG (by rfl) (fun hc => ?_) (fun hc => ?_))) <;> (try simp only [eqRes, List.cons_beq_cons, Bool.and_eq_true, Bool.not_eq_true, Bool.and_eq_false_iff, decide_eq_true_eq, decide_eq_false_iff_not, bne_iff_ne, beq_iff_eq, bne_eq_false_iff_eq, beq_eq_false_iff_ne, Bool.not_eq_true', Bool.not_eq_false', ne_eq, Int.not_lt, Int.not_le, Decidable.not_not] at hc) <;> simp only [List.set_cons_succ, List.set_cons_zero]) | (first | ((with_reducible refine AX_if_t ?_ ?_); focus (simp (maxSteps := 2000000) (disch := omega) only [go_sem , flatE_w, flatE_p, flatE_n]; done)) | ((with_reducible refine AX_if_f ?_ ?_); focus (simp (maxSteps := 2000000) (disch := omega) only [go_sem , flatE_w, flatE_p, flatE_n]; done)) | (refine AX_cond _ (by rfl) (fun hc => ?_) (fun hc => ?_) <;> (try simp only [eqRes, List.cons_beq_cons, Bool.and_eq_true, Bool.not_eq_true, Bool.and_eq_false_iff, decide_eq_true_eq, decide_eq_false_iff_not, bne_iff_ne, beq_iff_eq, bne_eq_false_iff_eq, beq_eq_false_iff_ne, Bool.not_eq_true', Bool.not_eq_false', ne_eq, Int.not_lt, Int.not_le, Decidable.not_not] at hc)))))
  all_goals first
    | ((refine whx_end (k + 1) (by omega) (by omega) rfl rfl (fun d => ?_)); (rw [show eKin xs (k + 1) = 64 by (rw [eKin_succ]; split <;> omega)]); (simp only [deadS, updS, List.set_cons_succ, List.set_cons_zero, lint, List.length_nil, List.length_cons]); done)
    | ((refine whx_end (k + 1) (by omega) (by omega) rfl rfl (fun d => ?_)); (rw [show eKin xs (k + 1) = (evAt xs k).n + 1 by (rw [eKin_succ]; split <;> omega)]); (simp only [deadS, updS, List.set_cons_succ, List.set_cons_zero, lint, List.length_nil, List.length_cons]); done)
    | ((refine whx_end (k + 1) (by omega) (by omega) rfl rfl (fun d => ?_)); (rw [show eKin xs (k + 1) = eKin xs k by (rw [eKin_succ]; split <;> omega)]); (simp only [deadS, updS, List.set_cons_succ, List.set_cons_zero, lint, List.length_nil, List.length_cons]); done)
    | ((have : k = xs.length := by omega); (subst this); (simp only [bodyX]; refine ⟨_, by simp only [aresults, aresult, XS.as, Try.results10, aload, List.getD_cons_succ, List.getD_cons_zero, List.getElem?_cons_succ, List.getElem?_cons_zero, Option.bind_some]; rfl, ?_⟩); exact ⟨.iv _, rfl, trivial⟩)
end Go.Proofs.Ytpgbimpbjdoicaa
namespace Go.Proofs.Ytpgbimpbjdoicaa
open Go.RowKit Go.Maps
set_option linter.unusedVariables false
set_option linter.unusedSimpArgs false

/-- Block r goes through the map in block b; ks are the keys that are still to come. -/
def IRng (w : World) (b r n : Nat) (F : Int → Option Value) (ks : List Int) : Prop := ∃ (D : DataW Unit) (left : Lit → Bool) (cnt : Nat), w.ranges Try.prog 3 mapR b r n D left cnt ∧
  (∀ k v, F k = some v → ∃ ps, ∀ zd, mapR v = some (D.atKey (.int .i64 k) zd, ps)) ∧ (∀ k, Maps.has D (.int .i64 k) = (F k).isSome) ∧
  (∃ ks0 : List Int, ks0.Nodup ∧ (∀ k, k ∈ ks0 ↔ (F k).isSome = true) ∧ Maps.size D = ks0.length) ∧
  ks.Nodup ∧ (∀ k : Int, k ∈ ks ↔ left (.int .i64 k) = true) ∧ ∀ k ∈ ks, (F k).isSome = true
theorem IRng.map {w : World} {b r n : Nat} {F : Int → Option Value} {ks : List Int} (h : IRng w b r n F ks) : IMap w b n F := by
  obtain ⟨D, left, cnt, h1, h2, h3, h4, _⟩ := h
  exact ⟨D, h1.owns, h2, h3, h4⟩
theorem IRng.block {w w' : World} {b r n : Nat} {F : Int → Option Value} {ks : List Int} (h : IRng w b r n F ks) (hb : w'.heap[b]? = w.heap[b]?) (hr : w'.heap[r]? = w.heap[r]?) : IRng w' b r n F ks := by
  obtain ⟨D, left, cnt, ⟨es, clock, since, seen, c0, g1, g2, g3, g4, g5, g6⟩, h⟩ := h
  exact ⟨D, left, cnt, ⟨es, clock, since, seen, c0, hb.trans g1, g2, g3, g4, hr.trans g5, g6⟩, h⟩
theorem IRng.at {w : World} {b r n : Nat} {F : Int → Option Value} {ks : List Int} (h : IRng w b r n F ks) : ∃ ob orr, w.heap[b]? = some ob ∧ w.heap[r]? = some orr ∧ ∀ w' : World, w'.heap[b]? = some ob → w'.heap[r]? = some orr → IRng w' b r n F ks := by
  obtain ⟨D, left, cnt, ⟨es, clock, since, seen, c0, g1, g2, g3, g4, g5, g6⟩, _⟩ := id h
  exact ⟨_, _, g1, g5, fun w' e1 e2 => h.block (e1.trans g1.symm) (e2.trans g5.symm)⟩
theorem IRng.ne {w : World} {b r n : Nat} {F : Int → Option Value} {ks : List Int} (h : IRng w b r n F ks) : r ≠ b := by
  obtain ⟨D, left, cnt, h1, _⟩ := h
  exact h1.ne
theorem IMap.range {w : World} {b n : Nat} {F : Int → Option Value} (h : IMap w b n F) {t e : TypeId} (ht : Try.prog.underlying t = some (.map 3 e)) :
    ∃ w' ks, (Instr.range t (.map (some b))).run Try.prog w = .ok (.pointer (some ⟨w.heap.size, 0, none⟩)) w' ∧ IRng w' b w.heap.size n F ks ∧ ks.Nodup ∧ (∀ k, k ∈ ks ↔ (F k).isSome = true) ∧ w.grownBy w' none ∧ w'.heap.size = w.heap.size + 1 := by
  obtain ⟨D, hD, hR, hH, ks, k1, k2, k3⟩ := h
  obtain ⟨w', r1, r2, r3, r4⟩ := hD.range law_int ht
  exact ⟨w', ks, r1, ⟨D, _, _, r2, hR, hH, ⟨ks, k1, k2, k3⟩, k1, fun k => by rw [k2 k, hH k], fun k hk => (k2 k).1 hk⟩, k1, k2, r3, r4⟩
theorem same_int (x k : Int) : (Lit.int .i64 x).sameKey (.int .i64 k) = decide (x = k) := by
  unfold Lit.sameKey
  by_cases h : x = k <;> simp [h]
theorem IRng.next {w : World} {b r n : Nat} {F : Int → Option Value} {ks : List Int} (h : IRng w b r n F ks) (ty : TypeId) :
    (ks = [] ∧ (Instr.next (.pointer (some ⟨r, 0, none⟩)) false ty).run Try.prog w = .ok (.tuple #[.bool false]) w) ∨
    ∃ k v w', k ∈ ks ∧ -9223372036854775808 ≤ k ∧ k ≤ 9223372036854775807 ∧ F k = some v ∧ (Instr.next (.pointer (some ⟨r, 0, none⟩)) false ty).run Try.prog w = .ok (.tuple #[.bool true, .int .i64 k, v]) w' ∧
      IRng w' b r n F (ks.erase k) ∧ w.grownBy w' (some r) ∧ (Instr.entry (.pointer (some ⟨r, 0, none⟩))).run Try.prog w' = .ok (.tuple #[.int .i64 k, v]) w' := by
  obtain ⟨D, left, cnt, hr, hR, hH, hk0, hn, hl, hs⟩ := h
  rcases hr.next law_int ty with ⟨_, h2, h3⟩ | ⟨key, v, kl, y, w', cnt', g1, g2, g3, g4, g5, g6, g7, g8, g9, g10⟩
  · refine .inl ⟨List.eq_nil_iff_forall_not_mem.2 fun k hk => ?_, h3⟩
    have := (hl k).1 hk
    rw [h2] at this; cases this
  · obtain ⟨k, rfl, rfl, hw⟩ := Maps.keyOf_int_inv Try.underlying3 g1
    have hb := bounds_i64 hw
    have hk := (hl k).2 g2
    obtain ⟨u, hu⟩ := Option.isSome_iff_exists.1 (hs k hk)
    obtain ⟨ps, hps⟩ := hR k u hu
    have e : v = u := mapR_inj (d := y.1) (ps := y.2) g3 (by rw [← g4 (.lit (.bool false))]; exact hps _)
    subst e
    refine .inr ⟨k, v, w', hk, hb.1, hb.2, hu, g5, ⟨D, _, cnt', g6, hR, hH, hk0, hn.erase k, fun x => ?_, fun x hx => hs x (List.mem_of_mem_erase hx)⟩, g8, g10⟩
    rw [hn.mem_erase_iff, hl x, same_int]
    by_cases hxk : x = k
    · simp [hxk]
    · simp [hxk]
section
variable {P : Program} {tt : TT} {m : Nat}
/-- As AX, behind one beginning. -/
def AXA (P : Program) (m : Nat) (G0 : Gh) (c : Code) (Q : Exit → XS → Prop) (s : XS) : Prop := ∀ G a w, m ≤ s.H.length → Gh.leb m G0 G → MOK G0.kp G s.M → Rst G s.as a w → c.wp P (PostX m G0 Q) a w
/-- At the end of a region whose last operation is 'range': that operation, and the loop. -/
def RngX (P : Program) (m : Nat) (o : Oper) (L : Code) (Q : Exit → XS → Prop) (s : XS) : Prop := ∀ G0 G a w (ops : Array Oper), m ≤ s.H.length → Gh.leb m G0 G → MOK G0.kp G s.M → Rst G s.as a w → wpList P ops (Exit.then (L.wp P (PostX m G0 Q)) (PostX m G0 Q)) [o] a w
theorem wpList_then {ops : Array Oper} {Q1 Q : Exit → Act → World → Prop} {l2 : List Oper} (hn : ∀ a w, Q1 .normal a w → wpList P ops Q l2 a w) (he : ∀ e a w, e ≠ .normal → Q1 e a w → Q e a w) : ∀ (l1 : List Oper) a w, wpList P ops Q1 l1 a w → wpList P ops Q (l1 ++ l2) a w
  | [], a, w, h => hn _ _ h
  | o :: l, a, w, h => by
    rw [List.cons_append]
    unfold wpList at h ⊢
    split
    · rename_i hw
      rw [if_pos hw] at h
      rcases h with h | ⟨h, a0, w0, h2⟩
      · refine .inl ?_
        unfold Oper.wp at *
        generalize (execOp a.eval o).run P w = r at *
        cases r with
        | ok n w' =>
          cases n <;> simp only [Oper.upon] at h ⊢ <;>
            first
              | exact wpList_then hn he l _ _ h
              | exact Calls.mono h (fun e w'' hh => by cases e <;> first | exact wpList_then hn he l _ _ hh | exact he _ _ _ (by simp) hh | (obtain ⟨a0, w0, hh⟩ := hh; exact ⟨a0, w0, he _ _ _ (by simp) hh⟩))
              | exact Rows.mono h (fun _ _ hh => wpList_then hn he l _ _ hh)
        | halt x w' => cases x <;> simp only [Oper.upon] at h ⊢ <;> first | exact he _ _ _ (by simp) h | exact h
      · exact .inr ⟨h, a0, w0, he _ _ _ (by simp) h2⟩
    · rename_i hw
      rw [if_neg hw] at h
      exact wpList_then hn he l _ _ h
/-- A region that ends in 'range', and the loop behind it. -/
theorem AX_rng {id : Nat} {ops : List Oper} {L : Code} {Q : Exit → XS → Prop} {s : XS} {t7 tx : Tmp} {ty ty7 : TypeId} {p7 : String} {a7 : Array Edge} (hk : ops.getLast? = some ⟨some t7, .range ty (.tmp tx), ty7, p7, a7, none⟩) (h : ∀ K : XS → Prop, (∀ s, RngX P m ⟨some t7, .range ty (.tmp tx), ty7, p7, a7, none⟩ L Q s → K s) → XRes P m (thenX K fun _ _ => False) (ops.dropLast.map (strip (dsts ops)), s)) : AX P m (.seq (.region id ops.toArray false) L) Q s := fun G0 G a w hm hl hM hr => by
  refine wp_seq (wp_region_list ?_)
  have hx := h (fun s => RngX P m ⟨some t7, .range ty (.tmp tx), ty7, p7, a7, none⟩ L Q s) (fun _ h => h) (max s.fr.length (topD (dsts ops))) (Nat.le_max_left _ _) G0 G a w hm hl hM hr
  rw [wpList_strip (Nat.le_max_right _ _)] at hx
  show wpList P ops.toArray _ ops.toArray.toList a w
  rw [List.toList_toArray]
  have hk' : ops.dropLast ++ [⟨some t7, .range ty (.tmp tx), ty7, p7, a7, none⟩] = ops := by obtain ⟨ys, e⟩ := List.getLast?_eq_some_iff.1 hk; rw [e, List.dropLast_concat]
  have e : wpList P ops.toArray (Exit.then (L.wp P (PostX m G0 Q)) (PostX m G0 Q)) ops = wpList P ops.toArray (Exit.then (L.wp P (PostX m G0 Q)) (PostX m G0 Q)) (ops.dropLast ++ [⟨some t7, .range ty (.tmp tx), ty7, p7, a7, none⟩]) := by rw [hk']
  rw [e]
  refine wpList_then (fun a w ⟨G', s', h1, h2, h3, h4, h5⟩ => ?_) (fun e a w hne ⟨G', s', h1, h2, h3, h4, h5⟩ => by cases e <;> first | exact absurd rfl hne | exact h5.elim) _ _ _ hx
  exact (show RngX P m _ L Q s' from h5) G0 G' a w _ h3 h1 h2 h4
/-- The ghost state with the map and its iterator put away. -/
def Gh.put2 (G : Gh) (b : Nat) (ob : Obj) (r : Nat) (orr : Obj) : Gh := { G with kp := fun c => if c = b then some ob else if c = r then some orr else G.kp c }
theorem put2_leb {G0 G' : Gh} {b r : Nat} {ob orr : Obj} (h : Gh.leb m (G0.put2 b ob r orr) G') (hb : G0.kp b = none) (hr : G0.kp r = none) : Gh.leb m G0 G' := by
  have hk : ∀ c x, G0.kp c = some x → (G0.put2 b ob r orr).kp c = some x := fun c x e => by
    show (if c = b then some ob else if c = r then some orr else G0.kp c) = some x
    rw [if_neg (fun hc => by rw [hc, hb] at e; cases e), if_neg (fun hc => by rw [hc, hr] at e; cases e)]
    exact e
  exact ⟨h.mu, h.sz, h.dom, h.back, h.fz, fun c x e => h.kp c x (hk c x e), fun c x y e f => h.new c x y (hk c x e) f, h.os, h.tape, h.output⟩
theorem put2_kpb {G : Gh} {b r : Nat} {ob orr : Obj} : (G.put2 b ob r orr).kp b = some ob := if_pos rfl
theorem put2_kpr {G : Gh} {b r : Nat} {ob orr : Obj} (h : r ≠ b) : (G.put2 b ob r orr).kp r = some orr := by show (if r = b then _ else if r = r then _ else _) = _; rw [if_neg h, if_pos rfl]
theorem put2_none {G : Gh} {b r c : Nat} {ob orr : Obj} (h : (G.put2 b ob r orr).kp c = none) : c ≠ b ∧ c ≠ r ∧ G.kp c = none := by
  have e : (if c = b then some ob else if c = r then some orr else G.kp c) = none := h
  split at e
  · cases e
  · split at e
    · cases e
    · rename_i h1 h2; exact ⟨h1, h2, e⟩
theorem put2_some {G : Gh} {b r c : Nat} {ob orr : Obj} (h1 : c ≠ b) (h2 : c ≠ r) (h3 : G.kp c = none) : (G.put2 b ob r orr).kp c = none := by
  show (if c = b then some ob else if c = r then some orr else G.kp c) = none
  rw [if_neg h1, if_neg h2]; exact h3
theorem MOK.out {G0 G : Gh} {b r : Nat} {ob orr : Obj} {M : MS} (h : MOK (G0.put2 b ob r orr).kp G M) : MOK G0.kp G M := ⟨fun e he => by
  obtain ⟨h1, h2⟩ := h.one e he
  exact ⟨(put2_none h1).2.2, h2⟩, h.two⟩
theorem wp_loop_rel {c : Code} {R : Exit → Act → World → Prop} (I : Nat → Act → World → Prop) (n0 : Nat) {a : Act} {w : World} (h0 : I n0 a w) (round : ∀ n a w, I n a w → c.wp P (Exit.then (fun a w => ∃ k, k < n ∧ I k a w) R) a w) : (Code.loop c).wp P R a w := fun b k cs => by
  have key : ∀ n a w, I n a w → ∃ e a' w', R e a' w' ∧ Arrives P (lone (b.at a (.code c :: .inLoop c :: k)) cs w) b k cs e a' w' := by
    intro n
    induction n using Nat.strongRecOn with
    | _ n ih =>
      intro a w hI
      obtain ⟨e, a1, w1, hq, harr⟩ := round n a w hI b (.inLoop c :: k) cs
      cases e with
      | normal =>
        obtain ⟨m', hlt, hI1⟩ := (show ∃ k, k < n ∧ I k a1 w1 from hq)
        obtain ⟨e2, a2, w2, hp, harr2⟩ := ih m' hlt a1 w1 hI1
        exact ⟨e2, a2, w2, hp, .of_steps (Steps.trans harr (.one step_inLoop)) harr2⟩
      | exit id => exact ⟨_, a1, w1, hq, .pass (x := .inLoop c) rfl (fun _ _ => .inl (by simp)) harr⟩
      | goto l => exact ⟨_, a1, w1, hq, .pass (x := .inLoop c) rfl (fun _ _ => .inl (by simp)) harr⟩
      | ret => exact ⟨_, a1, w1, hq, .pass (x := .inLoop c) rfl (fun _ _ => .inl (by simp)) harr⟩
      | panic ch => exact ⟨_, a1, w1, hq, .pass (x := .inLoop c) rfl (fun _ _ => .inl (by simp)) harr⟩
      | outgrown => exact ⟨_, a1, w1, hq, .pass (x := .inLoop c) rfl (fun _ _ => .inl (by simp)) harr⟩
  obtain ⟨e, a', w', hq, harr⟩ := key n0 a w h0
  exact ⟨e, a', w', hq, .of_steps (.one step_loop) harr⟩
theorem set_at {fr : List AV} {i j : Nat} {x y : AV} (h : fr[i]? = some x) (hij : j ≠ i) : (fr.set j y)[i]? = some x := by rw [List.getElem?_set_ne hij]; exact h
theorem ra_lit {n : Nat} {G : Gh} {v : Value} : RA n G (lt v) v := .iv _ _ (.lit _)
theorem ra_tup1 {n : Nat} {G : Gh} {x : Value} : RA n G (.tup [lt x]) (.tuple #[x]) := .tup [lt x] [x] rfl fun i a b e1 e2 => by
  match i with
  | 0 => simp at e1 e2; subst e1 e2; exact ra_lit
  | i + 1 => simp at e1
theorem ra_tup2 {n : Nat} {G : Gh} {x y : Value} : RA n G (.tup [lt x, lt y]) (.tuple #[x, y]) := .tup [lt x, lt y] [x, y] rfl fun i a b e1 e2 => by
  match i with
  | 0 => simp at e1 e2; subst e1 e2; exact ra_lit
  | 1 => simp at e1 e2; subst e1 e2; exact ra_lit
  | i + 2 => simp at e1
theorem ra_tup3 {n : Nat} {G : Gh} {x y z : Value} : RA n G (.tup [lt x, lt y, lt z]) (.tuple #[x, y, z]) := .tup [lt x, lt y, lt z] [x, y, z] rfl fun i a b e1 e2 => by
  match i with
  | 0 => simp at e1 e2; subst e1 e2; exact ra_lit
  | 1 => simp at e1 e2; subst e1 e2; exact ra_lit
  | 2 => simp at e1 e2; subst e1 e2; exact ra_lit
  | i + 3 => simp at e1
theorem wpList_val {ops : Array Oper} {R : Exit → Act → World → Prop} {o : Oper} {l : List Oper} {a : Act} {w w' : World} {v : Value} (hg : o.guard = none) (hrun : (execOp a.eval o).run P w = .ok (.value v) w') (h : wpList P ops R l (a.put o.dst v) w') : wpList P ops R (o :: l) a w := by
  unfold wpList
  rw [if_pos (by unfold Region.wanted; rw [hg])]
  refine .inl ?_
  unfold Oper.wp
  rw [hrun]
  exact h
theorem slot_lit {G : Gh} {fr : List AV} {H : AHeap} {a : Act} {w : World} (hr : Rst G ⟨fr, H⟩ a w) {i : Nat} {v : Value} (h : fr[i]? = some (lt v)) : a.eval (.tmp i) = v := by
  have := hr.ev (.tmp i)
  have e : AS.ev ⟨fr, H⟩ (.tmp i) = lt v := by show fr.getD i uD = _; rw [List.getD_eq_getElem?_getD, h]; rfl
  rw [e] at this
  exact this.lit_inv
theorem ext_run {G : Gh} {fr : List AV} {H : AHeap} {a : Act} {w : World} (hr : Rst G ⟨fr, H⟩ a w) {i j : Nat} {xs : List AV} {v : Value} (h : fr[i]? = some (.tup xs)) (hv : xs[j]? = some (lt v)) (d : Option Tmp) (ty : TypeId) (p : String) (at' : Array Edge) : (execOp a.eval ⟨d, .extract (.tmp i) j, ty, p, at', none⟩).run P w = .ok (.value v) w := by
  have hx := hr.ev (.tmp i)
  have e : AS.ev ⟨fr, H⟩ (.tmp i) = .tup xs := by show fr.getD i uD = _; rw [List.getD_eq_getElem?_getD, h]; rfl
  rw [e] at hx
  generalize hav : a.eval (.tmp i) = xv at hx
  cases hx with
  | tup _ vs h1 h2 =>
    obtain ⟨u, e, hu⟩ := RL.at ⟨h1, h2⟩ hv
    have := hu.lit_inv
    subst this
    simp [execOp, Instr.extract, hav, e]
theorem rng_loop {fr : List AV} {H : AHeap} {M : MS} {Q : Exit → XS → Prop} {σ : Type} {e ty : TypeId} {tx t7 t8 t9 t10 : Tmp} {x0 x1 i3 i4 : Nat} {ty7 ty8 ty9 ty10 : TypeId} {p7 p8 p9 p10 : String} {a7 a8 a9 a10 : Array Edge} {l4 : List Oper} {body : Code}
    (i b n : Nat) (F : Int → Option Value) (ds : List Nat) (f : σ → List (Nat × AV)) (hp : σ → AHeap) (mp : σ → MS) (I : σ → List Int → Prop) (st0 : σ)
    (ht : Try.prog.underlying ty = some (.map 3 e)) (hx : fr[tx]? = some (lt (.map (some b)))) (hi : M[i]? = some (b, n, F))
    (h7 : ∀ (x : AV) (d : Nat → AV) (st : σ), (updS (deadS (fr.set t7 x) d ds) (f st))[t7]? = some x) (h8 : t8 < fr.length) (h9 : t9 < fr.length) (h87 : t8 ≠ t7) (h97 : t9 ≠ t7) (h98 : t9 ≠ t8)
    (h0 : ∀ (x : AV) (d : Nat → AV), deadS (fr.set t7 x) d ds = updS (deadS (fr.set t7 x) d ds) (f st0)) (hh : H = hp st0) (hm : M.eraseIdx i = mp st0) (hI : ∀ ks : List Int, ks.Nodup → (∀ k, k ∈ ks ↔ (F k).isSome = true) → I st0 ks)
    (round : ∀ (st : σ) (ks : List Int) (x : Value) (d : Nat → Value) (fr1 : List AV), fr1 = updS (deadS (fr.set t7 (lt x)) (fun i => lt (d i)) ds) (f st) → ks.Nodup → I st ks → ∀ (k : Int) (v : Value), k ∈ ks → F k = some v → -9223372036854775808 ≤ k ∧ k ≤ 9223372036854775807 →
      ∀ K : XS → Prop, (∀ s, AX Try.prog m body (inBlockX x1 (thenX (WhX m ds f hp mp (fun st' => I st' (ks.erase k)) (fun _ => 0) (fr.set t7 (lt x)) 1) (inBlockX x0 Q))) s → K s) →
        XRes Try.prog m (thenX K fun _ _ => False) (l4.map (strip (dsts (⟨some t10, .entry (.tmp t7), ty10, p10, a10, none⟩ :: l4))), ⟨((fr1.set t8 (.tup [lt (.bool true), lt (.int .i64 k), lt v])).set t9 (lt (.bool true))).set t10 (.tup [lt (.int .i64 k), lt v]), hp st, mp st⟩))
    (done : ∀ (st : σ) (x : Value) (d : Nat → Value) (fr1 : List AV), fr1 = updS (deadS (fr.set t7 (lt x)) (fun i => lt (d i)) ds) (f st) → I st [] → Q .normal ⟨(fr1.set t8 (.tup [lt (.bool false)])).set t9 (lt (.bool false)), hp st, mp st ++ [(b, n, F)]⟩) :
    RngX Try.prog m ⟨some t7, .range ty (.tmp tx), ty7, p7, a7, none⟩ (.block x0 (.loop (.seq (.region i3 #[⟨some t8, .next (.tmp t7) false, ty8, p8, a8, none⟩, ⟨some t9, .extract (.tmp t8) 0, ty9, p9, a9, none⟩] false) (.seq (.cond (.tmp t9) .skip (.exit x0)) (.block x1 (.seq (.region i4 (⟨some t10, .entry (.tmp t7), ty10, p10, a10, none⟩ :: l4).toArray false) body)))))) Q ⟨fr, H, M⟩ := by
  intro G0 G a w ops hmm hl hM hr
  obtain ⟨c1, c2, c3, ob0, c4⟩ := hM.at hr.inv hi
  obtain ⟨w1, ks0, r1, r2, r3, r4, r5, r6⟩ := c3.range ht
  have hev : a.eval (.tmp tx) = .map (some b) := slot_lit hr hx
  refine wpList_val rfl (v := .pointer (some ⟨w.heap.size, 0, none⟩)) (w' := w1) (by simp [execOp, hev, r1]) ?_
  obtain ⟨f1, f2⟩ := hr.inv.fresh
  have hobj : ∀ o x, H[o]? = some (some x) → G.sz o ≠ 0 → (G.mu o).1 ≠ w.heap.size := fun o x e hz heq => by
    obtain ⟨_, cs, k1, _⟩ := (hr.inv.obj o x e).resolve_left fun q => hz q.2
    have := lt_of_heap k1; omega
  generalize w.heap.size = r at *
  have hK0r : G0.kp r = none := by
    cases hk : G0.kp r with
    | none => rfl
    | some x => have := hl.kp _ _ hk; rw [f2] at this; cases this
  have hfz0 : ∀ c, G.fz c = none → G0.fz c = none := fun c h => by
    cases hk : G0.fz c with
    | none => rfl
    | some x => have := hl.fz _ _ hk; rw [h] at this; cases this
  have hf0r := hfz0 r f1
  have hf0b := hfz0 b c2
  obtain ⟨ob, orr0, g1, g2, g3⟩ := r2.at
  have hrb := r2.ne
  have hb1 : w1.heap[b]? = w.heap[b]? := r5.block b c3.lt (by simp)
  have hobb : G.kp b = some ob := by
    have e1 := hr.inv.kp _ _ c4
    rw [← hb1, g1] at e1
    cases e1; exact c4
  have hr1 := hr.block_set f1 hobj g2 (r5.but _) (some t7) (x := lt (.pointer (some ⟨r, 0, none⟩))) (v := .pointer (some ⟨r, 0, none⟩)) ra_lit
  generalize hpt : lt (.pointer (some ⟨r, 0, none⟩)) = ptr at hr1
  have hl1 : Gh.leb m (G0.put2 b ob r orr0) { G with kp := fun c => if c = r then some orr0 else G.kp c } := ⟨hl.mu, hl.sz, hl.dom, hl.back, hl.fz, fun c x e => by
    have e' : (if c = b then some ob else if c = r then some orr0 else G0.kp c) = some x := e
    show (if c = r then some orr0 else G.kp c) = some x
    split at e'
    · rename_i hc; subst hc; rw [if_neg (fun e => hrb e.symm), hobb]; exact e'
    · split at e'
      · rename_i hc; rw [if_pos hc]; exact e'
      · rename_i hc; rw [if_neg hc]; exact hl.kp c x e', fun c x y e f => by
    have e' : (if c = b then some ob else if c = r then some orr0 else G0.kp c) = some x := e
    have f' : G.fz c = some y := f
    split at e'
    · rename_i hc; subst hc; rw [c2] at f'; cases f'
    · split at e'
      · rename_i hc; subst hc; rw [f1] at f'; cases f'
      · exact hl.new c x y e' f', hl.os, hl.tape, hl.output⟩
  have hM1 : MOK (G0.put2 b ob r orr0).kp { G with kp := fun c => if c = r then some orr0 else G.kp c } (M.eraseIdx i) := ⟨fun e he => by
    obtain ⟨h1, h2, o, h3, h4⟩ := hM.one e (List.mem_of_mem_eraseIdx he)
    have hne : e.1 ≠ r := fun heq => by rw [heq, f2] at h3; cases h3
    have hnb : e.1 ≠ b := fun heq => by
      obtain ⟨j, hj, hji, rfl⟩ := List.mem_eraseIdx_iff_getElem.1 he
      obtain ⟨l1, e1⟩ := List.getElem?_eq_some_iff.1 hi
      have hp := List.pairwise_iff_getElem.1 hM.two
      rcases Nat.lt_or_gt_of_ne hji with h5 | h5
      · have := hp j i hj l1 h5; rw [e1] at this; exact this heq
      · have := hp i j l1 hj h5; rw [e1] at this; exact this heq.symm
    exact ⟨put2_some hnb hne h1, h2, o, by show (if e.1 = r then _ else _) = _; rw [if_neg hne]; exact h3, h4⟩, hM.two.sublist (List.eraseIdx_sublist ..)⟩
  rw [hm] at hM1
  obtain ⟨G2, s2, q1, q2, q3, d0, q4⟩ := (Leads.dead (m := m) (s := ⟨putL fr (some t7) ptr, H⟩) (S := fun s' => ∃ d : Nat → Value, s' = ⟨deadS (putL fr (some t7) ptr) (fun i => lt (d i)) ds, H⟩) ds (fun d => ⟨d, rfl⟩)) _ _ _ hmm hr1
  show (Code.block x0 _).wp _ _ _ _
  refine wp_block (wp_loop_rel (fun n' a w => ∃ (st : σ) (ks : List Int) (orr : Obj) (G : Gh) (d : Nat → Value), n' = ks.length ∧ m ≤ (hp st).length ∧ Gh.leb m (G0.put2 b ob r orr) G ∧ MOK (G0.put2 b ob r orr).kp G (mp st) ∧ Rst G ⟨updS (deadS (fr.set t7 ptr) (fun i => lt (d i)) ds) (f st), hp st⟩ a w ∧ (∀ w : World, w.heap[b]? = some ob → w.heap[r]? = some orr → IRng w b r n F ks) ∧ ks.Nodup ∧ I st ks) ks0.length ?_ ?_)
  · refine ⟨st0, ks0, orr0, G2, d0, rfl, by rw [← hh]; exact hmm, hl1.trans q1, ?_, ?_, g3, r3, hI ks0 r3 r4⟩
    · exact hM1.leb q1
    · subst q4
      rw [← hh, ← h0]
      exact q3
  · rintro _ a w ⟨st, ks, orr, G, d, rfl, hmm, hl, hM, hr, hg, hnd, hIs⟩
    generalize hfr1 : updS (deadS (fr.set t7 ptr) (fun i => lt (d i)) ds) (f st) = fr1 at hr
    have hlen : fr1.length = fr.length := by rw [← hfr1, updS_len, deadS_len, List.length_set]
    have h7' : fr1[t7]? = some ptr := by rw [← hfr1]; exact h7 _ _ _
    have hW := hg w (hr.inv.kp b ob (hl.kp b ob put2_kpb)) (hr.inv.kp r orr (hl.kp r orr (put2_kpr hrb)))
    have hev7 : a.eval (.tmp t7) = .pointer (some ⟨r, 0, none⟩) := slot_lit hr (by rw [h7', hpt])
    refine wp_seq (wp_region_list ?_)
    show wpList Try.prog _ _ [_, _] a w
    rcases hW.next ty8 with ⟨rfl, hrun⟩ | ⟨k, v, w2, hk, kb1, kb2, hF, hrun, hW2, hgr, hent⟩
    · refine wpList_val rfl (v := .tuple #[.bool false]) (w' := w) (by simp [execOp, hev7, hrun]) ?_
      have hr8 : Rst G ⟨fr1.set t8 (.tup [lt (.bool false)]), hp st⟩ (a.put (some t8) (.tuple #[.bool false])) w := hr.put (Gh.le.refl _ _) (Nat.le_refl _) hr.inv ra_tup1 (some t8)
      refine wpList_val rfl (v := .bool false) (w' := w) (ext_run hr8 (xs := [lt (.bool false)]) (List.getElem?_set_self (by rw [hlen]; exact h8)) rfl _ _ _ _) ?_
      have hr9 : Rst G ⟨(fr1.set t8 (.tup [lt (.bool false)])).set t9 (lt (.bool false)), hp st⟩ ((a.put (some t8) (.tuple #[.bool false])).put (some t9) (.bool false)) w := hr8.put (Gh.le.refl _ _) (Nat.le_refl _) hr8.inv ra_lit (some t9)
      show (Code.seq _ _).wp _ _ _ _
      refine wp_seq (wp_cond_false (slot_lit hr9 (List.getElem?_set_self (by rw [List.length_set, hlen]; exact h9))) (wp_exit ?_))
      show (if x0 = x0 then PostX m G0 Q .normal _ _ else _)
      rw [if_pos rfl]
      have hobw : w.heap[b]? = some ob := hr.inv.kp b ob (hl.kp b ob put2_kpb)
      refine ⟨G, _, put2_leb hl c1 hK0r, ⟨fun e he => ?_, ?_⟩, hmm, hr9, done st _ d fr1 (by rw [hpt]; exact hfr1.symm) hIs⟩
      · rcases List.mem_append.1 he with he | he
        · exact hM.out.one e he
        · rw [List.mem_singleton.1 he]
          refine ⟨c1, ?_, ob, hl.kp b ob put2_kpb, fun w' e => hW.map.block (e.trans hobw.symm)⟩
          cases hk : G.fz b with
          | none => rfl
          | some y => obtain ⟨z, hz⟩ := hl.new b _ _ put2_kpb hk; rw [show (G0.put2 b ob r orr).fz b = G0.fz b from rfl, hf0b] at hz; cases hz
      · refine List.pairwise_append.2 ⟨hM.two, List.pairwise_singleton _ _, fun e he e' he' => ?_⟩
        rw [List.mem_singleton.1 he']
        exact (put2_none (hM.one e he).1).1
    · refine wpList_val rfl (v := .tuple #[.bool true, .int .i64 k, v]) (w' := w2) (by simp [execOp, hev7, hrun]) ?_
      obtain ⟨ob', orr', e1, e2, hg'⟩ := hW2.at
      have hobw : w.heap[b]? = some ob := hr.inv.kp b ob (hl.kp b ob put2_kpb)
      have hob' : ob' = ob := by
        have := hgr.block b (lt_of_heap hobw) (by intro h; exact hrb (by cases h; rfl))
        rw [e1, hobw] at this; cases this; rfl
      subst hob'
      have hfzr : G.fz r = none := by
        cases hk : G.fz r with
        | none => rfl
        | some y => obtain ⟨z, hz⟩ := hl.new r _ _ (put2_kpr hrb) hk; rw [show (G0.put2 b ob' r orr).fz r = G0.fz r from rfl, hf0r] at hz; cases hz
      have hkr : G.kp r = some orr := hl.kp r orr (put2_kpr hrb)
      have hr8 : Rst { G with kp := fun c => if c = r then some orr' else G.kp c } ⟨fr1.set t8 (.tup [lt (.bool true), lt (.int .i64 k), lt v]), hp st⟩ (a.put (some t8) (.tuple #[.bool true, .int .i64 k, v])) w2 := hr.block_set hfzr (obj_ne hr.inv hkr) e2 hgr (some t8) ra_tup3
      have hl8 : Gh.leb m (G0.put2 b ob' r orr') { G with kp := fun c => if c = r then some orr' else G.kp c } := ⟨hl.mu, hl.sz, hl.dom, hl.back, hl.fz, fun c x e => by
        have e' : (if c = b then some ob' else if c = r then some orr' else G0.kp c) = some x := e
        show (if c = r then some orr' else G.kp c) = some x
        by_cases hcr : c = r
        · subst hcr; rw [if_neg hrb, if_pos rfl] at e'; rw [if_pos rfl]; exact e'
        · rw [if_neg hcr]
          rw [if_neg hcr] at e'
          exact hl.kp c x (by show (if c = b then some ob' else if c = r then some orr else G0.kp c) = some x; rw [if_neg hcr]; exact e'), fun c x y e f => by
        have e' : (if c = b then some ob' else if c = r then some orr' else G0.kp c) = some x := e
        have f' : G.fz c = some y := f
        by_cases hcr : c = r
        · subst hcr; rw [hfzr] at f'; cases f'
        · rw [if_neg hcr] at e'
          exact hl.new c x y (by show (if c = b then some ob' else if c = r then some orr else G0.kp c) = some x; rw [if_neg hcr]; exact e') f', hl.os, hl.tape, hl.output⟩
      have hM8 : MOK (G0.put2 b ob' r orr').kp { G with kp := fun c => if c = r then some orr' else G.kp c } (mp st) := ⟨fun e he => by
        obtain ⟨h1, h2, o, h3, h4⟩ := hM.one e he
        obtain ⟨n1, n2, n3⟩ := put2_none h1
        exact ⟨put2_some n1 n2 n3, h2, o, by show (if e.1 = r then _ else _) = _; rw [if_neg n2]; exact h3, h4⟩, hM.two⟩
      refine wpList_val rfl (v := .bool true) (w' := w2) (ext_run hr8 (xs := [lt (.bool true), lt (.int .i64 k), lt v]) (List.getElem?_set_self (by rw [hlen]; exact h8)) rfl _ _ _ _) ?_
      have hr9 := hr8.put (Gh.le.refl _ _) (Nat.le_refl _) hr8.inv (ra_lit (v := .bool true)) (some t9)
      generalize hG8 : ({ G with kp := fun c => if c = r then some orr' else G.kp c } : Gh) = G8 at *
      show (Code.seq _ _).wp _ _ _ _
      refine wp_seq (wp_cond_true (slot_lit hr9 (List.getElem?_set_self (by rw [List.length_set, hlen]; exact h9))) (wp_skip ?_))
      show (Code.block _ _).wp _ _ _ _
      refine wp_block (wp_seq (wp_region_list ?_))
      rw [List.toList_toArray]
      have hev7' : ((a.put (some t8) (.tuple #[.bool true, .int .i64 k, v])).put (some t9) (.bool true)).eval (.tmp t7) = .pointer (some ⟨r, 0, none⟩) := slot_lit hr9 (set_at (set_at (by rw [h7', hpt]) h87) h97)
      refine wpList_val rfl (v := .tuple #[.int .i64 k, v]) (w' := w2) (by simp [execOp, hev7', hent]) ?_
      have hr10 := hr9.put (Gh.le.refl _ _) (Nat.le_refl _) hr9.inv (ra_tup2 (x := .int .i64 k) (y := v)) (some t10)
      have hx := round st ks (.pointer (some ⟨r, 0, none⟩)) d fr1 (by rw [hpt]; exact hfr1.symm) hnd hIs k v hk hF ⟨kb1, kb2⟩ _ (fun _ h => h) (max fr1.length (topD (dsts (⟨some t10, .entry (.tmp t7), ty10, p10, a10, none⟩ :: l4)))) (by show (((fr1.set _ _).set _ _).set _ _).length ≤ _; simp only [List.length_set]; exact Nat.le_max_left _ _) (G0.put2 b ob' r orr') G8 _ w2 hmm hl8 hM8 hr10
      rw [wpList_strip (Nat.le_max_right _ _)] at hx
      refine wpList_mono (fun e a w ⟨G', s', h1, h2, h3, h4, h5⟩ => ?_) _ _ _ hx
      cases e with
      | normal =>
        show body.wp _ _ _ _
        refine wp_mono ((show AX Try.prog m body _ s' from h5) (G0.put2 b ob' r orr') G' a w h3 h1 h2 h4) fun e a w ⟨G2, s2, k1, k2, k3, k4, k5⟩ => ?_
        have again : WhX m ds f hp mp (fun st' => I st' (ks.erase k)) (fun _ => 0) (fr.set t7 (lt (.pointer (some ⟨r, 0, none⟩)))) 1 s2 → ∃ k_1, k_1 < ks.length ∧ ∃ (st : σ) (ks : List Int) (orr : Obj) (G : Gh) (d : Nat → Value), k_1 = ks.length ∧ m ≤ (hp st).length ∧ Gh.leb m (G0.put2 b ob' r orr) G ∧ MOK (G0.put2 b ob' r orr).kp G (mp st) ∧ Rst G ⟨updS (deadS (fr.set t7 ptr) (fun i => lt (d i)) ds) (f st), hp st⟩ a w ∧ (∀ w : World, w.heap[b]? = some ob' → w.heap[r]? = some orr → IRng w b r n F ks) ∧ ks.Nodup ∧ I st ks := fun hw => by
          rw [hpt] at hw
          obtain ⟨G3, s3, l1, l2, l3, l4, st', d', rfl, hI', _⟩ := (show LeadX m s2 _ from hw) _ G2 a w k3 k1 k2 k4
          exact ⟨(ks.erase k).length, by rw [List.length_erase_of_mem hk]; have := List.length_pos_of_mem hk; omega, st', ks.erase k, orr', G3, d', rfl, l3, l1, l2, l4, hg', hnd.erase k, hI'⟩
        cases e with
        | normal => exact again k5
        | exit id =>
          show (if id = x1 then _ else _)
          have k5' : (if id = x1 then _ else _) := k5
          by_cases h1 : id = x1
          · rw [if_pos h1] at k5' ⊢; exact again k5'
          · rw [if_neg h1] at k5' ⊢
            have k6 : (if id = x0 then Q .normal s2 else Q (.exit id) s2) := k5'
            show (if id = x0 then PostX m G0 Q .normal a w else PostX m G0 Q (.exit id) a w)
            by_cases h0 : id = x0
            · rw [if_pos h0] at k6 ⊢; exact ⟨G2, s2, put2_leb k1 c1 hK0r, k2.out, k3, k4, k6⟩
            · rw [if_neg h0] at k6 ⊢; exact ⟨G2, s2, put2_leb k1 c1 hK0r, k2.out, k3, k4, k6⟩
        | goto l => exact ⟨G2, s2, put2_leb k1 c1 hK0r, k2.out, k3, k4, k5⟩
        | ret => exact ⟨G2, s2, put2_leb k1 c1 hK0r, k2.out, k3, k4, k5⟩
        | panic ch => exact ⟨G2, s2, put2_leb k1 c1 hK0r, k2.out, k3, k4, k5⟩
        | outgrown => exact ⟨G2, s2, put2_leb k1 c1 hK0r, k2.out, k3, k4, k5⟩
      | _ => exact h5.elim
theorem XRes_onil {fr : List AV} {H : AHeap} {M : MS} {l : List Oper} {Q : Exit → XS → Prop} (i t sz : Nat) (hi : fr[i]? = some (lt (.slice none 0 0))) (h : XRes P m Q (l, ⟨fr.set i (.osl H.length 0 0 sz), H ++ [some ⟨t, []⟩], M⟩)) : XRes P m Q (l, ⟨fr, H, M⟩) :=
  XRes_lead (S := fun s1 => s1 = ⟨fr.set i (.osl H.length 0 0 sz), H ++ [some ⟨t, []⟩], M⟩) (.of (.nil i t sz hi rfl)) fun s' e _ => by rw [e]; exact h
theorem rng_step {ys ks : List Int} {k : Int} (hk : k ∈ ks) : (ys ++ [k] ++ ks.erase k).Perm (ys ++ ks) := by
  rw [List.append_assoc]; exact (List.perm_cons_erase hk).symm.append_left ys
end
end Go.Proofs.Ytpgbimpbjdoicaa
