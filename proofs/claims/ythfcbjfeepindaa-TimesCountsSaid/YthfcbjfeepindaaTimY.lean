/- What is sorted, and how many clauses of times there are, plainly. -/
import Derived.Test.YthfcbjfeepindaaTimX
import Derived.Test.YthfcbjfeepindaaTimR
namespace Go.Proofs.Ythfcbjfeepindaa
open Go.RowKit
set_option linter.unusedVariables false

/-- How many of the first k pairs count. -/
def tCnt (n : Nat) (ps : List (Int × Int)) (k : Nat) : Nat := ((List.range k).filter fun i => tCounts n (prAt ps i).1 (prAt ps i).2).length
theorem tCnt_succ (n : Nat) (ps : List (Int × Int)) (k : Nat) : tCnt n ps (k + 1) = if tCounts n (prAt ps k).1 (prAt ps k).2 then tCnt n ps k + 1 else tCnt n ps k := by
  unfold tCnt
  rw [List.range_succ, List.filter_append, List.length_append]
  by_cases h : tCounts n (prAt ps k).1 (prAt ps k).2 = true
  · rw [if_pos h]; simp [h]
  · rw [if_neg h]; simp [h]
theorem tCnt_le (n : Nat) (ps : List (Int × Int)) (k : Nat) : tCnt n ps k ≤ k := by
  unfold tCnt
  exact Nat.le_trans (List.length_filter_le _ _) (by simp)
theorem tRowP_len2 (n s : Int) (p : Int × Int) (k : Nat) : 2 * (tRowP n s p k).length + k = k * k := by
  induction k with
  | zero => simp [tRowP]
  | succ k ih =>
    have e : (k + 1) * (k + 1) = k * k + 2 * k + 1 := by rw [Nat.add_mul, Nat.mul_add]; omega
    rw [tRowP_succ, List.length_append, tRowA_len]; omega
theorem tUp_len2 (n : Nat) (s : Int) (ps : List (Int × Int)) (k : Nat) : 2 * (tUp n s ps k).length + tCnt n ps k * n = tCnt n ps k * (n * n) := by
  induction k with
  | zero => simp [tUp, tCnt]
  | succ k ih =>
    rw [tUp_succ, List.length_append, tCnt_succ]
    unfold tPart
    by_cases h : tCounts n (prAt ps k).1 (prAt ps k).2 = true
    · have h2 := tRowP_len2 n s (prAt ps k) n
      rw [if_pos h, if_pos h, Int.toNat_natCast, Nat.add_mul, Nat.add_mul]
      omega
    · rw [if_neg h, if_neg h, List.length_nil]; omega
theorem tC_len {n : Nat} {s : Int} (hok : nOk n s) (ps : List (Int × Int)) : 2 * (tC n s ps).length + tCnt n ps ps.length * n = tCnt n ps ps.length * (n * n) := by
  unfold tC; rw [if_pos hok]; exact tUp_len2 n s ps ps.length

theorem tSortUp_stuck {n : Nat} {ps : List (Int × Int)} {k : Nat} (h : tSortUp n ps k = none) : ∃ j out, j < k ∧ tSortUp n ps j = some out ∧ tLeast n ps out = n := by
  induction k with
  | zero => simp [tSortUp] at h
  | succ k ih =>
    cases hk : tSortUp n ps k with
    | none => obtain ⟨j, out, h1, h2⟩ := ih hk; exact ⟨j, out, by omega, h2⟩
    | some out =>
      refine ⟨k, out, by omega, hk, ?_⟩
      rw [tSortUp_step hk] at h
      split at h
      · assumption
      · cases h
theorem held_by {n : Nat} {ps : List (Int × Int)} {out : List Nat} {x : Nat} (hx : x ∉ out) (h : tFree n ps out x = false) : ∃ i, i < ps.length ∧ tCounts n (prAt ps i).1 (prAt ps i).2 = true ∧ (prAt ps i).2 = (x : Int) ∧ (prAt ps i).1.toNat ∉ out := by
  have hg : ∀ i (hi : i < ps.length), prAt ps i = ps[i] := fun i hi => by unfold prAt; rw [List.getD_eq_getElem?_getD, List.getElem?_eq_getElem hi]; rfl
  unfold tFree at h
  rw [Bool.and_eq_false_iff] at h
  rcases h with h | h
  · simp [hx] at h
  · rw [List.all_eq_false] at h
    obtain ⟨p, hp, hb⟩ := h
    obtain ⟨i, hi, rfl⟩ := List.mem_iff_getElem.1 hp
    rw [← hg i hi] at hb
    simp only [Bool.or_eq_true, Bool.not_eq_true', Bool.and_eq_false_iff, not_or, List.contains_iff_mem] at hb
    obtain ⟨⟨b1, b2⟩, b3⟩ := hb
    exact ⟨i, hi, by simpa using b1, by simpa using b2, b3⟩
theorem two_count {n : Nat} {ps : List (Int × Int)} {k i j : Nat} (hi : i < k) (hj : j < k) (hij : i ≠ j) (h1 : tCounts n (prAt ps i).1 (prAt ps i).2 = true) (h2 : tCounts n (prAt ps j).1 (prAt ps j).2 = true) : 1 < tCnt n ps k := by
  unfold tCnt
  have m1 : i ∈ (List.range k).filter fun i => tCounts n (prAt ps i).1 (prAt ps i).2 := List.mem_filter.2 ⟨List.mem_range.2 hi, h1⟩
  have m2 : j ∈ (List.range k).filter fun i => tCounts n (prAt ps i).1 (prAt ps i).2 := List.mem_filter.2 ⟨List.mem_range.2 hj, h2⟩
  generalize (List.range k).filter (fun i => tCounts n (prAt ps i).1 (prAt ps i).2) = L at *
  rcases L with _ | ⟨a, _ | ⟨b, t⟩⟩
  · cases m1
  · simp at m1 m2; omega
  · simp
theorem missing {n : Nat} {out : List Nat} (hl : out.length < n) : ∃ x, x < n ∧ x ∉ out := by
  refine Classical.byContradiction fun h => ?_
  have h2 : ∀ x, x < n → x ∈ out := fun x hx => Classical.byContradiction fun hn => h ⟨x, hx, hn⟩
  have h3 : (List.range n).length ≤ out.length := (List.nodup_range (n := n)).length_le_of_subset (fun x hx => h2 x (List.mem_range.1 hx))
  simp at h3; omega
/-- What can't be sorted has two pairs at least. -/
theorem tSort_two {n : Nat} {ps : List (Int × Int)} (h : tSortUp n ps n = none) : 1 < tCnt n ps ps.length := by
  obtain ⟨j, out, hj, hup, hl⟩ := tSortUp_stuck h
  obtain ⟨o1, o2, o3⟩ := tSortUp_len hup
  have hno : ∀ x, x < n → tFree n ps out x = false := fun x hx => tLeast_not (by rw [hl]; exact hx)
  obtain ⟨x, hx, hxo⟩ := missing (n := n) (out := out) (by omega)
  obtain ⟨i1, a1, a2, a3, a4⟩ := held_by hxo (hno x hx)
  have hr : (0 ≤ (prAt ps i1).1 ∧ (prAt ps i1).1 < n) ∧ (prAt ps i1).1 ≠ (prAt ps i1).2 := by unfold tCounts at a2; have := of_decide_eq_true a2; exact ⟨this.1, this.2.2⟩
  obtain ⟨i2, b1, b2, b3, b4⟩ := held_by a4 (hno _ (by omega))
  refine two_count a1 b1 (fun e => ?_) a2 b2
  subst e
  omega

/-- What is sorted stands against no pair. -/
def SInv (n : Nat) (ps : List (Int × Int)) (out : List Nat) : Prop := ∀ p ∈ ps, tCounts n p.1 p.2 = true → p.2.toNat ∈ out → tPl (outI out) p.1 < tPl (outI out) p.2
theorem outI_mem {out : List Nat} {x : Int} (h : 0 ≤ x) : x ∈ outI out ↔ x.toNat ∈ out := by
  have := outI_has out x h
  rw [Bool.eq_iff_iff, List.contains_iff_mem, List.contains_iff_mem] at this
  exact this
theorem SInv.step {n : Nat} {ps : List (Int × Int)} {out : List Nat} (h : SInv n ps out) {y : Nat} (hf : tFree n ps out y = true) : SInv n ps (out ++ [y]) := by
  intro p hp hc hm
  have hr : (0 ≤ p.1 ∧ p.1 < n) ∧ (0 ≤ p.2 ∧ p.2 < n) ∧ p.1 ≠ p.2 := by unfold tCounts at hc; exact of_decide_eq_true hc
  unfold tFree at hf
  rw [Bool.and_eq_true, List.all_eq_true] at hf
  obtain ⟨hy, hall⟩ := hf
  have hyn : (y : Int) ∉ outI out := fun hh => by
    rw [outI_mem (by omega)] at hh
    simp at hh
    simp [hh] at hy
  rw [outI_push]
  unfold tPl
  by_cases h2 : p.2.toNat ∈ out
  · have h3 := h p hp hc h2
    have m2 : p.2 ∈ outI out := (outI_mem hr.2.1.1).2 h2
    have m1 : p.1 ∈ outI out := by
      unfold tPl at h3
      have := List.idxOf_lt_length_of_mem m2
      exact List.idxOf_lt_length_iff.1 (by omega)
    rw [List.idxOf_append, if_pos m1, List.idxOf_append, if_pos m2]
    exact h3
  · have h4 : p.2.toNat = y := by
      rw [List.mem_append, List.mem_singleton] at hm
      rcases hm with hm | hm
      · exact absurd hm h2
      · exact hm
    have h5 : p.2 = (y : Int) := by omega
    have h6 := hall p hp
    rw [hc, h5] at h6
    simp only [beq_self_eq_true, Bool.and_true, Bool.not_true, Bool.false_or, List.contains_iff_mem] at h6
    have m1 : p.1 ∈ outI out := (outI_mem hr.1.1).2 h6
    rw [List.idxOf_append, if_pos m1, h5, List.idxOf_append, if_neg hyn]
    have := List.idxOf_lt_length_of_mem m1
    omega
theorem tSortUp_inv {n : Nat} {ps : List (Int × Int)} {k : Nat} {out : List Nat} (h : tSortUp n ps k = some out) : SInv n ps out := by
  induction k generalizing out with
  | zero => simp [tSortUp] at h; subst h; intro p _ _ hm; cases hm
  | succ k ih =>
    cases hk : tSortUp n ps k with
    | none => rw [tSortUp, hk] at h; cases h
    | some o =>
      rw [tSortUp_step hk] at h
      split at h
      · cases h
      · rename_i hne
        cases h
        have := tLeast_le n ps o
        exact (ih hk).step (tLeast_free (by omega))
theorem sorted_all {n : Nat} {ps : List (Int × Int)} {out : List Nat} (h : tSortUp n ps n = some out) : ∀ x, x < n → x ∈ out := by
  obtain ⟨o1, o2, o3⟩ := tSortUp_len h
  intro x hx
  refine Classical.byContradiction fun hn => ?_
  have h3 : (x :: out).length ≤ (List.range n).length := (List.nodup_cons.2 ⟨hn, o3⟩).length_le_of_subset (fun y hy => by
    rw [List.mem_range]
    rcases List.mem_cons.1 hy with e | e
    · omega
    · exact o2 y e)
  simp at h3; omega
theorem sorted_ok {n : Nat} {ps : List (Int × Int)} {out : List Nat} (h : tSortUp n ps n = some out) : tAgOk (outI out) ps = true := by
  rw [tAgOk_iff]
  intro p hp
  unfold tBad
  refine decide_eq_false fun hb => ?_
  obtain ⟨o1, o2, o3⟩ := tSortUp_len h
  have hin : ∀ z : Int, tPl (outI out) z < (outI out).length → 0 ≤ z ∧ z < n := fun z hz => by
    unfold tPl at hz
    have := List.idxOf_lt_length_iff.1 hz
    unfold outI at this
    obtain ⟨y, hy, rfl⟩ := List.mem_map.1 this
    have := o2 y hy
    omega
  have i1 := hin p.1 hb.2
  have i2 := hin p.2 (by omega)
  have hc : tCounts n p.1 p.2 = true := by
    unfold tCounts
    exact decide_eq_true ⟨i1, i2, fun e => by rw [e] at hb; omega⟩
  have := tSortUp_inv h p hp hc (sorted_all h _ (by omega))
  omega
theorem sorted_place {n : Nat} {ps : List (Int × Int)} {out : List Nat} (h : tSortUp n ps n = some out) {x : Nat} (hx : x < n) : decide (pI (outI out) x < 0) = false := by
  rw [pI_out out x (by omega), Int.toNat_natCast]
  simp [sorted_all h x hx]
end Go.Proofs.Ythfcbjfeepindaa
