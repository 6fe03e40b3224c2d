/- The sequence of layer 18, plainly. -/
namespace Go.Proofs.Ytblncllnafjkmaa

/-- The number at a place: 0 at place 0. -/
def lub (i : Nat) : Nat :=
  if h : i + 1 = 2 ^ (Nat.log2 i + 1) ∨ i = 0 then (i + 1) / 2 else lub (i + 1 - 2 ^ Nat.log2 i)
termination_by i
decreasing_by
  have h0 : i ≠ 0 := fun e => h (Or.inr e)
  have h1 : i ≠ 1 := fun e => h (Or.inl (by subst e; decide))
  have h2 : 1 ≤ Nat.log2 i := (Nat.le_log2 h0).2 (by omega)
  have h3 : 2 ^ 1 ≤ 2 ^ Nat.log2 i := Nat.pow_le_pow_right (by decide) h2
  omega

theorem log2_at {i k : Nat} (h1 : 2 ^ k ≤ i) (h2 : i < 2 ^ (k + 1)) : Nat.log2 i = k := by
  have h0 : i ≠ 0 := by have := Nat.two_pow_pos k; omega
  exact (Nat.log2_eq_iff h0).2 ⟨h1, h2⟩
theorem lub_zero : lub 0 = 0 := by rw [lub]; simp
theorem lub_top (k : Nat) : lub (2 ^ (k + 1) - 1) = 2 ^ k := by
  have hp := Nat.two_pow_pos k
  have e : 2 ^ (k + 1) = 2 * 2 ^ k := by rw [Nat.pow_succ]; omega
  have hl : Nat.log2 (2 ^ (k + 1) - 1) = k := log2_at (by omega) (by omega)
  rw [lub, dif_pos (Or.inl (by rw [hl]; omega))]
  omega
theorem lub_rec {i k : Nat} (h1 : 2 ^ k ≤ i) (h2 : i + 1 < 2 ^ (k + 1)) : lub i = lub (i + 1 - 2 ^ k) := by
  have hp := Nat.two_pow_pos k
  have hl : Nat.log2 i = k := log2_at h1 (by omega)
  rw [lub, dif_neg (by rw [hl]; omega), hl]
theorem lub_pow (i : Nat) (hi : 1 ≤ i) : (∃ k, lub i = 2 ^ k) ∧ 1 ≤ lub i ∧ lub i ≤ i := by
  induction i using Nat.strongRecOn with
  | _ i ih =>
    have h0 : i ≠ 0 := by omega
    have h1 := Nat.log2_self_le h0
    have h2 := Nat.lt_log2_self (n := i)
    have hp := Nat.two_pow_pos (Nat.log2 i)
    have e : 2 ^ (Nat.log2 i + 1) = 2 * 2 ^ Nat.log2 i := by rw [Nat.pow_succ]; omega
    by_cases h : i + 1 = 2 ^ (Nat.log2 i + 1)
    · have h3 := lub_top (Nat.log2 i)
      rw [← h, Nat.add_sub_cancel] at h3
      rw [h3]
      exact ⟨⟨_, rfl⟩, by omega, by omega⟩
    · rw [lub_rec h1 (by omega)]
      have h4 : 2 ≤ 2 ^ Nat.log2 i := by
        have : 1 ≤ Nat.log2 i := (Nat.le_log2 h0).2 (by
          by_cases e1 : i = 1
          · exact absurd (by rw [e1]; decide) h
          · omega)
        exact Nat.pow_le_pow_right (n := 2) (by decide) this
      obtain ⟨k1, k2, k3⟩ := ih (i + 1 - 2 ^ Nat.log2 i) (by omega) (by omega)
      exact ⟨k1, k2, by omega⟩

/-! ### the greatest power of 2 in a number -/
def lowb (u : Nat) : Nat := if h : u = 0 then 0 else if u % 2 = 1 then 1 else 2 * lowb (u / 2)
termination_by u
decreasing_by omega
theorem lowb_two (u : Nat) : lowb (2 * u) = 2 * lowb u := by
  by_cases h : u = 0
  · subst h; rw [lowb]; simp
  · rw [lowb, dif_neg (by omega), if_neg (by omega), Nat.mul_div_cancel_left _ (by decide)]
theorem lowb_odd {u : Nat} (h : u % 2 = 1) : lowb u = 1 := by rw [lowb, dif_neg (by omega), if_pos h]
theorem lowb_pow (k : Nat) : lowb (2 ^ k) = 2 ^ k := by
  induction k with
  | zero => exact lowb_odd (by decide)
  | succ k ih => rw [Nat.pow_succ, Nat.mul_comm, lowb_two, ih]
theorem lowb_add {k u : Nat} (h0 : 0 < u) (h : u < 2 ^ k) : lowb (2 ^ k + u) = lowb u := by
  induction k generalizing u with
  | zero => simp at h; omega
  | succ k ih =>
    have e : 2 ^ (k + 1) = 2 * 2 ^ k := by rw [Nat.pow_succ]; omega
    rcases Nat.mod_two_eq_zero_or_one u with hu | hu
    · obtain ⟨m, rfl⟩ : ∃ m, u = 2 * m := ⟨u / 2, by omega⟩
      rw [e, ← Nat.mul_add, lowb_two, lowb_two, ih (by omega) (by omega)]
    · rw [lowb_odd hu, lowb_odd (by omega)]

/-! ### the numbers, one by one -/
def sqU : Nat → Nat × Nat
  | 0 => (1, 1)
  | n + 1 => if lowb (sqU n).1 = (sqU n).2 then ((sqU n).1 + 1, 1) else ((sqU n).1, 2 * (sqU n).2)
theorem sqU_yes {n : Nat} (h : lowb (sqU n).1 = (sqU n).2) : sqU (n + 1) = ((sqU n).1 + 1, 1) := by rw [sqU, if_pos h]
theorem sqU_no {n : Nat} (h : lowb (sqU n).1 ≠ (sqU n).2) : sqU (n + 1) = ((sqU n).1, 2 * (sqU n).2) := by rw [sqU, if_neg h]
theorem sqU_bd (n : Nat) : 1 ≤ (sqU n).1 ∧ (sqU n).1 ≤ n + 1 := by
  induction n with
  | zero => decide
  | succ n ih => by_cases h : lowb (sqU n).1 = (sqU n).2 <;> simp only [sqU_yes, sqU_no, h, ne_eq, not_false_eq_true] <;> omega

def SqTo (k : Nat) : Prop := sqU (2 ^ (k + 1) - 1) = (2 ^ k + 1, 1) ∧ ∀ n, n < 2 ^ (k + 1) - 1 → (sqU n).1 ≤ 2 ^ k ∧ (sqU n).2 = lub (n + 1) ∧ (sqU n).2 ≤ 2 ^ k ∧ (n + 1 < 2 ^ (k + 1) - 1 → ¬ ((sqU n).1 = 2 ^ k ∧ (sqU n).2 = 2 ^ k))
theorem sqTo (k : Nat) : SqTo k := by
  induction k with
  | zero =>
    have e1 : sqU 1 = (2, 1) := sqU_yes (lowb_odd (by decide))
    refine ⟨e1, fun n hn => ?_⟩
    have h0 : n = 0 := by simp at hn; omega
    subst h0
    exact ⟨by decide, (lub_top 0).symm, by decide, fun h => absurd h (by decide)⟩
  | succ k ih =>
    obtain ⟨h1, h2⟩ := ih
    have hp := Nat.two_pow_pos k
    have e1 : 2 ^ (k + 1) = 2 * 2 ^ k := by rw [Nat.pow_succ]; omega
    have e2 : 2 ^ (k + 1 + 1) = 4 * 2 ^ k := by rw [Nat.pow_succ, e1]; omega
    have hlast : sqU (2 ^ (k + 1) - 2) = (2 ^ k, 2 ^ k) := by
      obtain ⟨a1, _, a3, _⟩ := h2 (2 ^ (k + 1) - 2) (by omega)
      have hs : sqU (2 ^ (k + 1) - 2 + 1) = (2 ^ k + 1, 1) := by rw [show 2 ^ (k + 1) - 2 + 1 = 2 ^ (k + 1) - 1 by omega]; exact h1
      by_cases hc : lowb (sqU (2 ^ (k + 1) - 2)).1 = (sqU (2 ^ (k + 1) - 2)).2
      · rw [sqU_yes hc] at hs
        have hu : (sqU (2 ^ (k + 1) - 2)).1 = 2 ^ k := by have := congrArg Prod.fst hs; simpa using this
        rw [hu, lowb_pow] at hc
        exact Prod.ext hu hc.symm
      · rw [sqU_no hc] at hs
        have := congrArg Prod.fst hs
        simp at this; omega
    have hsh : ∀ n, n < 2 ^ (k + 1) - 1 → sqU (2 ^ (k + 1) - 1 + n) = (2 ^ k + (sqU n).1, (sqU n).2) := by
      intro n
      induction n with
      | zero => intro _; rw [Nat.add_zero, h1]; rfl
      | succ n ihn =>
        intro hn
        have hs := ihn (by omega)
        obtain ⟨a1, _, a3, a4⟩ := h2 n (by omega)
        have a5 := a4 hn
        have hb := sqU_bd n
        by_cases hu : (sqU n).1 < 2 ^ k
        · have hl : lowb (2 ^ k + (sqU n).1) = lowb (sqU n).1 := lowb_add (by omega) hu
          rw [← Nat.add_assoc]
          by_cases hc : lowb (sqU n).1 = (sqU n).2
          · rw [sqU_yes (by rw [hs]; exact hl.trans hc), sqU_yes hc, hs]; simp [Nat.add_assoc]
          · rw [sqU_no (by rw [hs]; simpa [hl] using hc), sqU_no hc, hs]
        · have hu2 : (sqU n).1 = 2 ^ k := by omega
          have hv : (sqU n).2 ≠ 2 ^ k := fun h => a5 ⟨hu2, h⟩
          rw [← Nat.add_assoc]
          rw [sqU_no (by rw [hs]; simp only [hu2]; rw [show 2 ^ k + 2 ^ k = 2 ^ (k + 1) by omega, lowb_pow]; omega), sqU_no (by rw [hu2, lowb_pow]; exact fun h => hv h.symm), hs]
    have hz1 : sqU (2 ^ (k + 1 + 1) - 3) = (2 ^ (k + 1), 2 ^ k) := by
      have := hsh (2 ^ (k + 1) - 2) (by omega)
      rw [hlast] at this
      rw [show 2 ^ (k + 1 + 1) - 3 = 2 ^ (k + 1) - 1 + (2 ^ (k + 1) - 2) by omega, this]
      exact Prod.ext (by show 2 ^ k + 2 ^ k = _; omega) rfl
    have hz2 : sqU (2 ^ (k + 1 + 1) - 2) = (2 ^ (k + 1), 2 ^ (k + 1)) := by
      rw [show 2 ^ (k + 1 + 1) - 2 = 2 ^ (k + 1 + 1) - 3 + 1 by omega, sqU_no (by rw [hz1]; show lowb (2 ^ (k + 1)) ≠ 2 ^ k; rw [lowb_pow]; omega), hz1]
      exact Prod.ext rfl (by show 2 * 2 ^ k = _; omega)
    have hz3 : sqU (2 ^ (k + 1 + 1) - 1) = (2 ^ (k + 1) + 1, 1) := by
      rw [show 2 ^ (k + 1 + 1) - 1 = 2 ^ (k + 1 + 1) - 2 + 1 by omega, sqU_yes (by rw [hz2]; exact lowb_pow _), hz2]
    refine ⟨hz3, fun n hn => ?_⟩
    by_cases hn1 : n < 2 ^ (k + 1) - 1
    · obtain ⟨a1, a2, a3, _⟩ := h2 n hn1
      exact ⟨by omega, a2, by omega, fun _ h => by omega⟩
    · by_cases hn2 : n < 2 * (2 ^ (k + 1) - 1)
      · obtain ⟨m, rfl⟩ : ∃ m, n = 2 ^ (k + 1) - 1 + m := ⟨n - (2 ^ (k + 1) - 1), by omega⟩
        have hm : m < 2 ^ (k + 1) - 1 := by omega
        obtain ⟨a1, a2, a3, _⟩ := h2 m hm
        rw [hsh m hm]
        refine ⟨by show 2 ^ k + _ ≤ _; omega, ?_, by show (sqU m).2 ≤ _; omega, fun _ h => by have : (sqU m).2 = 2 ^ (k + 1) := h.2; omega⟩
        show (sqU m).2 = _
        rw [a2, lub_rec (i := 2 ^ (k + 1) - 1 + m + 1) (k := k + 1) (by omega) (by omega)]
        congr 1; omega
      · have hn3 : n = 2 ^ (k + 1 + 1) - 2 := by omega
        subst hn3
        rw [hz2]
        refine ⟨Nat.le_refl _, ?_, Nat.le_refl _, fun h => by omega⟩
        show 2 ^ (k + 1) = _
        rw [show 2 ^ (k + 1 + 1) - 2 + 1 = 2 ^ (k + 1 + 1) - 1 by omega, lub_top]
theorem sqU_lub (n : Nat) : (sqU n).2 = lub (n + 1) := by
  have h : n < 2 ^ (n + 1) - 1 := by
    have : n + 1 < 2 ^ (n + 1) := Nat.lt_two_pow_self
    omega
  exact ((sqTo n).2 n h).2.1

/-! ### sums -/
def lsum : Nat → Nat
  | 0 => 0
  | n + 1 => lsum n + lub (n + 1)
theorem lsum_ge (n : Nat) : n ≤ lsum n := by
  induction n with
  | zero => exact Nat.le_refl _
  | succ n ih => have := (lub_pow (n + 1) (by omega)).2.1; rw [lsum]; omega
theorem lsum_le {m n : Nat} (h : m ≤ n) : lsum m ≤ lsum n := by
  induction n with
  | zero => rw [show m = 0 by omega]; exact Nat.le_refl _
  | succ n ih =>
    by_cases e : m = n + 1
    · rw [e]; exact Nat.le_refl _
    · have := ih (by omega); rw [lsum]; omega
theorem lsum_lt {m n : Nat} (h : m < n) : lsum m < lsum n := by
  have h1 := lsum_le (m := m + 1) (n := n) h
  have := (lub_pow (m + 1) (by omega)).2.1
  rw [lsum] at h1; omega
theorem lsum_step (n : Nat) : lsum (n + 1) ≤ 2 * lsum n + 1 := by
  have := (lub_pow (n + 1) (by omega)).2.2
  have := lsum_ge n
  rw [lsum]; omega
/-- How many numbers are summed up. -/
def lmany (c u : Nat) : Nat := (List.range (c + 2)).findIdx fun m => decide (c < u * lsum m)
theorem lmany_eq {c u m : Nat} (hu : 1 ≤ u) (h1 : c < u * lsum m) (h2 : ∀ j, j < m → u * lsum j ≤ c) : lmany c u = m := by
  have hm : m ≤ c + 1 := by
    rcases Nat.eq_zero_or_pos m with e | e
    · omega
    · have h3 := h2 (m - 1) (by omega)
      have h4 := lsum_ge (m - 1)
      have h5 : lsum (m - 1) ≤ u * lsum (m - 1) := Nat.le_mul_of_pos_left _ hu
      omega
  unfold lmany
  rw [List.findIdx_eq (by simpa using by omega)]
  refine ⟨by simpa using h1, fun j hj => by simpa using h2 j hj⟩
theorem lmany_is {c u : Nat} (hu : 1 ≤ u) : c < u * lsum (lmany c u) ∧ ∀ j, j < lmany c u → u * lsum j ≤ c := by
  have hlt : (List.range (c + 2)).findIdx (fun m => decide (c < u * lsum m)) < (List.range (c + 2)).length := by
    rw [List.findIdx_lt_length]
    refine ⟨c + 1, by simp, ?_⟩
    have h4 := lsum_ge (c + 1)
    have h5 : lsum (c + 1) ≤ u * lsum (c + 1) := Nat.le_mul_of_pos_left _ hu
    simp; omega
  refine ⟨?_, fun j hj => ?_⟩
  · have := List.findIdx_getElem (w := hlt)
    rw [List.getElem_range] at this
    exact of_decide_eq_true this
  · have := List.not_of_lt_findIdx hj
    rw [List.getElem_range] at this
    simpa using this

/-! ### the answers -/
def lAt (i : Int) : Int := if i < 1 ∨ 1000000000 < i then 0 else (lub i.toNat : Int)
def lFirst (n : Int) : List Int := if n < 1 ∨ 100000 < n then [] else (List.range n.toNat).map fun i => (lub (i + 1) : Int)
def lSum (n : Int) : Int := if n < 1 ∨ 100000 < n then 0 else (lsum n.toNat : Int)
def lNextOk (c u : Int) : Prop := 0 ≤ c ∧ c ≤ 1000000 ∧ 1 ≤ u ∧ u ≤ 1000000
instance (c u : Int) : Decidable (lNextOk c u) := by unfold lNextOk; infer_instance
def lNext (c u : Int) : Int := if lNextOk c u then ((u.toNat * lsum (lmany c.toNat u.toNat) : Nat) : Int) else 0
end Go.Proofs.Ytblncllnafjkmaa
