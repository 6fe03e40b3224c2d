/- Plain facts on orders as tables of truths: no Go, no program. -/
namespace Go.Proofs.Ythfcbjfeepindaa

theorem php (n : Nat) : ∀ (f : Nat → Nat), (∀ i, i < n → f i < n) → (∀ i j, i < n → j < n → f i = f j → i = j) → ∀ k, k < n → ∃ i, i < n ∧ f i = k := by
  induction n with
  | zero => intro f _ _ k hk; omega
  | succ n ih =>
    intro f hr hi k hk
    have hg := ih (fun i => if f i = n then f n else f i) (fun i hin => by
      try dsimp only
      split
      · rename_i h
        have h1 := hr n (by omega)
        rcases Nat.lt_or_ge (f n) n with h2 | h2
        · exact h2
        · have := hi i n (by omega) (by omega) (by omega); omega
      · have := hr i (by omega); omega) (fun i j hin hjn h => by
      try dsimp only at h
      split at h <;> split at h
      · exact hi i j (by omega) (by omega) (by omega)
      · have := hi j n (by omega) (by omega) h.symm; omega
      · have := hi i n (by omega) (by omega) h; omega
      · exact hi i j (by omega) (by omega) h)
    by_cases hkn : k = n
    · subst hkn
      by_cases hfn : f k = k
      · exact ⟨k, by omega, hfn⟩
      · have h1 := hr k (by omega)
        obtain ⟨i, hin, hgi⟩ := hg (f k) (by omega)
        try dsimp only at hgi
        split at hgi
        · exact ⟨i, by omega, by assumption⟩
        · have := hi i k (by omega) (by omega) hgi; omega
    · obtain ⟨i, hin, hgi⟩ := hg k (by omega)
      try dsimp only at hgi
      split at hgi
      · exact ⟨n, by omega, hgi⟩
      · exact ⟨i, by omega, hgi⟩

/-- l tells which operation stands at each place of the table M. -/
def Ord (n : Nat) (M : Nat → Nat → Bool) (l : List Int) : Prop :=
  l.length = n ∧ (∀ k, k < n → ∃ a : Nat, a < n ∧ l.getD k 0 = a ∧ ∀ b, b < n → (M b k = true ↔ b = a)) ∧ (∀ j k, j < n → k < n → l.getD j 0 = l.getD k 0 → j = k)
theorem Ord.uniq {n : Nat} {M : Nat → Nat → Bool} {l l' : List Int} (h : Ord n M l) (h' : Ord n M l') : l = l' := by
  apply List.ext_getElem (h.1.trans h'.1.symm)
  intro k h1 h2
  obtain ⟨a, ha, e1, m1⟩ := h.2.1 k (by rw [← h.1]; exact h1)
  obtain ⟨b, hb, e2, m2⟩ := h'.2.1 k (by rw [← h.1]; exact h1)
  have := (m1 b hb).1 ((m2 b hb).2 rfl)
  subst this
  simpa [List.getD, h1, h2] using e1.trans e2.symm
/-- In an order each operation has just one place. -/
theorem Ord.row {n : Nat} {M : Nat → Nat → Bool} {l : List Int} (h : Ord n M l) {a : Nat} (ha : a < n) : ∃ k, k < n ∧ l.getD k 0 = a ∧ ∀ i, i < n → (M a i = true ↔ i = k) := by
  have hs := php n (fun k => (l.getD k 0).toNat) (fun k hk => by
    obtain ⟨b, hb, e, _⟩ := h.2.1 k hk; omega) (fun j k hj hk e => by
    obtain ⟨b, hb, e1, _⟩ := h.2.1 j hj
    obtain ⟨c, hc, e2, _⟩ := h.2.1 k hk
    try dsimp only at e
    exact h.2.2 j k hj hk (by omega))
  obtain ⟨k, hk, hka⟩ := hs a ha
  obtain ⟨b, hb, e, hm⟩ := h.2.1 k hk
  have hba : b = a := by omega
  subst hba
  refine ⟨k, hk, e, fun i hi => ⟨fun hM => ?_, fun hik => ?_⟩⟩
  · obtain ⟨c, hc, e2, hm2⟩ := h.2.1 i hi
    have := (hm2 b hb).1 hM
    exact h.2.2 i k hi hk (by rw [e2, e, this])
  · subst hik; exact (hm b hb).2 rfl

/-- What is known of a table behind its first j rows: row a is true at p a alone; no two of them at one place. -/
def RowsAt (n : Nat) (M : Nat → Nat → Bool) (j : Nat) (p : Nat → Nat) : Prop :=
  (∀ a, a < j → p a < n ∧ ∀ i, i < n → (M a i = true ↔ i = p a)) ∧ (∀ a b, a < j → b < j → p a = p b → a = b)
theorem RowsAt.ord {n : Nat} {M : Nat → Nat → Bool} {p : Nat → Nat} (h : RowsAt n M n p) {l : List Int} (hl : l.length = n) (hp : ∀ a, a < n → l.getD (p a) 0 = a) : Ord n M l := by
  have hs := php n p (fun i hi => (h.1 i hi).1) h.2
  refine ⟨hl, fun k hk => ?_, fun j k hj hk e => ?_⟩
  · obtain ⟨a, ha, e⟩ := hs k hk
    refine ⟨a, ha, by rw [← e]; exact hp a ha, fun b hb => ⟨fun hM => ?_, fun hba => ?_⟩⟩
    · have := ((h.1 b hb).2 k hk).1 hM
      exact h.2 b a hb ha (by omega)
    · subst hba; exact ((h.1 b hb).2 k hk).2 e.symm
  · obtain ⟨a, ha, e1⟩ := hs j hj
    obtain ⟨b, hb, e2⟩ := hs k hk
    rw [← e1, ← e2, hp a ha, hp b hb] at e
    have : a = b := by omega
    subst this; omega
theorem RowsAt.step {n : Nat} {M : Nat → Nat → Bool} {j : Nat} {p : Nat → Nat} (h : RowsAt n M j p) {i : Nat} (hi : i < n) (hr : ∀ k, k < n → (M j k = true ↔ k = i)) (hnew : ∀ a, a < j → p a ≠ i) :
    RowsAt n M (j + 1) (fun a => if a < j then p a else i) := by
  refine ⟨fun a ha => ?_, fun a b ha hb e => ?_⟩
  · by_cases haj : a < j
    · simp only [if_pos haj]; exact h.1 a haj
    · obtain rfl : a = j := by omega
      simp only [if_neg haj]; exact ⟨hi, hr⟩
  · by_cases haj : a < j <;> by_cases hbj : b < j
    · simp only [if_pos haj, if_pos hbj] at e; exact h.2 a b haj hbj e
    · simp only [if_pos haj, if_neg hbj] at e; exact absurd e (hnew a haj)
    · simp only [if_neg haj, if_pos hbj] at e; exact absurd e.symm (hnew b hbj)
    · omega
/-- Two rows that are true at one place alone, the same: no order. -/
theorem RowsAt.clash {n : Nat} {M : Nat → Nat → Bool} {j : Nat} {p : Nat → Nat} (hjn : j < n) (h : RowsAt n M j p) {i : Nat} (hr : ∀ k, k < n → (M j k = true ↔ k = i)) {a : Nat} (ha : a < j) (he : p a = i) (l : List Int) : ¬ Ord n M l := by
  intro ho
  obtain ⟨k, hk, e1, m1⟩ := ho.row hjn
  obtain ⟨k', hk', e2, m2⟩ := ho.row (show a < n by omega)
  have h1 := (hr k hk).1 ((m1 k hk).2 rfl)
  have h2 := ((h.1 a ha).2 k' hk').1 ((m2 k' hk').2 rfl)
  have : k = k' := by omega
  subst this
  rw [e1] at e2; omega

/-- How often, and where last, a row is true. -/
def Cnt (B : Nat → Bool) (k : Nat) (c : Nat) (at' : Nat) : Prop :=
  (c = 0 ∧ ∀ j, j < k → B j = false) ∨ (c = 1 ∧ at' < k ∧ ∀ j, j < k → (B j = true ↔ j = at')) ∨ (2 ≤ c ∧ c ≤ k ∧ ∃ i j, i < j ∧ j < k ∧ B i = true ∧ B j = true)
theorem Cnt.yes {B : Nat → Bool} {k c p : Nat} (h : Cnt B k c p) (hB : B k = true) : Cnt B (k + 1) (c + 1) k := by
  rcases h with ⟨h1, h2⟩ | ⟨h1, h2, h3⟩ | ⟨h1, h2, i, j, h3, h4, h5, h6⟩
  · right; left
    refine ⟨by omega, by omega, fun j hj => ?_⟩
    by_cases hjk : j = k
    · subst hjk; simp [hB]
    · simp [h2 j (by omega), hjk]
  · right; right
    exact ⟨by omega, by omega, p, k, by omega, by omega, (h3 p h2).2 rfl, hB⟩
  · right; right
    exact ⟨by omega, by omega, i, j, h3, by omega, h5, h6⟩
theorem Cnt.no {B : Nat → Bool} {k c p : Nat} (h : Cnt B k c p) (hB : B k = false) : Cnt B (k + 1) c p := by
  rcases h with ⟨h1, h2⟩ | ⟨h1, h2, h3⟩ | ⟨h1, h2, i, j, h3, h4, h5, h6⟩
  · left
    refine ⟨h1, fun j hj => ?_⟩
    by_cases hjk : j = k
    · subst hjk; exact hB
    · exact h2 j (by omega)
  · right; left
    refine ⟨h1, by omega, fun j hj => ?_⟩
    by_cases hjk : j = k
    · subst hjk; simp [hB]; omega
    · exact h3 j (by omega)
  · right; right
    exact ⟨h1, by omega, i, j, h3, by omega, h5, h6⟩
theorem Cnt.one {B : Nat → Bool} {n c p : Nat} (h : Cnt B n c p) : (c = 1 → p < n ∧ ∀ j, j < n → (B j = true ↔ j = p)) ∧ (c ≠ 1 → ∀ q, ¬ (q < n ∧ ∀ j, j < n → (B j = true ↔ j = q))) := by
  refine ⟨fun hc => ?_, fun hc q hq => ?_⟩
  · rcases h with ⟨h1, _⟩ | ⟨_, h2, h3⟩ | ⟨h1, _⟩
    · omega
    · exact ⟨h2, h3⟩
    · omega
  · rcases h with ⟨h1, h2⟩ | ⟨h1, _⟩ | ⟨h1, h2, i, j, h3, h4, h5, h6⟩
    · have := (hq.2 q hq.1).2 rfl; rw [h2 q hq.1] at this; cases this
    · exact hc h1
    · have e1 := (hq.2 i (by omega)).1 h5; have e2 := (hq.2 j h4).1 h6; omega
end Go.Proofs.Ythfcbjfeepindaa
