import Derived.Test.YtcjnikkmjhagmaaGreatDoorMgAN
namespace Go.Proofs.YtcjnikkmjhagmaaGreatDoor
def mostRow (neg : Int → Int) (xs : List Int) (k : Nat) : List (List Int) := (xs.drop (k + 1)).map fun y => [neg (xs.getD k 0), neg y]
def mostUp (neg : Int → Int) (xs : List Int) (k : Nat) : List (List Int) := (List.range k).flatMap (mostRow neg xs)
def most (neg : Int → Int) (xs : List Int) : List (List Int) := mostUp neg xs xs.length
end Go.Proofs.YtcjnikkmjhagmaaGreatDoor
namespace Go.Proofs.YtcjnikkmjhagmaaGreatDoor
def cntT (B : Nat → Bool) : Nat → Nat
  | 0 => 0
  | k + 1 => if B k = true then cntT B k + 1 else cntT B k
def lastT (B : Nat → Bool) : Nat → Nat
  | 0 => 0
  | k + 1 => if B k = true then k else lastT B k
theorem lastT_lt (B : Nat → Bool) (k : Nat) (h : 0 < cntT B k) : lastT B k < k := by
  induction k with
  | zero => simp [cntT] at h
  | succ k ih =>
    unfold lastT; unfold cntT at h
    split
    · omega
    · rename_i hb; rw [if_neg hb] at h; have := ih h; omega
def truesI (B : Nat → Bool) (k : Nat) : List Int := ((List.range k).filter B).map fun i : Nat => (i : Int)
theorem cntT_one {B : Nat → Bool} {n : Nat} (h : cntT B n = 1) : ∀ j, j < n → (B j = true ↔ j = lastT B n) := by
  induction n with
  | zero => simp [cntT] at h
  | succ n ih =>
    intro j hj
    unfold cntT at h; unfold lastT
    by_cases hb : B n = true
    · rw [if_pos hb] at h ⊢
      have h0 : ∀ m, cntT B m = 0 → ∀ i, i < m → B i = false := by
        intro m
        induction m with
        | zero => intro _ i hi; omega
        | succ m ihm =>
          intro hm i hi
          unfold cntT at hm
          by_cases hbm : B m = true
          · rw [if_pos hbm] at hm; omega
          · rw [if_neg hbm] at hm
            by_cases him : i = m
            · subst him; simpa using hbm
            · exact ihm hm i (by omega)
      by_cases hjn : j = n
      · subst hjn; simp [hb]
      · have := h0 n (by omega) j (by omega)
        simp [this, hjn]
    · rw [if_neg hb] at h ⊢
      by_cases hjn : j = n
      · subst hjn
        have := lastT_lt B j (by omega)
        constructor
        · intro h2; exact absurd h2 hb
        · intro h2; omega
      · exact ih h j (by omega)
def stB (o s : Int) (bs : List Bool) (a j : Nat) : Bool := bs.getD ((nVar o s 3 a j).toNat - 1) false
def stOk (o s : Int) (ml : Nat) (bs : List Bool) : Bool := decide (nOk o s ∧ (ml : Int) = nVars o s ∧ ∀ a, a < o.toNat + 1 → cntT (stB o s bs a) s.toNat = 1)
def stRows (o s : Int) (bs : List Bool) (k : Nat) : List Int := (List.range k).map fun a => (lastT (stB o s bs a) s.toNat : Int)
def stRow (o s : Int) (ml : Nat) (bs : List Bool) : List Int := if stOk o s ml bs = true then stRows o s bs (o.toNat + 1) else []
def stMay (o s : Int) (row : List Int) (k : Nat) : Prop := ∀ a, a < k → 0 ≤ row.getD a 0 ∧ row.getD a 0 < s
instance (o s : Int) (row : List Int) (k : Nat) : Decidable (stMay o s row k) := by unfold stMay; infer_instance
def stTOk (o s : Int) (rl : Nat) (row : List Int) : Bool := decide (nOk o s ∧ (rl : Int) = o + 1 ∧ stMay o s row (o.toNat + 1))
def stTs (n m : Nat) (row : List Int) (k : Nat) : List Bool := (List.range (n * n + n + (n + 1) * m)).map fun x => decide (∃ a, a < k ∧ ((x : Nat) : Int) + 1 = nVar n m 3 a (row.getD a 0))
def stTru (o s : Int) (rl : Nat) (row : List Int) : List Bool := if stTOk o s rl row = true then stTs o.toNat s.toNat row (o.toNat + 1) else []
def stV (o s : Int) (a : Nat) : List Int := (List.range s.toNat).map fun i : Nat => nVar o s 3 a i
end Go.Proofs.YtcjnikkmjhagmaaGreatDoor
namespace Go.Proofs.YtcjnikkmjhagmaaGreatDoor
theorem phpL (n : Nat) : ∀ (f : Nat → Nat), (∀ i, i < n → f i < n) → (∀ i j, i < n → j < n → f i = f j → i = j) → ∀ k, k < n → ∃ i, i < n ∧ f i = k := by
  induction n with
  | zero => intro f _ _ k hk; omega
  | succ n ih =>
    intro f hr hi k hk
    have hg := ih (fun i => if f i = n then f n else f i) (fun i hin => by
      try dsimp only
      split
      · rename_i h
        have h1 := hr n (by omega)
        rcases Nat.lt_or_ge (f n) n with h2 | h2
        · exact h2
        · have := hi i n (by omega) (by omega) (by omega); omega
      · have := hr i (by omega); omega) (fun i j hin hjn h => by
      try dsimp only at h
      split at h <;> split at h
      · exact hi i j (by omega) (by omega) (by omega)
      · have := hi j n (by omega) (by omega) h.symm; omega
      · have := hi i n (by omega) (by omega) h; omega
      · exact hi i j (by omega) (by omega) h)
    by_cases hkn : k = n
    · subst hkn
      by_cases hfn : f k = k
      · exact ⟨k, by omega, hfn⟩
      · have h1 := hr k (by omega)
        obtain ⟨i, hin, hgi⟩ := hg (f k) (by omega)
        try dsimp only at hgi
        split at hgi
        · exact ⟨i, by omega, by assumption⟩
        · have := hi i k (by omega) (by omega) hgi; omega
    · obtain ⟨i, hin, hgi⟩ := hg k (by omega)
      try dsimp only at hgi
      split at hgi
      · exact ⟨n, by omega, hgi⟩
      · exact ⟨i, by omega, hgi⟩
def OrdL (n : Nat) (M : Nat → Nat → Bool) (l : List Int) : Prop :=
  l.length = n ∧ (∀ k, k < n → ∃ a : Nat, a < n ∧ l.getD k 0 = a ∧ ∀ b, b < n → (M b k = true ↔ b = a)) ∧ (∀ j k, j < n → k < n → l.getD j 0 = l.getD k 0 → j = k)
theorem OrdL.uniq {n : Nat} {M : Nat → Nat → Bool} {l l' : List Int} (h : OrdL n M l) (h' : OrdL n M l') : l = l' := by
  apply List.ext_getElem (h.1.trans h'.1.symm)
  intro k h1 h2
  obtain ⟨a, ha, e1, m1⟩ := h.2.1 k (by rw [← h.1]; exact h1)
  obtain ⟨b, hb, e2, m2⟩ := h'.2.1 k (by rw [← h.1]; exact h1)
  have := (m1 b hb).1 ((m2 b hb).2 rfl)
  subst this
  simpa [List.getD, h1, h2] using e1.trans e2.symm
theorem OrdL.row {n : Nat} {M : Nat → Nat → Bool} {l : List Int} (h : OrdL n M l) {a : Nat} (ha : a < n) : ∃ k, k < n ∧ l.getD k 0 = a ∧ ∀ i, i < n → (M a i = true ↔ i = k) := by
  have hs := phpL n (fun k => (l.getD k 0).toNat) (fun k hk => by
    obtain ⟨b, hb, e, _⟩ := h.2.1 k hk; omega) (fun j k hj hk e => by
    obtain ⟨b, hb, e1, _⟩ := h.2.1 j hj
    obtain ⟨c, hc, e2, _⟩ := h.2.1 k hk
    try dsimp only at e
    exact h.2.2 j k hj hk (by omega))
  obtain ⟨k, hk, hka⟩ := hs a ha
  obtain ⟨b, hb, e, hm⟩ := h.2.1 k hk
  have hba : b = a := by omega
  subst hba
  refine ⟨k, hk, e, fun i hi => ⟨fun hM => ?_, fun hik => ?_⟩⟩
  · obtain ⟨c, hc, e2, hm2⟩ := h.2.1 i hi
    have := (hm2 b hb).1 hM
    exact h.2.2 i k hi hk (by rw [e2, e, this])
  · subst hik; exact (hm b hb).2 rfl
def RowsL (n : Nat) (M : Nat → Nat → Bool) (j : Nat) (p : Nat → Nat) : Prop :=
  (∀ a, a < j → p a < n ∧ ∀ i, i < n → (M a i = true ↔ i = p a)) ∧ (∀ a b, a < j → b < j → p a = p b → a = b)
theorem RowsL.ord {n : Nat} {M : Nat → Nat → Bool} {p : Nat → Nat} (h : RowsL n M n p) {l : List Int} (hl : l.length = n) (hp : ∀ a, a < n → l.getD (p a) 0 = a) : OrdL n M l := by
  have hs := phpL n p (fun i hi => (h.1 i hi).1) h.2
  refine ⟨hl, fun k hk => ?_, fun j k hj hk e => ?_⟩
  · obtain ⟨a, ha, e⟩ := hs k hk
    refine ⟨a, ha, by rw [← e]; exact hp a ha, fun b hb => ⟨fun hM => ?_, fun hba => ?_⟩⟩
    · have := ((h.1 b hb).2 k hk).1 hM
      exact h.2 b a hb ha (by omega)
    · subst hba; exact ((h.1 b hb).2 k hk).2 e.symm
  · obtain ⟨a, ha, e1⟩ := hs j hj
    obtain ⟨b, hb, e2⟩ := hs k hk
    rw [← e1, ← e2, hp a ha, hp b hb] at e
    have : a = b := by omega
    subst this; omega
theorem RowsL.step {n : Nat} {M : Nat → Nat → Bool} {j : Nat} {p : Nat → Nat} (h : RowsL n M j p) {i : Nat} (hi : i < n) (hr : ∀ k, k < n → (M j k = true ↔ k = i)) (hnew : ∀ a, a < j → p a ≠ i) :
    RowsL n M (j + 1) (fun a => if a < j then p a else i) := by
  refine ⟨fun a ha => ?_, fun a b ha hb e => ?_⟩
  · by_cases haj : a < j
    · simp only [if_pos haj]; exact h.1 a haj
    · obtain rfl : a = j := by omega
      simp only [if_neg haj]; exact ⟨hi, hr⟩
  · by_cases haj : a < j <;> by_cases hbj : b < j
    · simp only [if_pos haj, if_pos hbj] at e; exact h.2 a b haj hbj e
    · simp only [if_pos haj, if_neg hbj] at e; exact absurd e (hnew a haj)
    · simp only [if_neg haj, if_pos hbj] at e; exact absurd e.symm (hnew b hbj)
    · omega
def tAt (M : List Bool) (v : Int) : Bool := M.getD (v - 1).toNat false
def ptF (n m : Int) (M : List Bool) (a k : Nat) : Bool := tAt M (nVar n m 1 a k)
def srF (n m : Int) (M : List Bool) (a k : Nat) : Bool := tAt M (nVar n m 3 a k)
def ooP (N : Nat) (m : Int) (M : List Bool) (a : Nat) : Nat := lastT (ptF N m M a) N
def ooU (N : Nat) (m : Int) (M : List Bool) : Nat → List Int
  | 0 => List.replicate N 0
  | k + 1 => (ooU N m M k).set (ooP N m M k) k
def ooT (N : Nat) (m : Int) (M : List Bool) : Nat → List Bool
  | 0 => List.replicate N false
  | k + 1 => (ooT N m M k).set (ooP N m M k) true
theorem ooU_len (N : Nat) (m : Int) (M : List Bool) : ∀ k, (ooU N m M k).length = N
  | 0 => by simp [ooU]
  | k + 1 => by unfold ooU; rw [List.length_set]; exact ooU_len N m M k
theorem ooT_len (N : Nat) (m : Int) (M : List Bool) : ∀ k, (ooT N m M k).length = N
  | 0 => by simp [ooT]
  | k + 1 => by unfold ooT; rw [List.length_set]; exact ooT_len N m M k
def ooG (N : Nat) (m : Int) (M : List Bool) (k : Nat) : Prop := cntT (ptF N m M k) N = 1 ∧ (ooT N m M k).getD (ooP N m M k) false = false
instance (N : Nat) (m : Int) (M : List Bool) (k : Nat) : Decidable (ooG N m M k) := by unfold ooG; infer_instance
def ooOk (n m : Int) (M : List Bool) : Prop := nOk n m ∧ (M.length : Int) = nVars n m ∧ ∀ k, k < n.toNat → ooG n.toNat m M k
instance (n m : Int) (M : List Bool) : Decidable (ooOk n m M) := by unfold ooOk; infer_instance
def ooX (n m : Int) (M : List Bool) : List Int := if ooOk n m M then ooU n.toNat m M n.toNat else []
theorem oo_no {n m : Int} {M : List Bool} (h : ¬ ooOk n m M) : ooX n m M = [] ∧ decide (ooOk n m M) = false := ⟨by unfold ooX; rw [if_neg h], decide_eq_false h⟩
theorem oo_yes {n m : Int} {M : List Bool} (h : ooOk n m M) : ooX n m M = ooU n.toNat m M n.toNat ∧ decide (ooOk n m M) = true := ⟨by unfold ooX; rw [if_pos h], decide_eq_true h⟩
theorem setG {α : Type} {xs : List α} {k j : Nat} {v d : α} (hk : k < xs.length) : (xs.set k v).getD j d = if k = j then v else xs.getD j d := by
  rw [List.getD_eq_getElem?_getD, List.getElem?_set, List.getD_eq_getElem?_getD]
  by_cases h : k = j
  · subst h; rw [if_pos rfl, if_pos hk, if_pos rfl]; rfl
  · rw [if_neg h, if_neg h]
theorem repG {α : Type} (V j : Nat) (v d : α) : (List.replicate V v).getD j d = if j < V then v else d := by
  rw [List.getD_eq_getElem?_getD, List.getElem?_replicate]; split <;> rfl
theorem one_at {B : Nat → Bool} {n : Nat} (h : cntT B n = 1) : lastT B n < n ∧ ∀ j, j < n → (B j = true ↔ j = lastT B n) := ⟨lastT_lt B n (by omega), cntT_one h⟩
theorem ooT_at {N : Nat} {m : Int} {M : List Bool} {j : Nat} : ∀ k, (∀ a, a < k → ooP N m M a < N) → ((ooT N m M k).getD j false = true ↔ ∃ a, a < k ∧ ooP N m M a = j)
  | 0, _ => by
    show (List.replicate _ false).getD _ false = true ↔ _
    rw [repG]; simp
  | k + 1, h => by
    show ((ooT N m M k).set _ true).getD j false = true ↔ _
    rw [setG (by rw [ooT_len]; exact h k (by omega))]
    have ih := ooT_at (j := j) k fun a ha => h a (by omega)
    split
    · next e => exact ⟨fun _ => ⟨k, by omega, e⟩, fun _ => rfl⟩
    · next e => rw [ih]; exact ⟨fun ⟨a, h1, h2⟩ => ⟨a, by omega, h2⟩, fun ⟨a, h1, h2⟩ => ⟨a, by rcases Nat.lt_or_ge a k with h3 | h3; exact h3; exact absurd (by rw [show k = a by omega]; exact h2) e, h2⟩⟩
theorem ooU_at {N : Nat} {m : Int} {M : List Bool} : ∀ k, (∀ a, a < k → ooP N m M a < N) → (∀ a b, a < k → b < k → ooP N m M a = ooP N m M b → a = b) → ∀ a, a < k → (ooU N m M k).getD (ooP N m M a) 0 = a
  | 0, _, _, a, ha => by omega
  | k + 1, h, hd, a, ha => by
    show ((ooU N m M k).set _ _).getD _ 0 = _
    rw [setG (by rw [ooU_len]; exact h k (by omega))]
    split
    · next e => rw [hd k a (by omega) ha e]
    · next e => exact ooU_at k (fun b hb => h b (by omega)) (fun b c hb hc => hd b c (by omega) (by omega)) a (by rcases Nat.lt_or_ge a k with h3 | h3; exact h3; exact absurd (by rw [show a = k by omega]) e)
theorem oo_rows {N : Nat} {m : Int} {M : List Bool} (h : ∀ k, k < N → ooG N m M k) : ∀ j, j ≤ N → RowsL N (ptF N m M) j (ooP N m M)
  | 0, _ => ⟨fun a ha => by omega, fun a b ha => by omega⟩
  | j + 1, hj => by
    have ih := oo_rows h j (by omega)
    have hg := h j (by omega)
    have h1 := one_at hg.1
    refine ⟨fun a ha => ?_, fun a b ha hb e => ?_⟩
    · rcases Nat.lt_or_ge a j with h3 | h3
      · exact ih.1 a h3
      · obtain rfl : a = j := by omega
        exact h1
    · have hP : ∀ a, a < j → ooP N m M a < N := fun a ha => (ih.1 a ha).1
      have hno : ∀ a, a < j → ooP N m M a ≠ ooP N m M j := fun a ha e => by
        have := (ooT_at (j := ooP N m M j) j hP).2 ⟨a, ha, e⟩
        rw [hg.2] at this; cases this
      rcases Nat.lt_or_ge a j with ha2 | ha2 <;> rcases Nat.lt_or_ge b j with hb2 | hb2
      · exact ih.2 a b ha2 hb2 e
      · obtain rfl : b = j := by omega
        exact absurd e (hno a ha2)
      · obtain rfl : a = j := by omega
        exact absurd e.symm (hno b hb2)
      · omega
theorem oo_ord {N : Nat} {m : Int} {M : List Bool} (h : ∀ k, k < N → ooG N m M k) : OrdL N (ptF N m M) (ooU N m M N) :=
  (oo_rows h N (Nat.le_refl _)).ord (ooU_len N m M N) (ooU_at N (fun a ha => ((oo_rows h N (Nat.le_refl _)).1 a ha).1) (oo_rows h N (Nat.le_refl _)).2)
def sxG (n m : Int) (M : List Bool) (a : Nat) : Prop := cntT (srF n m M a) m.toNat = 1
instance (n m : Int) (M : List Bool) (a : Nat) : Decidable (sxG n m M a) := by unfold sxG; infer_instance
def sxOk (n m : Int) (M : List Bool) : Prop := nOk n m ∧ (M.length : Int) = nVars n m ∧ ∀ a, a < n.toNat + 1 → sxG n m M a
instance (n m : Int) (M : List Bool) : Decidable (sxOk n m M) := by unfold sxOk; infer_instance
def sxR (n m : Int) (M : List Bool) (k : Nat) : List Int := (List.range k).map fun a => (lastT (srF n m M a) m.toNat : Int)
def sxX (n m : Int) (M : List Bool) : List Int := if sxOk n m M then sxR n m M (n.toNat + 1) else []
theorem sxR_len (n m : Int) (M : List Bool) (k : Nat) : (sxR n m M k).length = k := by simp [sxR]
theorem sx_no {n m : Int} {M : List Bool} (h : ¬ sxOk n m M) : sxX n m M = [] ∧ decide (sxOk n m M) = false := ⟨by unfold sxX; rw [if_neg h], decide_eq_false h⟩
theorem sx_yes {n m : Int} {M : List Bool} (h : sxOk n m M) : sxX n m M = sxR n m M (n.toNat + 1) ∧ decide (sxOk n m M) = true := ⟨by unfold sxX; rw [if_pos h], decide_eq_true h⟩
end Go.Proofs.YtcjnikkmjhagmaaGreatDoor
