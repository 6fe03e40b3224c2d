/- Plain facts on the truths of states: no Go, no program. -/
import Derived.Test.YthfcbjfeepindaaNumP
import Derived.Test.YthfcbjfeepindaaPlaP
namespace Go.Proofs.Ythfcbjfeepindaa

/-- How often, and where last, a row of truths is true ahead of k. -/
def cntT (B : Nat → Bool) : Nat → Nat
  | 0 => 0
  | k + 1 => if B k = true then cntT B k + 1 else cntT B k
def lastT (B : Nat → Bool) : Nat → Nat
  | 0 => 0
  | k + 1 => if B k = true then k else lastT B k
theorem cntT_le (B : Nat → Bool) (k : Nat) : cntT B k ≤ k := by
  induction k with
  | zero => simp [cntT]
  | succ k ih => unfold cntT; split <;> omega
theorem lastT_lt (B : Nat → Bool) (k : Nat) (h : 0 < cntT B k) : lastT B k < k := by
  induction k with
  | zero => simp [cntT] at h
  | succ k ih =>
    unfold lastT; unfold cntT at h
    split
    · omega
    · rename_i hb; rw [if_neg hb] at h; have := ih h; omega
theorem lastT_le (B : Nat → Bool) (k : Nat) : lastT B k ≤ k := by
  induction k with
  | zero => simp [lastT]
  | succ k ih => unfold lastT; split <;> omega
/-- The places that are true. -/
def truesI (B : Nat → Bool) (k : Nat) : List Int := ((List.range k).filter B).map fun i : Nat => (i : Int)
theorem truesI_succ (B : Nat → Bool) (k : Nat) : truesI B (k + 1) = if B k = true then truesI B k ++ [(k : Int)] else truesI B k := by
  unfold truesI
  rw [List.range_succ, List.filter_append, List.map_append]
  by_cases h : B k = true <;> simp [List.filter_cons, h]
theorem truesI_length (B : Nat → Bool) (k : Nat) : (truesI B k).length = cntT B k := by
  induction k with
  | zero => simp [truesI, cntT]
  | succ k ih => rw [truesI_succ]; unfold cntT; split <;> simp [ih]
theorem truesI_one (B : Nat → Bool) (k : Nat) (h : cntT B k = 1) : truesI B k = [(lastT B k : Int)] := by
  induction k with
  | zero => simp [cntT] at h
  | succ k ih =>
    rw [truesI_succ]; unfold cntT at h; unfold lastT
    split
    · rename_i hb
      rw [if_pos hb] at h
      have : (truesI B k).length = 0 := by rw [truesI_length]; omega
      rw [List.length_eq_zero_iff.1 this]; rfl
    · rename_i hb
      rw [if_neg hb] at h
      exact ih h
theorem cntT_one {B : Nat → Bool} {n : Nat} (h : cntT B n = 1) : ∀ j, j < n → (B j = true ↔ j = lastT B n) := by
  induction n with
  | zero => simp [cntT] at h
  | succ n ih =>
    intro j hj
    unfold cntT at h; unfold lastT
    by_cases hb : B n = true
    · rw [if_pos hb] at h ⊢
      have h0 : ∀ m, cntT B m = 0 → ∀ i, i < m → B i = false := by
        intro m
        induction m with
        | zero => intro _ i hi; omega
        | succ m ihm =>
          intro hm i hi
          unfold cntT at hm
          by_cases hbm : B m = true
          · rw [if_pos hbm] at hm; omega
          · rw [if_neg hbm] at hm
            by_cases him : i = m
            · subst him; simpa using hbm
            · exact ihm hm i (by omega)
      by_cases hjn : j = n
      · subst hjn; simp [hb]
      · have := h0 n (by omega) j (by omega)
        simp [this, hjn]
    · rw [if_neg hb] at h ⊢
      by_cases hjn : j = n
      · subst hjn
        have := lastT_lt B j (by omega)
        constructor
        · intro h2; exact absurd h2 hb
        · intro h2; omega
      · exact ih h j (by omega)
theorem cntT_of {B : Nat → Bool} {n p : Nat} (hp : p < n) (h : ∀ j, j < n → (B j = true ↔ j = p)) : cntT B n = 1 ∧ lastT B n = p := by
  have hz : ∀ m, m ≤ p → cntT B m = 0 := by
    intro m
    induction m with
    | zero => intro _; rfl
    | succ m ih =>
      intro hm
      unfold cntT
      rw [if_neg (fun hb => by have := (h m (by omega)).1 hb; omega)]
      exact ih (by omega)
  have ho : ∀ m, p < m → m ≤ n → cntT B m = 1 ∧ lastT B m = p := by
    intro m
    induction m with
    | zero => intro h1; omega
    | succ m ih =>
      intro h1 h2
      unfold cntT lastT
      by_cases hmp : m = p
      · subst hmp
        rw [if_pos ((h m (by omega)).2 rfl), if_pos ((h m (by omega)).2 rfl), hz m (Nat.le_refl _)]
        exact ⟨rfl, rfl⟩
      · have hnb : ¬ B m = true := fun hb => hmp ((h m (by omega)).1 hb)
        rw [if_neg hnb, if_neg hnb]
        exact ih (by omega) (by omega)
  exact ho n hp (Nat.le_refl _)

/-- Is the state at place a, of these truths, state j? -/
def stB (o s : Int) (bs : List Bool) (a j : Nat) : Bool := bs.getD ((nVar o s 3 a j).toNat - 1) false
def stOk (o s : Int) (ml : Nat) (bs : List Bool) : Bool := decide (nOk o s ∧ (ml : Int) = nVars o s ∧ ∀ a, a < o.toNat + 1 → cntT (stB o s bs a) s.toNat = 1)
def stRows (o s : Int) (bs : List Bool) (k : Nat) : List Int := (List.range k).map fun a => (lastT (stB o s bs a) s.toNat : Int)
def stRow (o s : Int) (ml : Nat) (bs : List Bool) : List Int := if stOk o s ml bs = true then stRows o s bs (o.toNat + 1) else []
theorem stRows_succ (o s : Int) (bs : List Bool) (k : Nat) : stRows o s bs (k + 1) = stRows o s bs k ++ [(lastT (stB o s bs k) s.toNat : Int)] := by unfold stRows; rw [List.range_succ, List.map_append]; rfl
theorem stRows_length (o s : Int) (bs : List Bool) (k : Nat) : (stRows o s bs k).length = k := by simp [stRows]
theorem stName {n m a j : Nat} (hok : nOk n m) (ha : a < n + 1) (hj : j < m) : nName n m 3 a j := ⟨hok, by omega, by omega, by omega, by simp [nA]; omega, by omega, by simp [nB]; omega⟩
theorem stVar {n m a j : Nat} (hok : nOk n m) (ha : a < n + 1) (hj : j < m) : nVar n m 3 a j = ((n * n + n + a * m + j : Nat) : Int) + 1 := by
  unfold nVar; rw [if_pos (stName hok ha hj)]; simp [nAhead, nB]
theorem stAt_lt {n m a j : Nat} (ha : a < n + 1) (hj : j < m) : n * n + n + a * m + j < n * n + n + (n + 1) * m := by
  have h1 : (a + 1) * m ≤ (n + 1) * m := Nat.mul_le_mul_right _ (by omega)
  have h2 : (a + 1) * m = a * m + m := by rw [Nat.add_mul, Nat.one_mul]
  omega
theorem stVars {n m : Nat} (hok : nOk n m) : nVars n m = ((n * n + n + (n + 1) * m : Nat) : Int) := by
  unfold nVars; rw [if_pos hok]; simp [nAhead]
theorem stVars_le {n m : Nat} (hok : nOk n m) : n * n + n + (n + 1) * m ≤ 6240 := by
  have h1 := stVars hok; have h2 := nVars_nonneg n m; omega

/-- May a row be one of states, up to k? -/
def stMay (o s : Int) (row : List Int) (k : Nat) : Prop := ∀ a, a < k → 0 ≤ row.getD a 0 ∧ row.getD a 0 < s
instance (o s : Int) (row : List Int) (k : Nat) : Decidable (stMay o s row k) := by unfold stMay; infer_instance
def stTOk (o s : Int) (rl : Nat) (row : List Int) : Bool := decide (nOk o s ∧ (rl : Int) = o + 1 ∧ stMay o s row (o.toNat + 1))
/-- The truths that say the first k states of a row. -/
def stTs (n m : Nat) (row : List Int) (k : Nat) : List Bool := (List.range (n * n + n + (n + 1) * m)).map fun x => decide (∃ a, a < k ∧ ((x : Nat) : Int) + 1 = nVar n m 3 a (row.getD a 0))
def stTru (o s : Int) (rl : Nat) (row : List Int) : List Bool := if stTOk o s rl row = true then stTs o.toNat s.toNat row (o.toNat + 1) else []
theorem stTs_length (n m : Nat) (row : List Int) (k : Nat) : (stTs n m row k).length = n * n + n + (n + 1) * m := by simp [stTs]
theorem stTs_zero (n m : Nat) (row : List Int) : stTs n m row 0 = List.replicate (n * n + n + (n + 1) * m) false := by
  apply List.ext_getElem
  · simp [stTs]
  · intro i h1 h2; simp [stTs]
theorem stTs_set (n m : Nat) (row : List Int) (k : Nat) (hok : nOk n m) (hk : k < n + 1) (j : Nat) (hj : row.getD k 0 = j) (hjm : j < m) : stTs n m row (k + 1) = (stTs n m row k).set (n * n + n + k * m + j) true := by
  have hv := stVar hok hk hjm
  apply List.ext_getElem
  · simp [stTs]
  · intro i h1 h2
    rw [List.getElem_set]
    simp only [stTs, List.getElem_map, List.getElem_range]
    by_cases hi : n * n + n + k * m + j = i
    · rw [if_pos hi]
      simp only [decide_eq_true_eq]
      exact ⟨k, by omega, by rw [hj, hv, hi]⟩
    · rw [if_neg hi, Bool.eq_iff_iff]
      simp only [decide_eq_true_eq]
      constructor
      · rintro ⟨a, ha, e⟩
        by_cases hak : a = k
        · subst hak; rw [hj, hv] at e; omega
        · exact ⟨a, by omega, e⟩
      · rintro ⟨a, ha, e⟩; exact ⟨a, by omega, e⟩
theorem stInj {n m a j b i : Nat} (hok : nOk n m) (ha : a < n + 1) (hj : j < m) (hb : b < n + 1) (hi : i < m) (h : nVar n m 3 a j = nVar n m 3 b i) : a = b ∧ j = i := by
  have h1 := stName hok ha hj; have h2 := stName hok hb hi
  have e1 := nOf_var h1; have e2 := nOf_var h2
  rw [h, e2] at e1
  simp only [Prod.mk.injEq] at e1
  omega
theorem stVar_ne {n m a : Nat} {x : Int} (hok : nOk n m) (ha : a < n + 1) : nVar n m 3 a x ≠ 0 ↔ 0 ≤ x ∧ x < m := by
  constructor
  · intro h
    have hn : nName n m 3 a x := by
      by_cases hn : nName n m 3 a x
      · exact hn
      · exact absurd (nVar_zero.2 hn) h
    obtain ⟨_, _, _, _, _, h1, h2⟩ := hn
    simp [nB] at h2; exact ⟨h1, h2⟩
  · rintro ⟨h1, h2⟩
    obtain ⟨j, rfl⟩ : ∃ j : Nat, x = j := ⟨x.toNat, by omega⟩
    rw [stVar hok ha (by omega)]; omega
/-- The truths that say a row, one by one. -/
theorem stTs_at {n m : Nat} {row : List Int} (hok : nOk n m) {a j : Nat} (ha : a < n + 1) (hj : j < m) : (stTs n m row (n + 1)).getD (n * n + n + a * m + j) false = decide ((j : Int) = row.getD a 0) := by
  have hlt := stAt_lt (n := n) ha hj
  have hv := stVar hok ha hj
  have e0 : (stTs n m row (n + 1)).getD (n * n + n + a * m + j) false = decide (∃ a', a' < n + 1 ∧ ((n * n + n + a * m + j : Nat) : Int) + 1 = nVar n m 3 a' (row.getD a' 0)) := by
    unfold stTs
    rw [List.getD_eq_getElem?_getD, List.getElem?_map, List.getElem?_range hlt]; rfl
  rw [e0, Bool.eq_iff_iff, decide_eq_true_eq, decide_eq_true_eq]
  constructor
  · rintro ⟨b, hb, e⟩
    have h1 := (stVar_ne (x := row.getD b 0) hok hb).1 (by omega)
    obtain ⟨i, hi⟩ : ∃ i : Nat, row.getD b 0 = i := ⟨(row.getD b 0).toNat, by omega⟩
    have e2 : nVar n m 3 a j = nVar n m 3 b i := by rw [hv, ← hi]; exact e
    obtain ⟨rfl, rfl⟩ := stInj hok ha hj hb (by omega) e2
    exact hi.symm
  · intro e
    exact ⟨a, ha, by rw [← hv, e]⟩
theorem stTs_low {n m : Nat} {row : List Int} (hok : nOk n m) : (stTs n m row (n + 1)).take (n * n + n) = List.replicate (n * n + n) false := by
  apply List.ext_getElem
  · simp [stTs]
  · intro i h1 h2
    simp only [List.getElem_take, stTs, List.getElem_map, List.getElem_range, List.getElem_replicate, decide_eq_false_iff_not]
    rintro ⟨b, hb, e⟩
    have h1 := (stVar_ne (x := row.getD b 0) hok hb).1 (by omega)
    obtain ⟨q, hq⟩ : ∃ q : Nat, row.getD b 0 = q := ⟨(row.getD b 0).toNat, by omega⟩
    rw [hq, stVar hok hb (by omega)] at e
    simp at h2
    omega
theorem stTs_take {n m : Nat} {row : List Int} (hok : nOk n m) {a j : Nat} (ha : a < n + 1) (hj : j < m) : (stTs n m row (n + 1)).take (n * n + n + a * m + (j + 1)) = (stTs n m row (n + 1)).take (n * n + n + a * m + j) ++ [decide ((j : Int) = row.getD a 0)] := by
  have hlt := stAt_lt (n := n) ha hj
  rw [← Nat.add_assoc, List.take_succ_eq_append_getElem (by rw [stTs_length]; exact hlt)]
  have h := stTs_at (row := row) hok ha hj
  rw [List.getD_eq_getElem?_getD, List.getElem?_eq_getElem (by rw [stTs_length]; exact hlt)] at h
  rw [← h]; rfl

/-- The variables of the states at a place. -/
def stV (o s : Int) (a : Nat) : List Int := (List.range s.toNat).map fun i : Nat => nVar o s 3 a i
theorem stV_length (o s : Int) (a : Nat) : (stV o s a).length = s.toNat := by simp [stV]
end Go.Proofs.Ythfcbjfeepindaa
