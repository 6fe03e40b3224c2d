/- Plain facts on the numbering of variables: no Go, no program. -/
namespace Go.Proofs.Ythfcbjfeepindaa

def nOk (o s : Int) : Prop := 0 ≤ o ∧ o ≤ 64 ∧ 1 ≤ s ∧ s ≤ 32
instance (o s : Int) : Decidable (nOk o s) := by unfold nOk; infer_instance
def nCheck (o s : Int) : Int := if nOk o s then 0 else 2
theorem nCheck_yes {o s : Int} (h : nOk o s) : nCheck o s = 0 := by unfold nCheck; rw [if_pos h]
theorem nCheck_no {o s : Int} (h : ¬ nOk o s) : nCheck o s = 2 := by unfold nCheck; rw [if_neg h]
def nA (o k : Int) : Int := if k = 1 then o else if k = 2 then o else if k = 3 then o + 1 else 0
def nB (o s k : Int) : Int := if k = 1 then o else if k = 2 then 1 else if k = 3 then s else 0
/-- How many names stand ahead of those of a kind. -/
def nAhead (o s k : Int) : Int := if k ≤ 1 then 0 else if k = 2 then o * o else if k = 3 then o * o + o else o * o + o + (o + 1) * s
def nVars (o s : Int) : Int := if nOk o s then nAhead o s 4 else 0
/-- Is it a name? -/
def nName (o s k a b : Int) : Prop := nOk o s ∧ 1 ≤ k ∧ k ≤ 3 ∧ 0 ≤ a ∧ a < nA o k ∧ 0 ≤ b ∧ b < nB o s k
instance (o s k a b : Int) : Decidable (nName o s k a b) := by unfold nName; infer_instance
def nVar (o s k a b : Int) : Int := if nName o s k a b then nAhead o s k + a * nB o s k + b + 1 else 0

theorem mul_bd {x y a b : Int} (hx : 0 ≤ x) (hxa : x ≤ a) (hy : 0 ≤ y) (hyb : y ≤ b) : 0 ≤ x * y ∧ x * y ≤ a * b :=
  ⟨Int.mul_nonneg hx hy, Int.mul_le_mul hxa hyb hy (by omega)⟩

theorem nOk_sq {o s : Int} (h : nOk o s) : 0 ≤ o * o ∧ o * o ≤ 4096 := by unfold nOk at h; exact mul_bd (a := 64) (b := 64) (by omega) (by omega) (by omega) (by omega)
theorem nOk_st {o s : Int} (h : nOk o s) : 0 ≤ (o + 1) * s ∧ (o + 1) * s ≤ 2080 := by unfold nOk at h; exact mul_bd (a := 65) (b := 32) (by omega) (by omega) (by omega) (by omega)
theorem nB_bd {o s : Int} (h : nOk o s) (k : Int) : 0 ≤ nB o s k ∧ nB o s k ≤ 64 := by unfold nOk at h; unfold nB; split <;> (try split) <;> (try split) <;> omega
theorem nA_bd {o s : Int} (h : nOk o s) (k : Int) : 0 ≤ nA o k ∧ nA o k ≤ 65 := by unfold nOk at h; unfold nA; split <;> (try split) <;> (try split) <;> omega
theorem nAhead_bd {o s : Int} (h : nOk o s) (k : Int) : 0 ≤ nAhead o s k ∧ nAhead o s k ≤ 6240 := by
  have h1 := nOk_sq h; have h2 := nOk_st h
  unfold nOk at h; unfold nAhead; split <;> (try split) <;> (try split) <;> omega
theorem nAhead_succ {o s k : Int} (h1 : 1 ≤ k) (h3 : k ≤ 3) : nAhead o s (k + 1) = nAhead o s k + nA o k * nB o s k := by
  have : k = 1 ∨ k = 2 ∨ k = 3 := by omega
  rcases this with rfl | rfl | rfl <;> simp [nAhead, nA, nB] <;> omega

/-- A name's number within its kind. -/
theorem rank_lt {a b A B : Int} (ha : 0 ≤ a) (hA : a < A) (hb : 0 ≤ b) (hB : b < B) : 0 ≤ a * B + b ∧ a * B + b < A * B := by
  have h1 : 0 ≤ a * B := Int.mul_nonneg ha (by omega)
  have h2 : (a + 1) * B ≤ A * B := Int.mul_le_mul_of_nonneg_right (by omega) (by omega)
  have h3 : (a + 1) * B = a * B + B := by rw [Int.add_mul, Int.one_mul]
  omega
theorem rank_div {a b B : Int} (hb : 0 ≤ b) (hB : b < B) : (a * B + b) / B = a ∧ (a * B + b) % B = b := by
  constructor
  · rw [Int.add_comm, Int.add_mul_ediv_right _ _ (by omega), Int.ediv_eq_zero_of_lt hb hB]; omega
  · rw [Int.add_comm, Int.add_mul_emod_self_right, Int.emod_eq_of_lt hb hB]

theorem nVar_bd {o s k a b : Int} (h : nName o s k a b) : nAhead o s k < nVar o s k a b ∧ nVar o s k a b ≤ nAhead o s (k + 1) ∧ nVar o s k a b - 1 - nAhead o s k = a * nB o s k + b := by
  obtain ⟨hok, h1, h3, ha, hA, hb, hB⟩ := h
  have hr := rank_lt ha hA hb hB
  rw [nAhead_succ h1 h3]
  unfold nVar; rw [if_pos ⟨hok, h1, h3, ha, hA, hb, hB⟩]; omega
theorem nAhead_mono {o s j k : Int} (h : nOk o s) (h1 : 1 ≤ j) (hjk : j ≤ k) (h4 : k ≤ 4) : nAhead o s j ≤ nAhead o s k := by
  have h1 := nOk_sq h; have h2 := nOk_st h
  unfold nOk at h
  have hj : j = 1 ∨ j = 2 ∨ j = 3 ∨ j = 4 := by omega
  have hk : k = 1 ∨ k = 2 ∨ k = 3 ∨ k = 4 := by omega
  rcases hj with rfl | rfl | rfl | rfl <;> rcases hk with rfl | rfl | rfl | rfl <;> simp [nAhead] <;> omega
theorem nVar_pos {o s k a b : Int} (h : nName o s k a b) : 1 ≤ nVar o s k a b ∧ nVar o s k a b ≤ nVars o s := by
  have hb := nVar_bd h
  obtain ⟨hok, h1, h3, _⟩ := h
  have := nAhead_bd hok k
  have h4 := nAhead_mono hok (show 1 ≤ k + 1 by omega) (show k + 1 ≤ 4 by omega) (by omega)
  unfold nVars; rw [if_pos hok]; omega
theorem nVar_zero {o s k a b : Int} : nVar o s k a b = 0 ↔ ¬ nName o s k a b := by
  constructor
  · intro h hn; have := nVar_pos hn; omega
  · intro h; unfold nVar; rw [if_neg h]

/-- The kind of a variable. -/
def nKind (o v : Int) : Int := if v ≤ o * o then 1 else if v ≤ o * o + o then 2 else 3
/-- What a variable means: the three numbers of its name. -/
def nOf (o s v : Int) : Int × Int × Int :=
  if 1 ≤ v ∧ v ≤ nVars o s then (nKind o v, (v - 1 - nAhead o s (nKind o v)) / nB o s (nKind o v), (v - 1 - nAhead o s (nKind o v)) % nB o s (nKind o v)) else (0, 0, 0)
def nOfOk (o s v : Int) : Bool := decide (1 ≤ v ∧ v ≤ nVars o s)

theorem nKind_bd {o v : Int} : 1 ≤ nKind o v ∧ nKind o v ≤ 3 := by unfold nKind; split <;> (try split) <;> omega
theorem nKind_iff {o s v k : Int} (hok : nOk o s) (h1 : 1 ≤ v) (hv : v ≤ nVars o s) (k1 : 1 ≤ k) (k3 : k ≤ 3) : nKind o v = k ↔ (nAhead o s k < v ∧ v ≤ nAhead o s (k + 1)) := by
  have h1 := nOk_sq hok; have h2 := nOk_st hok
  unfold nVars at hv; rw [if_pos hok] at hv
  unfold nOk at hok
  have hk : k = 1 ∨ k = 2 ∨ k = 3 := by omega
  have e4 : nAhead o s 4 = o * o + o + (o + 1) * s := by simp [nAhead]
  rcases hk with rfl | rfl | rfl <;> simp [nAhead] <;> unfold nKind <;> split <;> (try split) <;> omega

theorem nOf_var {o s k a b : Int} (h : nName o s k a b) : nOf o s (nVar o s k a b) = (k, a, b) := by
  have hp := nVar_pos h
  have hb := nVar_bd h
  have hk : nKind o (nVar o s k a b) = k := (nKind_iff h.1 hp.1 hp.2 h.2.1 h.2.2.1).2 ⟨hb.1, hb.2.1⟩
  have hr := rank_div (a := a) h.2.2.2.2.2.1 h.2.2.2.2.2.2
  unfold nOf; rw [if_pos hp, hk, hb.2.2, hr.1, hr.2]
theorem nOf_name {o s v : Int} (h1 : 1 ≤ v) (hv : v ≤ nVars o s) : nName o s (nOf o s v).1 (nOf o s v).2.1 (nOf o s v).2.2 ∧ nVar o s (nOf o s v).1 (nOf o s v).2.1 (nOf o s v).2.2 = v := by
  have hok : nOk o s := by
    by_cases h : nOk o s
    · exact h
    · unfold nVars at hv; rw [if_neg h] at hv; omega
  have hkb := @nKind_bd o v
  have hk := (nKind_iff hok h1 hv hkb.1 hkb.2).1 rfl
  have hs := nAhead_succ (o := o) (s := s) hkb.1 hkb.2
  have hB := nB_bd hok (nKind o v)
  have hA := nA_bd hok (nKind o v)
  unfold nOf; rw [if_pos ⟨h1, hv⟩]; dsimp only
  generalize hkk : nKind o v = k at *
  have hBp : 0 < nB o s k := by
    rcases Int.lt_or_eq_of_le hB.1 with h | h
    · exact h
    · rw [← h, Int.mul_zero] at hs; omega
  have hq : 0 ≤ v - 1 - nAhead o s k := by omega
  have hq2 : v - 1 - nAhead o s k < nA o k * nB o s k := by omega
  have e : v - 1 - nAhead o s k = (v - 1 - nAhead o s k) / nB o s k * nB o s k + (v - 1 - nAhead o s k) % nB o s k := by
    rw [Int.mul_comm]; exact (Int.mul_ediv_add_emod _ _).symm
  have m1 := Int.emod_nonneg (v - 1 - nAhead o s k) (show nB o s k ≠ 0 by omega)
  have m2 := Int.emod_lt_of_pos (v - 1 - nAhead o s k) hBp
  have hn : nName o s k ((v - 1 - nAhead o s k) / nB o s k) ((v - 1 - nAhead o s k) % nB o s k) :=
    ⟨hok, hkb.1, hkb.2, Int.ediv_nonneg hq (by omega), Int.ediv_lt_of_lt_mul hBp hq2, m1, m2⟩
  refine ⟨hn, ?_⟩
  unfold nVar; rw [if_pos hn]; omega

/-- What is known of a variable's name behind the first kinds. -/
def nStep (o s v k : Int) (n : Int × Int × Int) : Int × Int × Int := if nAhead o s k < v ∧ 0 < nB o s k then (k, (v - 1 - nAhead o s k) / nB o s k, (v - 1 - nAhead o s k) % nB o s k) else n
def nUp (o s v : Int) : Nat → Int × Int × Int
  | 0 => (0, 0, 0)
  | j + 1 => nStep o s v (j + 1 : Nat) (nUp o s v j)
theorem nUp_three {o s v : Int} (h1 : 1 ≤ v) (hv : v ≤ nVars o s) : nUp o s v 3 = nOf o s v := by
  have hok : nOk o s := by
    by_cases h : nOk o s
    · exact h
    · unfold nVars at hv; rw [if_neg h] at hv; omega
  have hkb := @nKind_bd o v
  have hk := (nKind_iff hok h1 hv hkb.1 hkb.2).1 rfl
  have hs := nAhead_succ (o := o) (s := s) hkb.1 hkb.2
  have hB := nB_bd hok (nKind o v)
  have hBp : 0 < nB o s (nKind o v) := by
    rcases Int.lt_or_eq_of_le hB.1 with h | h
    · exact h
    · rw [← h, Int.mul_zero] at hs; omega
  have hm2 := nAhead_mono hok (show 1 ≤ 2 by omega) (show 2 ≤ 3 by omega) (by omega)
  have e : nOf o s v = nStep o s v (nKind o v) (0, 0, 0) := by unfold nOf nStep; rw [if_pos ⟨h1, hv⟩, if_pos ⟨hk.1, hBp⟩]
  have hz : ∀ x, nStep o s v (nKind o v) x = nStep o s v (nKind o v) (0, 0, 0) := by intro x; unfold nStep; rw [if_pos ⟨hk.1, hBp⟩, if_pos ⟨hk.1, hBp⟩]
  rw [e]
  show nStep o s v 3 (nStep o s v 2 (nStep o s v 1 (0, 0, 0))) = _
  have hc : nKind o v = 1 ∨ nKind o v = 2 ∨ nKind o v = 3 := by omega
  rcases hc with hc | hc | hc <;> rw [hc] at hk hz ⊢
  · have n2 : ∀ x, nStep o s v 2 x = x := by intro x; unfold nStep; rw [if_neg]; simp at hk; omega
    have n3 : ∀ x, nStep o s v 3 x = x := by intro x; unfold nStep; rw [if_neg]; simp at hk; omega
    rw [n3, n2]
  · have n3 : ∀ x, nStep o s v 3 x = x := by intro x; unfold nStep; rw [if_neg]; simp at hk; omega
    rw [n3, hz]
  · rw [hz]

theorem nVar_lt {o s k a b k' a' b' : Int} (h : nName o s k a b) (h' : nName o s k' a' b') (hl : k < k' ∨ (k = k' ∧ (a < a' ∨ (a = a' ∧ b < b')))) : nVar o s k a b < nVar o s k' a' b' := by
  have v := nVar_bd h
  have v' := nVar_bd h'
  rcases hl with hl | ⟨rfl, hl⟩
  · have hm := nAhead_mono h.1 (show 1 ≤ k + 1 by have := h.2.1; omega) (show k + 1 ≤ k' by omega) (by have := h'.2.2.1; omega)
    omega
  · rcases hl with hl | ⟨rfl, hl⟩
    · have m1 : (a + 1) * nB o s k ≤ a' * nB o s k := Int.mul_le_mul_of_nonneg_right (by omega) (nB_bd h.1 k).1
      have m2 : (a + 1) * nB o s k = a * nB o s k + nB o s k := by rw [Int.add_mul, Int.one_mul]
      obtain ⟨_, _, _, _, _, hb0, hb1⟩ := h
      obtain ⟨_, _, _, _, _, hb0', hb1'⟩ := h'
      omega
    · omega
theorem nVars_nonneg (o s : Int) : 0 ≤ nVars o s ∧ nVars o s ≤ 6240 := by
  unfold nVars; split
  · rename_i h; exact nAhead_bd h 4
  · omega
end Go.Proofs.Ythfcbjfeepindaa
