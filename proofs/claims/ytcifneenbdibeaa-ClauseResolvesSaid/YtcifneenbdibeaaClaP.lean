/- Clauses, plainly: no Go, no program. -/
import Derived.Test.YtcifneenbdibeaaLitP
namespace Go.Proofs.Ytcifneenbdibeaa
set_option linter.unusedVariables false

/-- Rising by index: the one form's order. -/
def Rising (xs : List Int) : Prop := xs.Pairwise fun a b => lindex a < lindex b
/-- A literal put into its place. -/
def cPut (out : List Int) (x : Int) : List Int := out.takeWhile (fun y => decide (lindex y < lindex x)) ++ (x :: out.dropWhile (fun y => decide (lindex y < lindex x)))
def cStep (out : List Int) (x : Int) : List Int := if lvar x = 0 ∨ lhas out x = true then out else cPut out x
def cNorm (c : List Int) : List Int := c.foldl cStep []
def cHas (c : List Int) (l : Int) : Bool := decide (lvar l ≠ 0) && lhas c l
def cTaut (c : List Int) : Bool := c.any fun x => cHas c x && cHas c (-x)
def cSub (a b : List Int) : Bool := a.all fun x => decide (lvar x = 0) || lhas b x
def cWithout (c : List Int) (l : Int) : List Int := (cNorm c).filter (· != l)
def cCheck (c : List Int) (vars : Int) : Int := if vars < 0 ∨ 100000 < vars then 2 else if 1000 < c.length then 3 else if (c.all fun x => lcheck x vars == 0) = false then 10 else if c.Nodup then 0 else 21
def cResE (a b : List Int) (l : Int) : Int := if lvar l = 0 then 10 else if (cHas a l && cHas b (-l)) = false then 11 else 0
def cRes (a b : List Int) (l : Int) : List Int := if cResE a b l = 0 then cNorm (cWithout a l ++ cWithout b (-l)) else []

theorem lvar_pos {x : Int} (h : lvar x ≠ 0) : lindex x = if x < 0 then 2 * lvar x - 1 else 2 * lvar x - 2 := by unfold lindex; rw [if_neg h]
theorem lindex_inj {x y : Int} (hx : lvar x ≠ 0) (hy : lvar y ≠ 0) (h : lindex x = lindex y) : x = y := by
  rw [← lfrom_index hx, ← lfrom_index hy, h]
theorem lhas_mem (l : List Int) (x : Int) : lhas l x = true ↔ x ∈ l := by unfold lhas; rw [List.contains_iff_mem]

/-- What rises and has the same members is the same. -/
theorem rising_unique : ∀ {xs ys : List Int}, Rising xs → Rising ys → (∀ x, x ∈ xs ↔ x ∈ ys) → xs = ys
  | [], [], _, _, _ => rfl
  | [], y :: ys, _, _, h => absurd ((h y).2 (by simp)) (by simp)
  | x :: xs, [], _, _, h => absurd ((h x).1 (by simp)) (by simp)
  | x :: xs, y :: ys, hx, hy, h => by
    have hx' := List.pairwise_cons.1 hx
    have hy' := List.pairwise_cons.1 hy
    have hxy : x = y := by
      rcases List.mem_cons.1 ((h x).1 (by simp)) with e | e
      · exact e
      · rcases List.mem_cons.1 ((h y).2 (by simp)) with e' | e'
        · exact e'.symm
        · have h1 := hy'.1 x e
          have h2 := hx'.1 y e'
          omega
    subst hxy
    have ht : xs = ys := rising_unique hx'.2 hy'.2 (fun z => by
      constructor
      · intro hz
        rcases List.mem_cons.1 ((h z).1 (List.mem_cons_of_mem _ hz)) with e | e
        · subst e; have := hx'.1 z hz; omega
        · exact e
      · intro hz
        rcases List.mem_cons.1 ((h z).2 (List.mem_cons_of_mem _ hz)) with e | e
        · subst e; have := hy'.1 z hz; omega
        · exact e)
    rw [ht]

theorem cPut_mem (out : List Int) (x z : Int) : z ∈ cPut out x ↔ z = x ∨ z ∈ out := by
  have h : out.takeWhile (fun y => decide (lindex y < lindex x)) ++ out.dropWhile (fun y => decide (lindex y < lindex x)) = out := List.takeWhile_append_dropWhile
  unfold cPut
  rw [List.mem_append, List.mem_cons]
  conv => rhs; rw [← h, List.mem_append]
  constructor
  · rintro (h | h | h)
    · exact Or.inr (Or.inl h)
    · exact Or.inl h
    · exact Or.inr (Or.inr h)
  · rintro (h | h | h)
    · exact Or.inr (Or.inl h)
    · exact Or.inl h
    · exact Or.inr (Or.inr h)
theorem take_below {out : List Int} {x y : Int} (h : y ∈ out.takeWhile (fun y => decide (lindex y < lindex x))) : lindex y < lindex x := by
  induction out with
  | nil => simp at h
  | cons o os ih =>
    rw [List.takeWhile_cons] at h
    by_cases ho : lindex o < lindex x
    · rw [if_pos (decide_eq_true ho)] at h
      rcases List.mem_cons.1 h with e | e
      · rw [e]; exact ho
      · exact ih e
    · rw [if_neg (by simpa using ho)] at h; simp at h
theorem drop_above {out : List Int} (hr : Rising out) {x y : Int} (h : y ∈ out.dropWhile (fun y => decide (lindex y < lindex x))) : lindex x ≤ lindex y := by
  induction out with
  | nil => simp at h
  | cons o os ih =>
    have hr' := List.pairwise_cons.1 hr
    rw [List.dropWhile_cons] at h
    by_cases ho : lindex o < lindex x
    · rw [if_pos (decide_eq_true ho)] at h
      exact ih hr'.2 h
    · rw [if_neg (by simpa using ho)] at h
      rcases List.mem_cons.1 h with e | e
      · rw [e]; omega
      · have := hr'.1 y e; omega
theorem cPut_rising {out : List Int} (hr : Rising out) {x : Int} (hx : ∀ y ∈ out, lindex y ≠ lindex x) : Rising (cPut out x) := by
  have h : out.takeWhile (fun y => decide (lindex y < lindex x)) ++ out.dropWhile (fun y => decide (lindex y < lindex x)) = out := List.takeWhile_append_dropWhile
  have hr2 := hr
  unfold Rising at hr2
  rw [← h, List.pairwise_append] at hr2
  unfold Rising cPut
  rw [List.pairwise_append, List.pairwise_cons]
  refine ⟨hr2.1, ⟨fun y hy => ?_, hr2.2.1⟩, fun a ha b hb => ?_⟩
  · have h1 := drop_above hr hy
    have h2 := hx y (by rw [← h]; exact List.mem_append_right _ hy)
    omega
  · have h1 := take_below ha
    rcases List.mem_cons.1 hb with e | e
    · rw [e]; exact h1
    · exact hr2.2.2 a ha b e
theorem cNorm_snoc (c : List Int) (x : Int) : cNorm (c ++ [x]) = cStep (cNorm c) x := by unfold cNorm; rw [List.foldl_append]; rfl
theorem snoc_induct {p : List Int → Prop} (h0 : p []) (hs : ∀ c x, p c → p (c ++ [x])) (c : List Int) : p c := by
  have h : ∀ r : List Int, p r.reverse := fun r => by
    induction r with
    | nil => exact h0
    | cons y ys ih => rw [List.reverse_cons]; exact hs _ _ ih
  simpa using h c.reverse
theorem cNorm_mem (c : List Int) : ∀ z : Int, z ∈ cNorm c ↔ (lvar z ≠ 0 ∧ z ∈ c) := by
  induction c using snoc_induct with
  | h0 => simp [cNorm]
  | hs c x ih =>
    intro z
    rw [cNorm_snoc, List.mem_append, List.mem_singleton]
    unfold cStep
    split
    · rename_i h
      rw [ih]
      rcases h with h | h
      · constructor
        · rintro ⟨h1, h2⟩; exact ⟨h1, Or.inl h2⟩
        · rintro ⟨h1, h2 | h2⟩
          · exact ⟨h1, h2⟩
          · subst h2; exact absurd h h1
      · rw [lhas_mem, ih] at h
        constructor
        · rintro ⟨h1, h2⟩; exact ⟨h1, Or.inl h2⟩
        · rintro ⟨h1, h2 | h2⟩
          · exact ⟨h1, h2⟩
          · subst h2; exact h
    · rename_i h
      rw [cPut_mem, ih]
      constructor
      · rintro (h1 | ⟨h1, h2⟩)
        · subst h1; exact ⟨fun h0 => h (Or.inl h0), Or.inr rfl⟩
        · exact ⟨h1, Or.inl h2⟩
      · rintro ⟨h1, h2 | h2⟩
        · exact Or.inr ⟨h1, h2⟩
        · exact Or.inl h2
theorem cNorm_rising (c : List Int) : Rising (cNorm c) := by
  induction c using snoc_induct with
  | h0 => exact List.Pairwise.nil
  | hs c x ih =>
    rw [cNorm_snoc]
    unfold cStep
    split
    · exact ih
    · rename_i h
      refine cPut_rising ih (fun y hy he => h ?_)
      have hy' := (cNorm_mem c y).1 hy
      by_cases hx : lvar x = 0
      · exact Or.inl hx
      · right
        rw [← lindex_inj hy'.1 hx he, lhas_mem]
        exact hy
theorem norm_of {c xs : List Int} (hr : Rising xs) (h : ∀ z, z ∈ xs ↔ (lvar z ≠ 0 ∧ z ∈ c)) : xs = cNorm c := rising_unique hr (cNorm_rising c) (fun z => by rw [h, cNorm_mem])
theorem norm_same {a b : List Int} (h : ∀ z, lvar z ≠ 0 → (z ∈ a ↔ z ∈ b)) : cNorm a = cNorm b := norm_of (cNorm_rising a) (fun z => by
  rw [cNorm_mem]
  exact ⟨fun ⟨h1, h2⟩ => ⟨h1, (h z h1).1 h2⟩, fun ⟨h1, h2⟩ => ⟨h1, (h z h1).2 h2⟩⟩)
theorem norm_eq_iff (a b : List Int) : cNorm a = cNorm b ↔ ∀ z, lvar z ≠ 0 → (z ∈ a ↔ z ∈ b) := by
  refine ⟨fun h z hz => ?_, norm_same⟩
  have h1 := cNorm_mem a z
  have h2 := cNorm_mem b z
  rw [h] at h1
  rw [h1] at h2
  exact ⟨fun h3 => (h2.1 ⟨hz, h3⟩).2, fun h3 => (h2.2 ⟨hz, h3⟩).2⟩
theorem norm_norm (c : List Int) : cNorm (cNorm c) = cNorm c := norm_same (fun z hz => by rw [cNorm_mem]; exact ⟨fun h => h.2, fun h => ⟨hz, h⟩⟩)
theorem norm_nodup (c : List Int) : (cNorm c).Nodup := (cNorm_rising c).imp (fun {a b} h he => by rw [he] at h; omega)
/-- Without a literal: those of the list but it, in one form. -/
theorem without_eq (c : List Int) (l : Int) : cWithout c l = cNorm (c.filter (· != l)) := norm_of ((cNorm_rising c).sublist List.filter_sublist) (fun z => by
  unfold cWithout
  rw [List.mem_filter, List.mem_filter, cNorm_mem]
  exact ⟨fun ⟨⟨h1, h2⟩, h3⟩ => ⟨h1, h2, h3⟩, fun ⟨h1, h2, h3⟩ => ⟨⟨h1, h2⟩, h3⟩⟩)
theorem without_mem (c : List Int) (l z : Int) : z ∈ cWithout c l ↔ (lvar z ≠ 0 ∧ z ∈ c ∧ z ≠ l) := by
  rw [without_eq, cNorm_mem, List.mem_filter]; simp
theorem sub_iff (a b : List Int) : cSub a b = true ↔ ∀ z ∈ a, lvar z ≠ 0 → z ∈ b := by
  unfold cSub
  rw [List.all_eq_true]
  refine forall_congr' (fun z => forall_congr' (fun hz => ?_))
  rw [Bool.or_eq_true, decide_eq_true_eq, lhas_mem]
  by_cases h : lvar z = 0 <;> simp [h]
theorem has_iff (c : List Int) (l : Int) : cHas c l = true ↔ (lvar l ≠ 0 ∧ l ∈ c) := by unfold cHas; rw [Bool.and_eq_true, decide_eq_true_eq, lhas_mem]
theorem taut_iff (c : List Int) : cTaut c = true ↔ ∃ x, lvar x ≠ 0 ∧ x ∈ c ∧ -x ∈ c := by
  unfold cTaut
  rw [List.any_eq_true]
  constructor
  · rintro ⟨x, hx, h⟩
    rw [Bool.and_eq_true, has_iff, has_iff] at h
    exact ⟨x, h.1.1, hx, h.2.2⟩
  · rintro ⟨x, h1, h2, h3⟩
    refine ⟨x, h2, ?_⟩
    rw [Bool.and_eq_true, has_iff, has_iff]
    exact ⟨⟨h1, h2⟩, by unfold lvar at h1 ⊢; repeat' split at h1 <;> repeat' split <;> omega, h3⟩
/-- Two lists are the same clause just if their one forms are the same. -/
theorem same_iff (a b : List Int) : (cSub a b && cSub b a) = decide (cNorm a = cNorm b) := by
  rw [Bool.eq_iff_iff, Bool.and_eq_true, decide_eq_true_eq, sub_iff, sub_iff, norm_eq_iff]
  exact ⟨fun ⟨h1, h2⟩ z hz => ⟨fun h => h1 z h hz, fun h => h2 z h hz⟩, fun h => ⟨fun z h1 h2 => (h z h2).1 h1, fun z h1 h2 => (h z h2).2 h1⟩⟩
/-- What rises but for repeats, each of them once. -/
theorem rising_of_le {xs : List Int} (h : xs.Pairwise fun a b => lindex a ≤ lindex b) (hn : xs.Nodup) (hl : ∀ x ∈ xs, lvar x ≠ 0) : Rising xs := by
  unfold Rising
  have h2 := List.Pairwise.and h hn
  refine List.Pairwise.imp_of_mem (fun {a b} ha hb hab => ?_) h2
  rcases Int.lt_or_eq_of_le hab.1 with h3 | h3
  · exact h3
  · exact absurd (lindex_inj (hl a ha) (hl b hb) h3) hab.2
end Go.Proofs.Ytcifneenbdibeaa
