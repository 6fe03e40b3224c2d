import Derived.Test.YtdladbfjgkejiaaMgAI
namespace Go.Proofs.Ytdladbfjgkejiaa
set_option linter.unusedVariables false

def aVal (l : List Int) (x : Int) : Int := if lvar x = 0 then 0 else if lhas l x = true then 1 else if lhas l (-x) = true then -1 else 0
def aIs (l : List Int) (v : Int) (x : Int) : Bool := decide (lvar x ≠ 0 ∧ aVal l x = v)
/-- How many literals have the value v. -/
def aN (l c : List Int) (v : Int) : Nat := (c.filter (aIs l v)).length
def aCl (l c : List Int) : Int := if 0 < aN l c 1 then 1 else if 0 < aN l c 0 then 0 else -1
def aUnitOk (l c : List Int) : Bool := decide (aN l c 1 = 0 ∧ aN l c 0 = 1)
def aUnit (l c : List Int) : Int := if aUnitOk l c = true then (c.filter (aIs l 0)).headD 0 else 0
def aDup (l : List Int) : Prop := ¬ (l.map lvar).Nodup
instance (l : List Int) : Decidable (aDup l) := by unfold aDup; infer_instance
def aCheck (l : List Int) (vars : Int) : Int := if vars < 0 ∨ 100000 < vars then 2 else if (l.all fun x => lcheck x vars == 0) = false then 10 else if aDup l then 21 else 0
def aFull (l : List Int) (vars : Int) : Bool := decide ((l.length : Int) = vars ∧ aCheck l vars = 0)
def aModel (l : List Int) (vars : Int) : List Bool := if vars < 0 ∨ 100000 < vars then [] else (List.range vars.toNat).map fun i : Nat => lhas l ((i : Int) + 1)
def aFrom (m : List Bool) : List Int := if 100000 < m.length then [] else (List.range m.length).map fun i : Nat => lmake ((i : Int) + 1) (m.getD i false)

theorem lvar_neg (x : Int) : lvar (-x) = lvar x := by unfold lvar; repeat' split <;> omega
theorem aVal_cases (l : List Int) (x : Int) : (lvar x = 0 ∧ aVal l x = 0) ∨ (lvar x ≠ 0 ∧ ((lhas l x = true ∧ aVal l x = 1) ∨ (lhas l x = false ∧ lhas l (-x) = true ∧ aVal l x = -1) ∨ (lhas l x = false ∧ lhas l (-x) = false ∧ aVal l x = 0))) := by
  unfold aVal
  by_cases h : lvar x = 0
  · left; exact ⟨h, by rw [if_pos h]⟩
  · right
    refine ⟨h, ?_⟩
    rw [if_neg h]
    cases h1 : lhas l x <;> cases h2 : lhas l (-x) <;> simp
theorem aVal_in (l : List Int) (x : Int) : aVal l x = 1 ∨ aVal l x = -1 ∨ aVal l x = 0 := by
  rcases aVal_cases l x with h | ⟨_, h | h | h⟩ <;> omega
theorem aN_nil (l : List Int) (v : Int) : aN l [] v = 0 := rfl
theorem aN_snoc (l c : List Int) (x v : Int) : aN l (c ++ [x]) v = aN l c v + if aIs l v x = true then 1 else 0 := by
  unfold aN
  rw [List.filter_append, List.length_append]
  by_cases h : aIs l v x = true
  · rw [if_pos h]; simp [h]
  · rw [if_neg h]; simp [h]
theorem aN_cons (l c : List Int) (x v : Int) : aN l (x :: c) v = aN l c v + if aIs l v x = true then 1 else 0 := by
  unfold aN
  by_cases h : aIs l v x = true
  · rw [if_pos h]; simp [h]
  · rw [if_neg h]; simp [h]
theorem aN_le (l c : List Int) (v : Int) : aN l c v ≤ c.length := List.length_filter_le _ _
theorem aN_pos (l c : List Int) (v : Int) : 0 < aN l c v ↔ ∃ x ∈ c, aIs l v x = true := by
  unfold aN
  rw [List.length_pos_iff_exists_mem]
  simp only [List.mem_filter]
theorem aIs_iff (l : List Int) (v x : Int) : aIs l v x = true ↔ (lvar x ≠ 0 ∧ aVal l x = v) := by unfold aIs; rw [decide_eq_true_eq]
/-- How many literals there are. -/
def aLit (x : Int) : Bool := decide (lvar x ≠ 0)
def aMany (c : List Int) : Nat := (c.filter aLit).length
theorem aMany_sum (l c : List Int) : aN l c 1 + aN l c (-1) + aN l c 0 = aMany c := by
  induction c with
  | nil => rfl
  | cons x c ih =>
    rw [aN_cons, aN_cons, aN_cons]
    have hm : aMany (x :: c) = aMany c + if aLit x = true then 1 else 0 := by
      unfold aMany
      by_cases h : aLit x = true
      · rw [if_pos h]; simp [h]
      · rw [if_neg h]; simp [h]
    rw [hm]
    rcases aVal_cases l x with ⟨h, h2⟩ | ⟨h, ⟨_, h2⟩ | ⟨_, _, h2⟩ | ⟨_, _, h2⟩⟩
    all_goals
      have e1 : aIs l 1 x = decide (lvar x ≠ 0 ∧ aVal l x = 1) := rfl
      have e2 : aIs l (-1) x = decide (lvar x ≠ 0 ∧ aVal l x = -1) := rfl
      have e3 : aIs l 0 x = decide (lvar x ≠ 0 ∧ aVal l x = 0) := rfl
      have e4 : aLit x = decide (lvar x ≠ 0) := rfl
      rw [h2] at e1 e2 e3
      simp [h] at e1 e2 e3 e4
      rw [e1, e2, e3, e4]
      simp
      try omega
theorem aMany_snoc (c : List Int) (x : Int) : aMany (c ++ [x]) = aMany c + if lvar x ≠ 0 then 1 else 0 := by
  unfold aMany
  rw [List.filter_append, List.length_append]
  by_cases h : lvar x = 0 <;> simp [aLit, h]
/-- The one open literal. -/
theorem aUnit_is {l c : List Int} (h : aUnitOk l c = true) : ∃ u, c.filter (aIs l 0) = [u] ∧ aUnit l c = u ∧ u ∈ c ∧ lvar u ≠ 0 ∧ aVal l u = 0 := by
  have h2 : aN l c 1 = 0 ∧ aN l c 0 = 1 := by unfold aUnitOk at h; exact of_decide_eq_true h
  obtain ⟨u, hu⟩ := List.length_eq_one_iff.1 h2.2
  have hm : u ∈ c.filter (aIs l 0) := by rw [hu]; simp
  rw [List.mem_filter, aIs_iff] at hm
  exact ⟨u, hu, by unfold aUnit; rw [if_pos h, hu]; rfl, hm.1, hm.2.1, hm.2.2⟩
theorem aUnit_at {l c : List Int} (h : aUnitOk l c = true) {x : Int} (hx : x ∈ c) (hv : lvar x ≠ 0) (h0 : aVal l x = 0) : aUnit l c = x := by
  obtain ⟨u, hu, e, _⟩ := aUnit_is h
  have hm : x ∈ c.filter (aIs l 0) := List.mem_filter.2 ⟨hx, (aIs_iff _ _ _).2 ⟨hv, h0⟩⟩
  rw [hu] at hm
  rw [e]; exact (List.mem_singleton.1 hm).symm
theorem aCl_iff (l c : List Int) : (aCl l c = 1 ↔ 0 < aN l c 1) ∧ (aCl l c = -1 ↔ (aN l c 1 = 0 ∧ aN l c 0 = 0)) := by
  unfold aCl
  repeat' split <;> omega
end Go.Proofs.Ytdladbfjgkejiaa
namespace Go.Proofs.Ytdladbfjgkejiaa
set_option linter.unusedVariables false

/-- Rising by index: the one form's order. -/
def Rising (xs : List Int) : Prop := xs.Pairwise fun a b => lindex a < lindex b
/-- A literal put into its place. -/
def cPut (out : List Int) (x : Int) : List Int := out.takeWhile (fun y => decide (lindex y < lindex x)) ++ (x :: out.dropWhile (fun y => decide (lindex y < lindex x)))
def cStep (out : List Int) (x : Int) : List Int := if lvar x = 0 ∨ lhas out x = true then out else cPut out x
def cNorm (c : List Int) : List Int := c.foldl cStep []
def cHas (c : List Int) (l : Int) : Bool := decide (lvar l ≠ 0) && lhas c l
def cTaut (c : List Int) : Bool := c.any fun x => cHas c x && cHas c (-x)
def cSub (a b : List Int) : Bool := a.all fun x => decide (lvar x = 0) || lhas b x
def cWithout (c : List Int) (l : Int) : List Int := (cNorm c).filter (· != l)
def cCheck (c : List Int) (vars : Int) : Int := if vars < 0 ∨ 100000 < vars then 2 else if 1000 < c.length then 3 else if (c.all fun x => lcheck x vars == 0) = false then 10 else if c.Nodup then 0 else 21
def cResE (a b : List Int) (l : Int) : Int := if lvar l = 0 then 10 else if (cHas a l && cHas b (-l)) = false then 11 else 0
def cRes (a b : List Int) (l : Int) : List Int := if cResE a b l = 0 then cNorm (cWithout a l ++ cWithout b (-l)) else []

theorem lvar_pos {x : Int} (h : lvar x ≠ 0) : lindex x = if x < 0 then 2 * lvar x - 1 else 2 * lvar x - 2 := by unfold lindex; rw [if_neg h]
theorem lindex_inj {x y : Int} (hx : lvar x ≠ 0) (hy : lvar y ≠ 0) (h : lindex x = lindex y) : x = y := by
  rw [← lfrom_index hx, ← lfrom_index hy, h]
theorem lhas_mem (l : List Int) (x : Int) : lhas l x = true ↔ x ∈ l := by unfold lhas; rw [List.contains_iff_mem]

/-- What rises and has the same members is the same. -/
theorem rising_unique : ∀ {xs ys : List Int}, Rising xs → Rising ys → (∀ x, x ∈ xs ↔ x ∈ ys) → xs = ys
  | [], [], _, _, _ => rfl
  | [], y :: ys, _, _, h => absurd ((h y).2 (by simp)) (by simp)
  | x :: xs, [], _, _, h => absurd ((h x).1 (by simp)) (by simp)
  | x :: xs, y :: ys, hx, hy, h => by
    have hx' := List.pairwise_cons.1 hx
    have hy' := List.pairwise_cons.1 hy
    have hxy : x = y := by
      rcases List.mem_cons.1 ((h x).1 (by simp)) with e | e
      · exact e
      · rcases List.mem_cons.1 ((h y).2 (by simp)) with e' | e'
        · exact e'.symm
        · have h1 := hy'.1 x e
          have h2 := hx'.1 y e'
          omega
    subst hxy
    have ht : xs = ys := rising_unique hx'.2 hy'.2 (fun z => by
      constructor
      · intro hz
        rcases List.mem_cons.1 ((h z).1 (List.mem_cons_of_mem _ hz)) with e | e
        · subst e; have := hx'.1 z hz; omega
        · exact e
      · intro hz
        rcases List.mem_cons.1 ((h z).2 (List.mem_cons_of_mem _ hz)) with e | e
        · subst e; have := hy'.1 z hz; omega
        · exact e)
    rw [ht]

theorem cPut_mem (out : List Int) (x z : Int) : z ∈ cPut out x ↔ z = x ∨ z ∈ out := by
  have h : out.takeWhile (fun y => decide (lindex y < lindex x)) ++ out.dropWhile (fun y => decide (lindex y < lindex x)) = out := List.takeWhile_append_dropWhile
  unfold cPut
  rw [List.mem_append, List.mem_cons]
  conv => rhs; rw [← h, List.mem_append]
  constructor
  · rintro (h | h | h)
    · exact Or.inr (Or.inl h)
    · exact Or.inl h
    · exact Or.inr (Or.inr h)
  · rintro (h | h | h)
    · exact Or.inr (Or.inl h)
    · exact Or.inl h
    · exact Or.inr (Or.inr h)
theorem take_below {out : List Int} {x y : Int} (h : y ∈ out.takeWhile (fun y => decide (lindex y < lindex x))) : lindex y < lindex x := by
  induction out with
  | nil => simp at h
  | cons o os ih =>
    rw [List.takeWhile_cons] at h
    by_cases ho : lindex o < lindex x
    · rw [if_pos (decide_eq_true ho)] at h
      rcases List.mem_cons.1 h with e | e
      · rw [e]; exact ho
      · exact ih e
    · rw [if_neg (by simpa using ho)] at h; simp at h
theorem drop_above {out : List Int} (hr : Rising out) {x y : Int} (h : y ∈ out.dropWhile (fun y => decide (lindex y < lindex x))) : lindex x ≤ lindex y := by
  induction out with
  | nil => simp at h
  | cons o os ih =>
    have hr' := List.pairwise_cons.1 hr
    rw [List.dropWhile_cons] at h
    by_cases ho : lindex o < lindex x
    · rw [if_pos (decide_eq_true ho)] at h
      exact ih hr'.2 h
    · rw [if_neg (by simpa using ho)] at h
      rcases List.mem_cons.1 h with e | e
      · rw [e]; omega
      · have := hr'.1 y e; omega
theorem cPut_rising {out : List Int} (hr : Rising out) {x : Int} (hx : ∀ y ∈ out, lindex y ≠ lindex x) : Rising (cPut out x) := by
  have h : out.takeWhile (fun y => decide (lindex y < lindex x)) ++ out.dropWhile (fun y => decide (lindex y < lindex x)) = out := List.takeWhile_append_dropWhile
  have hr2 := hr
  unfold Rising at hr2
  rw [← h, List.pairwise_append] at hr2
  unfold Rising cPut
  rw [List.pairwise_append, List.pairwise_cons]
  refine ⟨hr2.1, ⟨fun y hy => ?_, hr2.2.1⟩, fun a ha b hb => ?_⟩
  · have h1 := drop_above hr hy
    have h2 := hx y (by rw [← h]; exact List.mem_append_right _ hy)
    omega
  · have h1 := take_below ha
    rcases List.mem_cons.1 hb with e | e
    · rw [e]; exact h1
    · exact hr2.2.2 a ha b e
theorem cNorm_snoc (c : List Int) (x : Int) : cNorm (c ++ [x]) = cStep (cNorm c) x := by unfold cNorm; rw [List.foldl_append]; rfl
theorem snoc_induct {p : List Int → Prop} (h0 : p []) (hs : ∀ c x, p c → p (c ++ [x])) (c : List Int) : p c := by
  have h : ∀ r : List Int, p r.reverse := fun r => by
    induction r with
    | nil => exact h0
    | cons y ys ih => rw [List.reverse_cons]; exact hs _ _ ih
  simpa using h c.reverse
theorem cNorm_mem (c : List Int) : ∀ z : Int, z ∈ cNorm c ↔ (lvar z ≠ 0 ∧ z ∈ c) := by
  induction c using snoc_induct with
  | h0 => simp [cNorm]
  | hs c x ih =>
    intro z
    rw [cNorm_snoc, List.mem_append, List.mem_singleton]
    unfold cStep
    split
    · rename_i h
      rw [ih]
      rcases h with h | h
      · constructor
        · rintro ⟨h1, h2⟩; exact ⟨h1, Or.inl h2⟩
        · rintro ⟨h1, h2 | h2⟩
          · exact ⟨h1, h2⟩
          · subst h2; exact absurd h h1
      · rw [lhas_mem, ih] at h
        constructor
        · rintro ⟨h1, h2⟩; exact ⟨h1, Or.inl h2⟩
        · rintro ⟨h1, h2 | h2⟩
          · exact ⟨h1, h2⟩
          · subst h2; exact h
    · rename_i h
      rw [cPut_mem, ih]
      constructor
      · rintro (h1 | ⟨h1, h2⟩)
        · subst h1; exact ⟨fun h0 => h (Or.inl h0), Or.inr rfl⟩
        · exact ⟨h1, Or.inl h2⟩
      · rintro ⟨h1, h2 | h2⟩
        · exact Or.inr ⟨h1, h2⟩
        · exact Or.inl h2
theorem cNorm_rising (c : List Int) : Rising (cNorm c) := by
  induction c using snoc_induct with
  | h0 => exact List.Pairwise.nil
  | hs c x ih =>
    rw [cNorm_snoc]
    unfold cStep
    split
    · exact ih
    · rename_i h
      refine cPut_rising ih (fun y hy he => h ?_)
      have hy' := (cNorm_mem c y).1 hy
      by_cases hx : lvar x = 0
      · exact Or.inl hx
      · right
        rw [← lindex_inj hy'.1 hx he, lhas_mem]
        exact hy
theorem norm_of {c xs : List Int} (hr : Rising xs) (h : ∀ z, z ∈ xs ↔ (lvar z ≠ 0 ∧ z ∈ c)) : xs = cNorm c := rising_unique hr (cNorm_rising c) (fun z => by rw [h, cNorm_mem])
theorem norm_same {a b : List Int} (h : ∀ z, lvar z ≠ 0 → (z ∈ a ↔ z ∈ b)) : cNorm a = cNorm b := norm_of (cNorm_rising a) (fun z => by
  rw [cNorm_mem]
  exact ⟨fun ⟨h1, h2⟩ => ⟨h1, (h z h1).1 h2⟩, fun ⟨h1, h2⟩ => ⟨h1, (h z h1).2 h2⟩⟩)
theorem norm_eq_iff (a b : List Int) : cNorm a = cNorm b ↔ ∀ z, lvar z ≠ 0 → (z ∈ a ↔ z ∈ b) := by
  refine ⟨fun h z hz => ?_, norm_same⟩
  have h1 := cNorm_mem a z
  have h2 := cNorm_mem b z
  rw [h] at h1
  rw [h1] at h2
  exact ⟨fun h3 => (h2.1 ⟨hz, h3⟩).2, fun h3 => (h2.2 ⟨hz, h3⟩).2⟩
theorem norm_norm (c : List Int) : cNorm (cNorm c) = cNorm c := norm_same (fun z hz => by rw [cNorm_mem]; exact ⟨fun h => h.2, fun h => ⟨hz, h⟩⟩)
theorem norm_nodup (c : List Int) : (cNorm c).Nodup := (cNorm_rising c).imp (fun {a b} h he => by rw [he] at h; omega)
/-- Without a literal: those of the list but it, in one form. -/
theorem without_eq (c : List Int) (l : Int) : cWithout c l = cNorm (c.filter (· != l)) := norm_of ((cNorm_rising c).sublist List.filter_sublist) (fun z => by
  unfold cWithout
  rw [List.mem_filter, List.mem_filter, cNorm_mem]
  exact ⟨fun ⟨⟨h1, h2⟩, h3⟩ => ⟨h1, h2, h3⟩, fun ⟨h1, h2, h3⟩ => ⟨⟨h1, h2⟩, h3⟩⟩)
theorem without_mem (c : List Int) (l z : Int) : z ∈ cWithout c l ↔ (lvar z ≠ 0 ∧ z ∈ c ∧ z ≠ l) := by
  rw [without_eq, cNorm_mem, List.mem_filter]; simp
theorem sub_iff (a b : List Int) : cSub a b = true ↔ ∀ z ∈ a, lvar z ≠ 0 → z ∈ b := by
  unfold cSub
  rw [List.all_eq_true]
  refine forall_congr' (fun z => forall_congr' (fun hz => ?_))
  rw [Bool.or_eq_true, decide_eq_true_eq, lhas_mem]
  by_cases h : lvar z = 0 <;> simp [h]
theorem has_iff (c : List Int) (l : Int) : cHas c l = true ↔ (lvar l ≠ 0 ∧ l ∈ c) := by unfold cHas; rw [Bool.and_eq_true, decide_eq_true_eq, lhas_mem]
theorem taut_iff (c : List Int) : cTaut c = true ↔ ∃ x, lvar x ≠ 0 ∧ x ∈ c ∧ -x ∈ c := by
  unfold cTaut
  rw [List.any_eq_true]
  constructor
  · rintro ⟨x, hx, h⟩
    rw [Bool.and_eq_true, has_iff, has_iff] at h
    exact ⟨x, h.1.1, hx, h.2.2⟩
  · rintro ⟨x, h1, h2, h3⟩
    refine ⟨x, h2, ?_⟩
    rw [Bool.and_eq_true, has_iff, has_iff]
    exact ⟨⟨h1, h2⟩, by unfold lvar at h1 ⊢; repeat' split at h1 <;> repeat' split <;> omega, h3⟩
/-- Two lists are the same clause just if their one forms are the same. -/
theorem same_iff (a b : List Int) : (cSub a b && cSub b a) = decide (cNorm a = cNorm b) := by
  rw [Bool.eq_iff_iff, Bool.and_eq_true, decide_eq_true_eq, sub_iff, sub_iff, norm_eq_iff]
  exact ⟨fun ⟨h1, h2⟩ z hz => ⟨fun h => h1 z h hz, fun h => h2 z h hz⟩, fun h => ⟨fun z h1 h2 => (h z h2).1 h1, fun z h1 h2 => (h z h2).2 h1⟩⟩
/-- What rises but for repeats, each of them once. -/
theorem rising_of_le {xs : List Int} (h : xs.Pairwise fun a b => lindex a ≤ lindex b) (hn : xs.Nodup) (hl : ∀ x ∈ xs, lvar x ≠ 0) : Rising xs := by
  unfold Rising
  have h2 := List.Pairwise.and h hn
  refine List.Pairwise.imp_of_mem (fun {a b} ha hb hab => ?_) h2
  rcases Int.lt_or_eq_of_le hab.1 with h3 | h3
  · exact h3
  · exact absurd (lindex_inj (hl a ha) (hl b hb) h3) hab.2
end Go.Proofs.Ytdladbfjgkejiaa
namespace Go.Proofs.Ytdladbfjgkejiaa
set_option linter.unusedVariables false

/-- What a table's truths say of a literal. -/
def tOf (bs : List Bool) (x : Int) : Bool := decide (0 ≤ lindex x ∧ (lindex x).toNat < bs.length) && bs.getD (lindex x).toNat false
/-- The truths are those of the literals of a list. -/
def Rep (bs : List Bool) (l : List Int) : Prop := ∀ x, lvar x ≠ 0 → tOf bs x = lhas l x
theorem lindex_nat {x : Int} (h : lvar x ≠ 0) : ∃ n : Nat, lindex x = (n : Int) ∧ n < 200000 := by
  have h1 := lindex_bd x
  have h2 := lvar_bd x
  have h3 := lvar_pos h
  have : 0 ≤ lindex x := by rw [h3]; split <;> omega
  exact ⟨(lindex x).toNat, by omega, by omega⟩
theorem xor_one (n : Nat) : n ^^^ 1 = if n % 2 = 0 then n + 1 else n - 1 := by
  have h1 : (n ^^^ 1) / 2 = n / 2 := by
    have := Nat.xor_div_two (a := n) (b := 1)
    rw [this]; simp
  have h2 : (n ^^^ 1) % 2 = (n + 1) % 2 := by
    have := Nat.xor_mod_two_pow (a := n) (b := 1) (n := 1)
    simp only [Nat.pow_one] at this
    rw [this]
    rcases Nat.mod_two_eq_zero_or_one n with h | h
    · rw [h, show (n + 1) % 2 = 1 by omega]; rfl
    · rw [h, show (n + 1) % 2 = 0 by omega]; rfl
  split <;> omega
theorem lindex_neg {x : Int} (h : lvar x ≠ 0) {n : Nat} (hn : lindex x = (n : Int)) : lindex (-x) = ((n ^^^ 1 : Nat) : Int) := by
  have hr := lvar_range h
  have hv := lvar_neg x
  have h2 : lvar (-x) ≠ 0 := by rw [hv]; exact h
  have h3 := lvar_pos h
  have h4 := lvar_pos h2
  have hp := lvar_bd x
  rw [hv] at h4
  rw [xor_one]
  split at h3 <;> split at h4 <;> split <;> omega
theorem tOf_at {bs : List Bool} {x : Int} {n : Nat} (hn : lindex x = (n : Int)) : tOf bs x = (decide (n < bs.length) && bs.getD n false) := by
  unfold tOf
  rw [hn]
  congr 1
  · rw [decide_eq_decide]; simp
theorem aVal_tab {bs : List Bool} {l : List Int} (hr : Rep bs l) (x : Int) : aVal l x = if lvar x = 0 then 0 else if tOf bs x = true then 1 else if tOf bs (-x) = true then -1 else 0 := by
  unfold aVal
  by_cases h : lvar x = 0
  · rw [if_pos h, if_pos h]
  · have h2 : lvar (-x) ≠ 0 := by rw [lvar_neg]; exact h
    rw [if_neg h, if_neg h, hr x h, hr (-x) h2]
/-- One literal more. -/
theorem Rep.add {bs : List Bool} {l : List Int} (hr : Rep bs l) {x : Int} {n : Nat} (hv : lvar x ≠ 0) (hn : lindex x = (n : Int)) (hlt : n < bs.length) : Rep (bs.set n true) (l ++ [x]) := fun y hy => by
  obtain ⟨k, hk, _⟩ := lindex_nat hy
  have h0 := hr y hy
  rw [tOf_at hk] at h0
  rw [tOf_at hk, List.length_set, lhas_snoc, ← h0]
  by_cases h : y = x
  · subst h
    have : k = n := by omega
    subst this
    simp [List.getD, hlt]
  · have hne : k ≠ n := fun e => h (lindex_inj hy hv (by rw [hk, hn, e]))
    have h1 : (y == x) = false := by simpa using h
    rw [h1, Bool.or_false]
    simp [List.getD, Ne.symm hne]
theorem Rep.skip {bs : List Bool} {l : List Int} (hr : Rep bs l) {x : Int} (hv : lvar x = 0) : Rep bs (l ++ [x]) := fun y hy => by
  rw [lhas_snoc, hr y hy]
  have : (y == x) = false := by simpa using fun e : y = x => hy (e ▸ hv)
  rw [this, Bool.or_false]
theorem Rep.zeros (n : Nat) : Rep (List.replicate n false) [] := fun y hy => by
  obtain ⟨k, hk, _⟩ := lindex_nat hy
  rw [tOf_at hk]
  have : (List.replicate n false).getD k false = false := by
    simp only [List.getD, List.getElem?_replicate]
    split <;> rfl
  rw [this, Bool.and_false]; rfl
theorem most_ge {l : List Int} {x : Int} (h : x ∈ l) : lvar x ≤ lmost l := by
  induction l using snoc_induct with
  | h0 => cases h
  | hs c z ih =>
    rw [lmost_snoc]
    rcases List.mem_append.1 h with h | h
    · have := ih h; omega
    · rw [List.mem_singleton] at h; subst h; omega
theorem most_index {l : List Int} {x : Int} (h : x ∈ l) (hv : lvar x ≠ 0) : lindex x < 2 * lmost l := by
  have h1 := most_ge h
  have h2 := lvar_pos hv
  have h3 := lvar_bd x
  split at h2 <;> omega
end Go.Proofs.Ytdladbfjgkejiaa
