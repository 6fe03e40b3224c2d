/- What layer 3's statements say, plainly. -/
import Derived.Test.YtmaaoijlchfdgaaAsgP
import Derived.Test.YtmaaoijlchfdgaaHolds
namespace Go.Proofs.Ytmaaoijlchfdgaa
set_option linter.unusedVariables false

theorem lvar_abs {x : Int} (h : lvar x ≠ 0) : lvar x = if 0 < x then x else -x := by
  have := lvar_range h
  unfold lvar at *
  repeat' split <;> omega
theorem lvar_same {x y : Int} (h : lvar x ≠ 0) (he : lvar x = lvar y) : x = y ∨ x = -y := by
  have h1 := lvar_abs h
  have h2 := lvar_abs (x := y) (by omega)
  split at h1 <;> split at h2 <;> omega
theorem lhas_iff (l : List Int) (x : Int) : lhas l x = true ↔ x ∈ l := by unfold lhas; rw [List.contains_iff_mem]
theorem lhas_app (l t : List Int) (x : Int) : lhas (l ++ t) x = (lhas l x || lhas t x) := by
  unfold lhas; rw [Bool.eq_iff_iff]; simp
theorem aCheck_iff (l : List Int) (vars : Int) : aCheck l vars = 0 ↔ (0 ≤ vars ∧ vars ≤ 100000 ∧ (∀ x ∈ l, lcheck x vars = 0) ∧ (l.map lvar).Nodup) := by
  unfold aCheck
  by_cases h1 : vars < 0 ∨ 100000 < vars
  · rw [if_pos h1]; refine ⟨fun h => by omega, fun h => by omega⟩
  · rw [if_neg h1]
    by_cases h2 : (l.all fun x => lcheck x vars == 0) = false
    · rw [if_pos h2]
      refine ⟨fun h => by omega, fun h => ?_⟩
      rw [List.all_eq_false] at h2
      obtain ⟨x, hx, hb⟩ := h2
      exact absurd (h.2.2.1 x hx) (by simpa using hb)
    · rw [if_neg h2]
      have h3 : ∀ x ∈ l, lcheck x vars = 0 := fun x hx => by
        have h4 : (l.all fun x => lcheck x vars == 0) = true := by simpa using h2
        have := (List.all_eq_true.1 h4) x hx
        simpa using this
      by_cases h4 : aDup l
      · rw [if_pos h4]; exact ⟨fun h => by omega, fun h => absurd h.2.2.2 h4⟩
      · rw [if_neg h4]; exact ⟨fun _ => ⟨by omega, by omega, h3, Classical.not_not.1 h4⟩, fun _ => rfl⟩

/-! ### a unit clause's literal -/
theorem unit_yes {l c : List Int} (h : aUnitOk l c = true) : aCl (l ++ [aUnit l c]) c = 1 := by
  obtain ⟨u, _, e, hm, hv, _⟩ := aUnit_is h
  rw [e, (aCl_iff _ _).1, aN_pos]
  refine ⟨u, hm, (aIs_iff _ _ _).2 ⟨hv, ?_⟩⟩
  unfold aVal
  rw [if_neg hv, if_pos (by rw [lhas_iff]; simp)]
theorem unit_no {l c : List Int} (h : aUnitOk l c = true) : aCl (l ++ [-aUnit l c]) c = -1 := by
  have hu := h
  obtain ⟨u, hf, e, hm, hv, h0⟩ := aUnit_is h
  rw [e]
  have h2 : aN l c 1 = 0 ∧ aN l c 0 = 1 := by unfold aUnitOk at h; exact of_decide_eq_true h
  have hu0 : u ≠ 0 := by have := lvar_range hv; omega
  have key : ∀ x ∈ c, lvar x ≠ 0 → aVal (l ++ [-u]) x = -1 := by
    intro x hx hxv
    have hone : lhas [-u] x = decide (x = -u) := by unfold lhas; rw [Bool.eq_iff_iff]; simp
    have hone2 : lhas [-u] (-x) = decide (x = u) := by unfold lhas; rw [Bool.eq_iff_iff]; simp <;> omega
    rcases aVal_cases l x with ⟨k, _⟩ | ⟨_, ⟨k1, k2⟩ | ⟨k1, k2, k3⟩ | ⟨k1, k2, k3⟩⟩
    · exact absurd k hxv
    · exact absurd ((aN_pos l c 1).2 ⟨x, hx, (aIs_iff _ _ _).2 ⟨hxv, k2⟩⟩) (by omega)
    · have hne : x ≠ -u := fun hh => by
        rw [hh, Int.neg_neg] at k2
        rcases aVal_cases l u with ⟨q, _⟩ | ⟨_, ⟨q1, q2⟩ | ⟨q1, q2, q3⟩ | ⟨q1, q2, q3⟩⟩
        · exact absurd q hv
        · omega
        · omega
        · rw [q1] at k2; cases k2
      unfold aVal
      rw [if_neg hxv, lhas_app, lhas_app, k1, k2, hone]
      simp [hne]
    · have hxu : x = u := by
        have := aUnit_at hu hx hxv k3
        rw [e] at this; exact this.symm
      subst hxu
      unfold aVal
      rw [if_neg hxv, lhas_app, lhas_app, k1, k2, hone, hone2]
      simp; omega
  rw [(aCl_iff _ _).2]
  constructor
  · rcases Nat.eq_zero_or_pos (aN (l ++ [-u]) c 1) with q | q
    · exact q
    · obtain ⟨x, hx, hi⟩ := (aN_pos _ _ _).1 q
      rw [aIs_iff] at hi
      have := key x hx hi.1; omega
  · rcases Nat.eq_zero_or_pos (aN (l ++ [-u]) c 0) with q | q
    · exact q
    · obtain ⟨x, hx, hi⟩ := (aN_pos _ _ _).1 q
      rw [aIs_iff] at hi
      have := key x hx hi.1; omega
theorem unit_check {l c : List Int} {vars : Int} (h : aUnitOk l c = true) (hl : aCheck l vars = 0) (hu : lcheck (aUnit l c) vars = 0) : aCheck (l ++ [aUnit l c]) vars = 0 := by
  obtain ⟨u, hf, e, hm, hv, h0⟩ := aUnit_is h
  rw [e] at hu ⊢
  rw [aCheck_iff] at hl ⊢
  obtain ⟨h1, h2, h3, h4⟩ := hl
  refine ⟨h1, h2, fun x hx => ?_, ?_⟩
  · rcases List.mem_append.1 hx with hx | hx
    · exact h3 x hx
    · rw [List.mem_singleton.1 hx]; exact hu
  · rw [List.map_append, List.nodup_append]
    refine ⟨h4, by simp, fun a ha b hb => ?_⟩
    simp at hb
    subst hb
    obtain ⟨y, hy, rfl⟩ := List.mem_map.1 ha
    intro he
    rcases aVal_cases l u with ⟨q, _⟩ | ⟨_, ⟨q1, q2⟩ | ⟨q1, q2, q3⟩ | ⟨q1, q2, q3⟩⟩
    · exact hv q
    · omega
    · omega
    · rcases lvar_same (x := y) (y := u) (by rw [he]; exact hv) he with k | k
      · rw [k] at hy; rw [(lhas_iff l u).2 hy] at q1; cases q1
      · rw [k] at hy; rw [(lhas_iff l (-u)).2 hy] at q2; cases q2

/-! ### the literals of truths -/
theorem aFrom_len {m : List Bool} (h : m.length ≤ 100000) : (aFrom m).length = m.length := by unfold aFrom; rw [if_neg (by omega)]; simp
theorem aFrom_at {m : List Bool} (h : m.length ≤ 100000) {i : Nat} (hi : i < m.length) : (aFrom m).getD i 0 = if m.getD i false then (i : Int) + 1 else -((i : Int) + 1) := by
  unfold aFrom; rw [if_neg (by omega)]
  simp only [List.getD_eq_getElem?_getD, List.getElem?_map, List.getElem?_range hi, Option.map_some, Option.getD_some]
  unfold lmake; rw [if_neg (by omega)]
theorem aFrom_mem {m : List Bool} (h : m.length ≤ 100000) (x : Int) : x ∈ aFrom m ↔ ∃ i, i < m.length ∧ x = if m.getD i false then (i : Int) + 1 else -((i : Int) + 1) := by
  rw [List.mem_iff_getElem]
  constructor
  · rintro ⟨i, hi, rfl⟩
    have hi2 : i < m.length := by rw [aFrom_len h] at hi; exact hi
    refine ⟨i, hi2, ?_⟩
    rw [← aFrom_at h hi2]
    simp [List.getD, hi]
  · rintro ⟨i, hi, rfl⟩
    have hi2 : i < (aFrom m).length := by rw [aFrom_len h]; exact hi
    refine ⟨i, hi2, ?_⟩
    rw [← aFrom_at h hi]
    simp [List.getD, hi2]
theorem aFrom_has {m : List Bool} (h : m.length ≤ 100000) {x : Int} (hx : lvar x ≠ 0) (hv : lvar x ≤ m.length) : lhas (aFrom m) x = (m.getD ((lvar x).toNat - 1) false == lside x) := by
  have ha := lvar_abs hx
  have hb := lvar_bd x
  have hs : lside x = decide (0 < x) := by unfold lside; simp [hx]
  rw [hs, Bool.eq_iff_iff, lhas_iff, aFrom_mem h, beq_iff_eq]
  constructor
  · rintro ⟨i, hi, e⟩
    cases hb2 : m.getD i false
    · rw [hb2] at e
      simp at e
      have hi3 : (lvar x).toNat - 1 = i := by split at ha <;> omega
      rw [hi3, hb2]
      exact (decide_eq_false (by omega)).symm
    · rw [hb2] at e
      simp at e
      have hi3 : (lvar x).toNat - 1 = i := by split at ha <;> omega
      rw [hi3, hb2]
      exact (decide_eq_true (by omega)).symm
  · intro e
    refine ⟨(lvar x).toNat - 1, by omega, ?_⟩
    rw [e]
    by_cases hp : 0 < x
    · rw [if_pos hp] at ha; rw [decide_eq_true hp]; simp; omega
    · rw [if_neg hp] at ha; rw [decide_eq_false hp]; simp; omega
theorem aFrom_full {m : List Bool} (h : m.length ≤ 100000) : aFull (aFrom m) m.length = true := by
  unfold aFull
  refine decide_eq_true ⟨by rw [aFrom_len h], ?_⟩
  rw [aCheck_iff]
  refine ⟨by omega, by omega, fun x hx => ?_, ?_⟩
  · obtain ⟨i, hi, rfl⟩ := (aFrom_mem h x).1 hx
    rw [lcheck_ok]
    have : lvar (if m.getD i false = true then (i : Int) + 1 else -((i : Int) + 1)) = (i : Int) + 1 := by unfold lvar; repeat' split <;> omega
    rw [this]; omega
  · have e : (aFrom m).map lvar = (List.range m.length).map fun i : Nat => (i : Int) + 1 := by
      unfold aFrom; rw [if_neg (by omega), List.map_map]
      apply List.map_congr_left
      intro i hi
      rw [List.mem_range] at hi
      simp only [Function.comp]
      unfold lmake; rw [if_neg (by omega)]
      unfold lvar; repeat' split <;> omega
    rw [e]
    rw [List.nodup_iff_pairwise_ne, List.pairwise_map]
    exact (List.nodup_iff_pairwise_ne.1 (List.nodup_range (n := m.length))).imp (fun {a b} hab => by omega)
theorem aFrom_model {m : List Bool} (h : m.length ≤ 100000) : aModel (aFrom m) m.length = m := by
  unfold aModel
  rw [if_neg (by omega), Int.toNat_natCast]
  apply List.ext_getElem
  · simp
  · intro i h1 h2
    rw [List.getElem_map, List.getElem_range]
    have hv : lvar ((i : Int) + 1) = (i : Int) + 1 := by unfold lvar; rw [if_pos (by omega)]
    rw [aFrom_has h (by rw [hv]; omega) (by rw [hv]; omega), hv]
    have hs : lside ((i : Int) + 1) = true := by unfold lside; rw [hv]; simp; omega
    rw [hs, show ((i : Int) + 1).toNat - 1 = i by omega]
    simp [List.getD, h2]
theorem aFrom_val {m : List Bool} (h : m.length ≤ 100000) {x : Int} (hx : lcheck x m.length = 0) : lvar x ≠ 0 ∧ aVal (aFrom m) x = if litT m x then 1 else -1 := by
  rw [lcheck_ok] at hx
  obtain ⟨_, _, hv, hb⟩ := hx
  refine ⟨hv, ?_⟩
  have hbd := lvar_bd x
  have h1 := aFrom_has h hv hb
  have h2 := aFrom_has h (x := -x) (by rw [lvar_neg]; exact hv) (by rw [lvar_neg]; exact hb)
  rw [lvar_neg] at h2
  have hs : lside (-x) = !lside x := by
    unfold lside; rw [lvar_neg]
    have := lvar_range hv
    by_cases hp : 0 < x
    · rw [decide_eq_false (by omega), decide_eq_true (by omega)]; rfl
    · rw [decide_eq_true (by omega), decide_eq_false (by omega)]; rfl
  have ht : litT m x = (m.getD ((lvar x).toNat - 1) false == lside x) := by
    unfold litT
    rw [decide_eq_true hv, decide_eq_true hb]; simp
  unfold aVal
  rw [if_neg hv, h1, h2, hs, ht]
  cases m.getD ((lvar x).toNat - 1) false <;> cases lside x <;> simp
theorem aFrom_clause {m : List Bool} (h : m.length ≤ 100000) {c : List Int} (hc : ∀ x ∈ c, lcheck x m.length = 0) : aCl (aFrom m) c = if holdsC m c then 1 else -1 := by
  cases hh : holdsC m c
  · rw [if_neg (by simp), (aCl_iff _ _).2]
    unfold holdsC at hh
    rw [List.any_eq_false] at hh
    constructor
    · rcases Nat.eq_zero_or_pos (aN (aFrom m) c 1) with q | q
      · exact q
      · obtain ⟨x, hx, hi⟩ := (aN_pos _ _ _).1 q
        rw [aIs_iff] at hi
        have := (aFrom_val h (hc x hx)).2
        rw [if_neg (hh x hx)] at this; omega
    · rcases Nat.eq_zero_or_pos (aN (aFrom m) c 0) with q | q
      · exact q
      · obtain ⟨x, hx, hi⟩ := (aN_pos _ _ _).1 q
        rw [aIs_iff] at hi
        have := (aFrom_val h (hc x hx)).2
        split at this <;> omega
  · rw [if_pos rfl, (aCl_iff _ _).1, aN_pos]
    unfold holdsC at hh
    rw [List.any_eq_true] at hh
    obtain ⟨x, hx, ht⟩ := hh
    have := aFrom_val h (hc x hx)
    rw [if_pos ht] at this
    exact ⟨x, hx, (aIs_iff _ _ _).2 this⟩
end Go.Proofs.Ytmaaoijlchfdgaa
