/- What sorting by index and compacting makes of literals: their one form. No program. -/
import Derived.Test.YtcifneenbdibeaaClaP
import Derived.Sort.LotA
import Derived.Lib.SlicesCompact
import Derived.Shelf.SlSortCmp.Insertion
import Derived.Lib.Small
namespace Go.Proofs.Ytcifneenbdibeaa
open Go.Lib Go.Sort
set_option linter.unusedVariables false

theorem ltOf_int (x y : Int) : ltOf Lib.compareInt x y = decide (x < y) := by
  unfold ltOf Lib.compareInt
  by_cases h1 : x < y
  · simp [h1]
  · by_cases h2 : y < x <;> simp [h1, h2]
/-- Sorting by a number told of each. -/
theorem ltOf_key (f : Int → Int) (x y : Int) : ltOf (fun x y => Lib.compareInt (f x) (f y)) x y = decide (f x < f y) := ltOf_int (f x) (f y)
theorem swo_key (f : Int → Int) : SWO (ltOf fun x y => Lib.compareInt (f x) (f y)) where
  irrefl x := by rw [ltOf_key]; simp
  trans x y z h1 h2 := by rw [ltOf_key] at *; simp at *; omega
  ntrans x y z h1 h2 := by rw [ltOf_key] at *; simp at *; omega

theorem compact_upto {d : Array Int} (hs : ∀ i j, i < j → j < d.size → lindex d[i]! ≤ lindex d[j]!) (hl : ∀ i, i < d.size → lvar d[i]! ≠ 0) :
    ∀ n, n ≤ d.size → Rising (compactUpTo d n) ∧ ∀ z, z ∈ compactUpTo d n ↔ ∃ i, i < n ∧ z = d[i]! := by
  intro n
  induction n with
  | zero => intro _; exact ⟨by simp [compactUpTo, Rising], fun z => by simp [compactUpTo]⟩
  | succ n ih =>
    intro hn
    obtain ⟨h1, h2⟩ := ih (by omega)
    rw [compactUpTo_succ]
    by_cases hk : keeps d n = true
    · rw [if_pos hk]
      refine ⟨?_, fun z => ?_⟩
      · unfold Rising
        rw [List.pairwise_append]
        refine ⟨h1, List.pairwise_singleton _ _, fun a ha b hb => ?_⟩
        rw [List.mem_singleton] at hb; subst hb
        obtain ⟨i, hi, rfl⟩ := (h2 a).1 ha
        have hne : d[n]! ≠ d[n - 1]! := by
          unfold keeps at hk
          rcases of_decide_eq_true hk with h | h
          · omega
          · exact h
        have ha : lindex d[i]! ≤ lindex d[n - 1]! := by
          by_cases e : i = n - 1
          · rw [e]; omega
          · exact hs i (n - 1) (by omega) (by omega)
        have hb := hs (n - 1) n (by omega) (by omega)
        rcases Int.lt_or_eq_of_le hb with h | h
        · omega
        · exact absurd (lindex_inj (hl n (by omega)) (hl (n - 1) (by omega)) h.symm) hne
      · rw [List.mem_append, List.mem_singleton, h2]
        constructor
        · rintro (⟨i, hi, rfl⟩ | rfl)
          · exact ⟨i, by omega, rfl⟩
          · exact ⟨n, by omega, rfl⟩
        · rintro ⟨i, hi, rfl⟩
          by_cases e : i = n
          · exact Or.inr (by rw [e])
          · exact Or.inl ⟨i, by omega, rfl⟩
    · rw [if_neg hk, List.append_nil]
      refine ⟨h1, fun z => ?_⟩
      rw [h2]
      constructor
      · rintro ⟨i, hi, rfl⟩; exact ⟨i, by omega, rfl⟩
      · rintro ⟨i, hi, rfl⟩
        by_cases e : i = n
        · subst e
          have hne : ¬ (i = 0 ∨ d[i]! ≠ d[i - 1]!) := fun h => hk (by unfold keeps; exact decide_eq_true h)
          have h0 : i ≠ 0 := fun h => hne (Or.inl h)
          refine ⟨i - 1, by omega, ?_⟩
          by_cases h : d[i]! = d[i - 1]!
          · exact h
          · exact absurd (Or.inr h) hne
        · exact ⟨i, by omega, rfl⟩
theorem mem_arr (d : Array Int) (z : Int) : z ∈ d.toList ↔ ∃ i, i < d.size ∧ z = d[i]! := by
  rw [List.mem_iff_getElem]
  constructor
  · rintro ⟨i, hi, rfl⟩
    have hi' : i < d.size := by simpa using hi
    exact ⟨i, hi', by rw [getElem!_pos d i hi']; simp⟩
  · rintro ⟨i, hi, rfl⟩
    exact ⟨i, by simpa using hi, by rw [getElem!_pos d i hi]; simp⟩
theorem compact_norm {xs : List Int} {d' : Array Int} (hp : PermIn 0 xs.toArray.size xs.toArray d') (hs : SortedIn (ltOf fun x y => Lib.compareInt (lindex x) (lindex y)) 0 xs.toArray.size d') (hl : ∀ x ∈ xs, lvar x ≠ 0) : compactUpTo d' d'.size = cNorm xs := by
  have hsz := hp.1
  have hperm : d'.toList.Perm xs := by
    have h := hp.2.2
    have h2 : (d'.extract 0 xs.toArray.size).toList = d'.toList := by rw [← hsz]; simp
    rw [h2] at h
    simpa using h
  have hl' : ∀ i, i < d'.size → lvar d'[i]! ≠ 0 := fun i hi => hl _ (hperm.mem_iff.1 ((mem_arr d' _).2 ⟨i, hi, rfl⟩))
  have hs' : ∀ i j, i < j → j < d'.size → lindex d'[i]! ≤ lindex d'[j]! := fun i j hij hj => by
    have := hs i j (Nat.zero_le _) hij (by omega)
    rw [ltOf_key] at this
    simpa using this
  obtain ⟨h1, h2⟩ := compact_upto hs' hl' d'.size (Nat.le_refl _)
  refine norm_of h1 (fun z => ?_)
  rw [h2, ← mem_arr, hperm.mem_iff]
  exact ⟨fun h => ⟨hl z h, h⟩, fun h => h.2⟩
end Go.Proofs.Ytcifneenbdibeaa
