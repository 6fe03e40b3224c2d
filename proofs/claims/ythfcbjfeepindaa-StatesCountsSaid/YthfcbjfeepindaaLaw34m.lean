/- Plain facts on the clauses of states. -/
import Derived.Test.YthfcbjfeepindaaStaC
import Derived.Test.YthfcbjfeepindaaLaw32c
import Derived.Test.YthfcbjfeepindaaLaw32e
namespace Go.Proofs.Ythfcbjfeepindaa
open Go.RowKit
set_option linter.unusedVariables false
set_option linter.unusedSimpArgs false

theorem stV_at {n m a i : Nat} (hok : nOk n m) (ha : a < n + 1) (hi : i < m) : (stV n m a).getD i 0 = ((n * n + n + a * m + i : Nat) : Int) + 1 := by
  rw [← stVar hok ha hi]; simp [stV, List.getD, hi]
theorem stB_at {n m a j : Nat} {bs : List Bool} (hok : nOk n m) (ha : a < n + 1) (hj : j < m) : stB n m bs a j = bs.getD (n * n + n + a * m + j) false := by
  unfold stB; rw [stVar hok ha hj]; congr 1
/-- The clauses of a place hold just if one state is there. -/
theorem stPart_holds {n m a : Nat} {bs : List Bool} (hok : nOk n m) (hb : (bs.length : Int) = nVars n m) (ha : a < n + 1) : (∀ c ∈ stPart n m a, holdsC bs c = true) ↔ cntT (stB n m bs a) m = 1 := by
  have hv := stVars hok
  have hV6 := stVars_le hok
  have hV : ∀ i, i < m → n * n + n + a * m + i < bs.length := fun i hi => by have := stAt_lt (n := n) ha hi; omega
  have hx : ∀ i, i < m → (stV n m a).getD i 0 = ((n * n + n + a * m + i : Nat) : Int) + 1 ∧ n * n + n + a * m + i < bs.length ∧ n * n + n + a * m + i < 100000 - 1 := fun i hi => ⟨stV_at hok ha hi, hV i hi, by have := hV i hi; omega⟩
  have hlen : (stV n m a).length = m := by rw [stV_length, Int.toNat_natCast]
  have hR : holdsC bs (stV n m a) = true ↔ ∃ i, i < m ∧ stB n m bs a i = true := by
    unfold holdsC
    rw [List.any_eq_true]
    constructor
    · rintro ⟨x, hxm, ht⟩
      obtain ⟨i, hi, e⟩ := List.mem_iff_getElem.1 hxm
      rw [hlen] at hi
      obtain ⟨e1, b1, c1⟩ := hx i hi
      have e2 : (stV n m a).getD i 0 = x := by
        rw [List.getD_eq_getElem?_getD, List.getElem?_eq_getElem (by rw [hlen]; exact hi)]; simpa using e
      rw [← e2, e1, litT_pos b1 (by omega)] at ht
      exact ⟨i, hi, by rw [stB_at hok ha hi]; exact ht⟩
    · rintro ⟨i, hi, hM⟩
      obtain ⟨e1, b1, c1⟩ := hx i hi
      refine ⟨(stV n m a).getD i 0, ?_, ?_⟩
      · rw [List.getD_eq_getElem?_getD, List.getElem?_eq_getElem (by rw [hlen]; exact hi)]; simp
      · rw [e1, litT_pos b1 (by omega), ← stB_at hok ha hi]; exact hM
  have hM := most_holds bs m (stV n m a) (fun i => n * n + n + a * m + i) hlen hx
  have hA : (∀ c ∈ stPart n m a, holdsC bs c = true) ↔ (∃ i, i < m ∧ stB n m bs a i = true) ∧ ∀ i j, i < j → j < m → ¬ (stB n m bs a i = true ∧ stB n m bs a j = true) := by
    unfold stPart
    constructor
    · intro h
      refine ⟨hR.1 (h _ (by simp)), fun i j hij hj hb2 => ?_⟩
      refine hM.1 (fun c hc => h c (by simp [hc])) i j hij hj ?_
      rw [← stB_at hok ha (by omega), ← stB_at hok ha hj]; exact hb2
    · rintro ⟨h1, h2⟩ c hc
      rcases List.mem_cons.1 hc with rfl | hc
      · exact hR.2 h1
      · refine hM.2 (fun i j hij hj hb2 => h2 i j hij hj ?_) c hc
        rw [stB_at hok ha (by omega), stB_at hok ha hj]; exact hb2
  rw [hA]
  constructor
  · rintro ⟨⟨p, hp, hBp⟩, h2⟩
    refine (cntT_of hp (fun j hj => ⟨fun hBj => ?_, fun e => by rw [e]; exact hBp⟩)).1
    rcases Nat.lt_trichotomy j p with h | h | h
    · exact absurd ⟨hBj, hBp⟩ (h2 j p h hp)
    · exact h
    · exact absurd ⟨hBp, hBj⟩ (h2 p j h hj)
  · intro h
    have h1 := cntT_one h
    have h2 := lastT_lt (stB n m bs a) m (by omega)
    refine ⟨⟨_, h2, (h1 _ h2).2 rfl⟩, fun i j hij hj hb2 => ?_⟩
    have e1 := (h1 i (by omega)).1 hb2.1
    have e2 := (h1 j hj).1 hb2.2
    omega
theorem stC_holds {n m q : Nat} {bs : List Bool} (hok : nOk n m) (hb : (bs.length : Int) = nVars n m) (hq : q < m) : (∀ c ∈ stC n m q, holdsC bs c = true) ↔ (∀ a, a < n + 1 → cntT (stB n m bs a) m = 1) ∧ lastT (stB n m bs 0) m = q := by
  have hv := stVars hok
  have hV6 := stVars_le hok
  have hq1 := stAt_lt (n := n) (a := 0) (by omega) hq
  have h0 : holdsC bs [nVar n m 3 0 q] = true ↔ stB n m bs 0 q = true := by
    have e1 : nVar n m 3 0 q = ((n * n + n + 0 * m + q : Nat) : Int) + 1 := stVar hok (a := 0) (by omega) hq
    have e2 := stB_at (bs := bs) hok (a := 0) (by omega) hq
    rw [e2, e1]
    unfold holdsC
    simp only [List.any_cons, List.any_nil, Bool.or_false]
    rw [litT_pos (by omega) (by omega)]
  have hA : (∀ c ∈ stC n m q, holdsC bs c = true) ↔ stB n m bs 0 q = true ∧ ∀ a, a < n + 1 → ∀ c ∈ stPart n m a, holdsC bs c = true := by
    unfold stC stUp
    rw [Int.toNat_natCast]
    constructor
    · intro h
      exact ⟨h0.1 (h _ (by simp)), fun a ha c hc => h c (List.mem_cons_of_mem _ (List.mem_flatMap.2 ⟨a, List.mem_range.2 ha, hc⟩))⟩
    · rintro ⟨h1, h2⟩ c hc
      rcases List.mem_cons.1 hc with rfl | hc
      · exact h0.2 h1
      · obtain ⟨a, ha, hc⟩ := List.mem_flatMap.1 hc
        exact h2 a (List.mem_range.1 ha) c hc
  rw [hA]
  constructor
  · rintro ⟨h1, h2⟩
    have h3 : ∀ a, a < n + 1 → cntT (stB n m bs a) m = 1 := fun a ha => (stPart_holds hok hb ha).1 (h2 a ha)
    exact ⟨h3, ((cntT_one (h3 0 (by omega)) q hq).1 h1).symm⟩
  · rintro ⟨h1, h2⟩
    exact ⟨(cntT_one (h1 0 (by omega)) q hq).2 h2.symm, fun a ha => (stPart_holds hok hb ha).2 (h1 a ha)⟩

/-- What a row's truths say is the row. -/
theorem stTs_back {n m : Nat} {row : List Int} (hok : nOk n m) (hm : stMay n m row (n + 1)) {a : Nat} (ha : a < n + 1) : cntT (stB n m (stTs n m row (n + 1)) a) m = 1 ∧ (lastT (stB n m (stTs n m row (n + 1)) a) m : Int) = row.getD a 0 := by
  have h1 := hm a ha
  obtain ⟨p, hp⟩ : ∃ p : Nat, row.getD a 0 = p := ⟨(row.getD a 0).toNat, by omega⟩
  have h2 := cntT_of (B := stB n m (stTs n m row (n + 1)) a) (n := m) (p := p) (by omega) (fun j hj => by
    rw [stB_at hok ha hj, stTs_at hok ha hj, decide_eq_true_eq, hp]; omega)
  exact ⟨h2.1, by rw [h2.2, hp]⟩
theorem stRows_back {n m : Nat} {row : List Int} (hok : nOk n m) (hm : stMay n m row (n + 1)) (hl : row.length = n + 1) : stRows n m (stTs n m row (n + 1)) (n + 1) = row := by
  apply List.ext_getElem
  · rw [stRows_length, hl]
  · intro i h1 h2
    rw [stRows_length] at h1
    have h3 := (stTs_back hok hm h1).2
    unfold stRows
    simp only [List.getElem_map, List.getElem_range, Int.toNat_natCast]
    rw [h3]; simp [List.getD, h2]
theorem stC_len {n m q : Nat} (h : nOk n m) : 2 * ((stC n m q).length : Int) = 2 + ((n : Int) + 1) * (2 + (m : Int) * (m - 1)) := by
  have hp : ∀ a, 2 * (stPart n m a).length + m = 2 + m * m := fun a => by
    have := most_len2 wneg (stV n m a) m (by rw [stV_length, Int.toNat_natCast])
    unfold stPart; rw [List.length_cons]; omega
  have hu : ∀ k, 2 * (stUp n m k).length + k * m = k * (2 + m * m) := by
    intro k
    induction k with
    | zero => simp [stUp]
    | succ k ih =>
      have := hp k
      rw [stUp_succ, List.length_append, Nat.add_mul, Nat.add_mul]; omega
  have h1 := hu (n + 1)
  have h2 : ((2 * (stUp n m (n + 1)).length + (n + 1) * m : Nat) : Int) = (((n + 1) * (2 + m * m) : Nat) : Int) := by rw [h1]
  push_cast at h2
  unfold stC
  rw [List.length_cons, Int.toNat_natCast]
  push_cast
  have e : ((n : Int) + 1) * (2 + (m : Int) * (m - 1)) = ((n : Int) + 1) * (2 + (m : Int) * m) - ((n : Int) + 1) * m := by
    rw [← Int.mul_sub]; congr 1; rw [Int.mul_sub]; omega
  rw [e]; omega
end Go.Proofs.Ythfcbjfeepindaa
