/- What the clauses of times say of an order's truths, and how many they are. -/
import Derived.Test.YthfcbjfeepindaaTimC
import Derived.Test.YthfcbjfeepindaaTimB
import Derived.Test.YthfcbjfeepindaaLaw32c
namespace Go.Proofs.Ythfcbjfeepindaa
open Go.RowKit
set_option linter.unusedVariables false

theorem tru_at {n V : Nat} {l : List Int} {bs : List Bool} (hP : Pm n n l) (hT : IsTru n n V l bs) {a k : Nat} (ha : a < n) (hk : k < n) (hV : n * n ≤ V) : bs.getD (a * n + k) false = true ↔ l.getD k 0 = a := by
  have hlt := at_lt ha hk
  rw [hT.2 (a * n + k) (by omega)]
  constructor
  · rintro ⟨j, hj, e⟩
    obtain ⟨b, hb, e2⟩ := hP.1 j hj
    rw [e2] at e
    have e3 : b * n + j = a * n + k := by
      have : ((b * n + j : Nat) : Int) = ((a * n + k : Nat) : Int) := by rw [← e]; push_cast; rfl
      omega
    have h1 : j = k := by
      have := congrArg (· % n) e3
      simpa [Nat.mul_add_mod_of_lt, Nat.mod_eq_of_lt hj, Nat.mod_eq_of_lt hk, Nat.mul_comm] using this
    subst h1
    have h2 : b * n = a * n := by omega
    have h3 : b = a := Nat.eq_of_mul_eq_mul_right (by omega) h2
    rw [e2, h3]
  · intro e
    exact ⟨k, hk, by rw [e]; push_cast; rfl⟩
theorem pm_pl {n : Nat} {l : List Int} (hP : Pm n n l) (hl : l.length = n) {x : Nat} (hx : x < n) : tPl l x < n ∧ ∀ k, k < n → (l.getD k 0 = x ↔ tPl l x = k) := by
  obtain ⟨k, hk, e⟩ := hP.hits hx
  have h1 := tPl_le l k (by omega)
  rw [e] at h1
  have h2 := tPl_at l x (by omega)
  refine ⟨by omega, fun j hj => ⟨fun h => ?_, fun h => by rw [← h]; exact h2⟩⟩
  exact hP.2 _ _ (by omega) hj (h2.trans h.symm)
theorem tRow_holds {n : Nat} {s : Int} (hok : nOk n s) {l : List Int} {bs : List Bool} (hP : Pm n n l) (hT : IsTru n n (nVars n s).toNat l bs) {x y a b : Nat} (hx : x < n) (hy : y < n) (ha : a < n) (hb : b < n) :
    holdsC bs (tRow n s (x, y) a b) = true ↔ ¬ (l.getD a 0 = x ∧ l.getD b 0 = y) := by
  have hsq := vars_sq hok
  have hn : n ≤ 64 := by have := hok.2.1; omega
  have hnn : n * n ≤ 4096 := by have := Nat.mul_le_mul hn hn; omega
  have l1 := at_lt hx ha; have l2 := at_lt hy hb
  have hbl : bs.length = (nVars n s).toNat := hT.1
  have e1 : nVar n s 1 x a = ((x * n + a : Nat) : Int) + 1 := by have := nVar_at hok hx ha; simpa using this
  have e2 : nVar n s 1 y b = ((y * n + b : Nat) : Int) + 1 := by have := nVar_at hok hy hb; simpa using this
  unfold tRow holdsC
  dsimp only
  rw [e1, e2, wneg_in (by omega) (by omega), wneg_in (by omega) (by omega)]
  simp only [List.any_cons, List.any_nil, Bool.or_false]
  rw [litT_neg (by omega) (by omega), litT_neg (by omega) (by omega), ← tru_at hP hT hx ha hsq, ← tru_at hP hT hy hb hsq]
  cases bs.getD (x * n + a) false <;> cases bs.getD (y * n + b) false <;> simp
theorem tPart_holds {n : Nat} {s : Int} (hok : nOk n s) {l : List Int} {bs : List Bool} (hP : Pm n n l) (hl : l.length = n) (hT : IsTru n n (nVars n s).toNat l bs) (p : Int × Int) : (∀ c ∈ tPart n s p, holdsC bs c = true) ↔ tBad l p = false := by
  have hin : ∀ z : Int, tPl l z < l.length → ∃ x : Nat, x < n ∧ z = x := fun z hz => by
    obtain ⟨x, hx, e⟩ := hP.1 (tPl l z) (by omega)
    rw [tPl_at l z hz] at e
    exact ⟨x, hx, e⟩
  cases hc : tCounts n p.1 p.2
  · have h1 : tPart n s p = [] := by unfold tPart; rw [if_neg (by rw [hc]; simp)]
    rw [h1]
    refine ⟨fun _ => ?_, fun _ c h => by cases h⟩
    unfold tBad
    refine decide_eq_false fun h => ?_
    obtain ⟨x, hx, e1⟩ := hin p.1 h.2
    obtain ⟨y, hy, e2⟩ := hin p.2 (by omega)
    unfold tCounts at hc
    rw [decide_eq_false_iff_not] at hc
    exact hc ⟨by omega, by omega, fun e => by rw [e] at h; omega⟩
  · have hr : ((0 ≤ p.1 ∧ p.1 < n) ∧ (0 ≤ p.2 ∧ p.2 < n) ∧ p.1 ≠ p.2) := by unfold tCounts at hc; exact of_decide_eq_true hc
    have h1 : tPart n s p = tRowP n s p n := by unfold tPart; rw [if_pos hc, Int.toNat_natCast]
    rw [h1]
    obtain ⟨p1, p2⟩ := p
    dsimp only at *
    obtain ⟨x, rfl⟩ : ∃ x : Nat, p1 = x := ⟨p1.toNat, by omega⟩
    obtain ⟨y, rfl⟩ : ∃ y : Nat, p2 = y := ⟨p2.toNat, by omega⟩
    have hx : x < n := by omega
    have hy : y < n := by omega
    obtain ⟨k1, k2⟩ := pm_pl hP hl hx
    obtain ⟨m1, m2⟩ := pm_pl hP hl hy
    have hmem : ∀ c, c ∈ tRowP n s ((x : Int), (y : Int)) n ↔ ∃ a b, a < n ∧ b < a ∧ c = tRow n s ((x : Int), (y : Int)) a b := fun c => by
      unfold tRowP tRowA
      simp only [List.mem_flatMap, List.mem_range, List.mem_map]
      constructor
      · rintro ⟨a, ha, b, hb, rfl⟩; exact ⟨a, b, ha, hb, rfl⟩
      · rintro ⟨a, b, ha, hb, rfl⟩; exact ⟨a, ha, b, hb, rfl⟩
    constructor
    · intro h
      unfold tBad
      refine decide_eq_false fun hb => ?_
      have h2 := h _ ((hmem _).2 ⟨tPl l x, tPl l y, by omega, hb.1, rfl⟩)
      exact (tRow_holds hok hP hT hx hy (by omega) (by omega)).1 h2 ⟨(k2 _ k1).2 rfl, (m2 _ m1).2 rfl⟩
    · intro h c hcm
      obtain ⟨a, b, ha, hb, rfl⟩ := (hmem c).1 hcm
      refine (tRow_holds hok hP hT hx hy ha (by omega)).2 fun hh => ?_
      have e1 := (k2 a ha).1 hh.1
      have e2 := (m2 b (by omega)).1 hh.2
      unfold tBad at h
      rw [decide_eq_false_iff_not] at h
      exact h ⟨by dsimp only; omega, by dsimp only; omega⟩
theorem tAgOk_iff (l : List Int) (ps : List (Int × Int)) : tAgOk l ps = true ↔ ∀ p ∈ ps, tBad l p = false := by
  unfold tAgOk tAg
  rw [decide_eq_true_eq, List.findIdx_eq_length]
theorem tC_holds {n : Nat} {s : Int} (hok : nOk n s) {l : List Int} {bs : List Bool} (hP : Pm n n l) (hl : l.length = n) (hT : IsTru n n (nVars n s).toNat l bs) (ps : List (Int × Int)) : (∀ c ∈ tC n s ps, holdsC bs c = true) ↔ tAgOk l ps = true := by
  have hg : ∀ i (hi : i < ps.length), prAt ps i = ps[i] := fun i hi => by unfold prAt; rw [List.getD_eq_getElem?_getD, List.getElem?_eq_getElem hi]; rfl
  rw [tAgOk_iff]
  unfold tC tUp
  rw [if_pos hok]
  simp only [List.mem_flatMap, List.mem_range]
  constructor
  · intro h p hp
    obtain ⟨i, hi, rfl⟩ := List.mem_iff_getElem.1 hp
    refine (tPart_holds hok hP hl hT _).1 fun c hc => h c ⟨i, hi, by rw [hg i hi]; exact hc⟩
  · rintro h c ⟨i, hi, hc⟩
    exact (tPart_holds hok hP hl hT _).2 (h _ (List.getElem_mem hi)) c (by rw [← hg i hi]; exact hc)
end Go.Proofs.Ythfcbjfeepindaa
