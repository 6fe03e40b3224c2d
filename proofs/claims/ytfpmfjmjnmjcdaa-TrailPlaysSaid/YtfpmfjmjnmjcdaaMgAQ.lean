import Derived.WalkKit
namespace Go.Proofs.Ytfpmfjmjnmjcdaa
set_option linter.unusedVariables false
theorem getD_setI (l : List Int) (i j : Nat) (a : Int) : (l.set i a).getD j 0 = if i = j ∧ i < l.length then a else l.getD j 0 := by
  rw [List.getD_eq_getElem?_getD, List.getElem?_set, List.getD_eq_getElem?_getD]
  by_cases h : i = j
  · subst h
    by_cases h2 : i < l.length
    · simp [h2]
    · simp [h2]
  · simp [h]
theorem mem_getD {l : List Int} {v : Int} : v ∈ l ↔ ∃ i, i < l.length ∧ l.getD i 0 = v := by
  rw [List.mem_iff_getElem]
  constructor
  · rintro ⟨i, h, e⟩; exact ⟨i, h, by rw [List.getD_eq_getElem?_getD, List.getElem?_eq_getElem h]; exact e⟩
  · rintro ⟨i, h, e⟩; exact ⟨i, h, by rw [List.getD_eq_getElem?_getD, List.getElem?_eq_getElem h] at e; exact e⟩
def hbt (sc : List Int) (v w : Int) : Prop := sc.getD w.toNat 0 < sc.getD v.toNat 0 ∨ (sc.getD v.toNat 0 = sc.getD w.toNat 0 ∧ v < w)
instance (sc : List Int) (v w : Int) : Decidable (hbt sc v w) := by unfold hbt; infer_instance
def swR (R : List Int) (i k : Nat) : List Int := (R.set i (R.getD k 0)).set k (R.getD i 0)
def swP (pl R : List Int) (i k : Nat) : List Int := (pl.set (R.getD k 0).toNat i).set (R.getD i 0).toNat k
structure HpC (n : Nat) (R pl : List Int) : Prop where
  len : pl.length = n + 1
  row : ∀ i, i < R.length → 1 ≤ R.getD i 0 ∧ R.getD i 0 ≤ n ∧ pl.getD (R.getD i 0).toNat 0 = i
theorem HpC.inj {n : Nat} {R pl : List Int} (h : HpC n R pl) {i j : Nat} (hi : i < R.length) (hj : j < R.length) (e : R.getD i 0 = R.getD j 0) : i = j := by
  have h1 := (h.row i hi).2.2
  have h2 := (h.row j hj).2.2
  rw [e] at h1
  omega
structure Mv (n : Nat) (R pl R' pl' : List Int) : Prop where
  len : R'.length = R.length
  mem : ∀ v, v ∈ R' ↔ v ∈ R
  ok : HpC n R' pl'
  out : ∀ v, v ∉ R → pl'.getD v.toNat 0 = pl.getD v.toNat 0
theorem Mv.refl {n : Nat} {R pl : List Int} (h : HpC n R pl) : Mv n R pl R pl := ⟨rfl, fun _ => Iff.rfl, h, fun _ _ => rfl⟩
theorem Mv.trans {n : Nat} {R pl R1 pl1 R2 pl2 : List Int} (h : Mv n R pl R1 pl1) (k : Mv n R1 pl1 R2 pl2) : Mv n R pl R2 pl2 :=
  ⟨k.len.trans h.len, fun v => (k.mem v).trans (h.mem v), k.ok, fun v hv => (k.out v (fun hh => hv ((h.mem v).1 hh))).trans (h.out v hv)⟩
def HpH (sc R : List Int) (k : Nat) : Prop := ∀ j, 1 ≤ j → j < R.length → k ≤ (j - 1) / 2 → hbt sc (R.getD ((j - 1) / 2) 0) (R.getD j 0)
def UpH (sc R : List Int) (i : Nat) : Prop := i < R.length ∧ (∀ j, 1 ≤ j → j < R.length → j ≠ i → hbt sc (R.getD ((j - 1) / 2) 0) (R.getD j 0)) ∧ (∀ j, 1 ≤ j → j < R.length → (j - 1) / 2 = i → 1 ≤ i → hbt sc (R.getD ((i - 1) / 2) 0) (R.getD j 0))
def DnH (sc R : List Int) (k i : Nat) : Prop := i < R.length ∧ k ≤ i ∧ (∀ j, 1 ≤ j → j < R.length → k ≤ (j - 1) / 2 → (j - 1) / 2 ≠ i → hbt sc (R.getD ((j - 1) / 2) 0) (R.getD j 0)) ∧ (∀ j, 1 ≤ j → j < R.length → (j - 1) / 2 = i → 1 ≤ i → k ≤ (i - 1) / 2 → hbt sc (R.getD ((i - 1) / 2) 0) (R.getD j 0))
end Go.Proofs.Ytfpmfjmjnmjcdaa
namespace Go.Proofs.Ytfpmfjmjnmjcdaa
set_option linter.unusedVariables false
structure HpS (n : Nat) (sc R pl : List Int) : Prop where
  sl : sc.length = n + 1
  sb : ∀ v : Nat, 0 ≤ sc.getD v 0 ∧ sc.getD v 0 ≤ 1000000000000
  c : HpC n R pl
  h : HpH sc R 0
  out : ∀ v : Int, 1 ≤ v → v ≤ n → v ∉ R → pl.getD v.toNat 0 = -1
def hfK (xs : List Int) (k : Nat) : List Int := (List.range xs.length).map fun i => if i < k then (xs.getD i 0).tdiv 2 else xs.getD i 0
def hfL (xs : List Int) : List Int := xs.map fun x => x.tdiv 2
end Go.Proofs.Ytfpmfjmjnmjcdaa
