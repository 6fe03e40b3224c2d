/- What layer 33 says, plainly. -/
import Derived.Test.YthfcbjfeepindaaTimV
import Derived.Test.YthfcbjfeepindaaMap
namespace Go.Proofs.Ythfcbjfeepindaa
open Go.RowKit
set_option linter.unusedVariables false

def prAt (ps : List (Int × Int)) (i : Nat) : Int × Int := ps.getD i (0, 0)
/-- The first len pairs at a are ps. -/
def PairRow (w : World) (a : Option Addr) (len : Nat) (ps : List (Int × Int)) : Prop := ps.length = len ∧ len ≤ maxLen ∧ (0 < len → ∃ b off, a = some ⟨b, off, none⟩ ∧ ∀ i, i < len → w.cell? ⟨b, off + i * 2, none⟩ = some (.int .i64 (prAt ps i).1) ∧ w.cell? ⟨b, off + i * 2 + 1, none⟩ = some (.int .i64 (prAt ps i).2))
theorem PairRow.later {w w' : World} {a : Option Addr} {len : Nat} {ps : List (Int × Int)} (h : PairRow w a len ps) (hb : Below w.heap.size w w') : PairRow w' a len ps :=
  ⟨h.1, h.2.1, fun hp => by
    obtain ⟨b, off, ha, hc⟩ := h.2.2 hp
    exact ⟨b, off, ha, fun i hi => ⟨cell_later hb (hc i hi).1, cell_later hb (hc i hi).2⟩⟩⟩

/-- The first place of a number: the length where there is none. -/
def tPl (l : List Int) (x : Int) : Nat := l.idxOf x
theorem tPl_le (l : List Int) (k : Nat) (h : k < l.length) : tPl l (l.getD k 0) ≤ k := by
  unfold tPl
  induction l generalizing k with
  | nil => simp at h
  | cons y t ih =>
    rw [List.idxOf_cons]
    cases k with
    | zero => simp
    | succ k =>
      have := ih k (by simpa using h)
      simp only [List.getD_cons_succ]
      cases hy : (y == t.getD k 0) <;> simp [hy] at * <;> omega
theorem tPl_at (l : List Int) (x : Int) (h : tPl l x < l.length) : l.getD (tPl l x) 0 = x := by
  unfold tPl at *
  rw [List.getD_eq_getElem?_getD, List.getElem?_eq_getElem h]
  exact List.getElem_idxOf h
theorem tPl_len (l : List Int) (x : Int) : tPl l x ≤ l.length := List.idxOf_le_length
/-- The pair stands against the order. -/
def tBad (l : List Int) (p : Int × Int) : Bool := decide (tPl l p.2 < tPl l p.1 ∧ tPl l p.1 < l.length)
def tAg (l : List Int) (ps : List (Int × Int)) : Nat := ps.findIdx (tBad l)
def tAgOk (l : List Int) (ps : List (Int × Int)) : Bool := decide (tAg l ps = ps.length)
theorem tAg_le (l : List Int) (ps : List (Int × Int)) : tAg l ps ≤ ps.length := List.findIdx_le_length
theorem tAg_hit {l : List Int} {ps : List (Int × Int)} {k : Nat} (hk : k < ps.length) (h : ∀ i, i < k → tBad l (prAt ps i) = false) (hb : tBad l (prAt ps k) = true) : tAg l ps = k := by
  unfold tAg
  have hg : ∀ i (hi : i < ps.length), prAt ps i = ps[i] := fun i hi => by unfold prAt; rw [List.getD_eq_getElem?_getD, List.getElem?_eq_getElem hi]; rfl
  rw [List.findIdx_eq hk]
  exact ⟨by rw [← hg k hk]; exact hb, fun j hj => by rw [← hg j (by omega)]; exact h j hj⟩
theorem tAg_none {l : List Int} {ps : List (Int × Int)} (h : ∀ i, i < ps.length → tBad l (prAt ps i) = false) : tAg l ps = ps.length := by
  unfold tAg
  rw [List.findIdx_eq_length]
  intro x hx
  obtain ⟨i, hi, rfl⟩ := List.mem_iff_getElem.1 hx
  have := h i hi
  unfold prAt at this
  rwa [List.getD_eq_getElem?_getD, List.getElem?_eq_getElem hi] at this
/-- The map of first places after k rounds. -/
def mF (l : List Int) (k : Nat) : Int → Option Value := fun x => if tPl l x < k then some (.int .i64 (tPl l x)) else none
theorem mF_zero (l : List Int) : mF l 0 = fun _ => none := by funext x; unfold mF; rw [if_neg (Nat.not_lt_zero _)]
theorem mF_keep {l : List Int} {k : Nat} (hk : k < l.length) (h : tPl l (l.getD k 0) < k) : mF l (k + 1) = mF l k := by
  funext x
  unfold mF
  by_cases hx : tPl l x < k
  · rw [if_pos hx, if_pos (by omega)]
  · by_cases hx2 : tPl l x = k
    · have h1 := tPl_at l x (by omega)
      rw [hx2] at h1
      rw [h1] at h; omega
    · rw [if_neg hx, if_neg (by omega)]
theorem mF_put {l : List Int} {k : Nat} (hk : k < l.length) (h : ¬ tPl l (l.getD k 0) < k) : mF l (k + 1) = upd (mF l k) (l.getD k 0) (.int .i64 k) := by
  have h0 := tPl_le l k hk
  funext x
  unfold upd mF
  by_cases hx : x = l.getD k 0
  · rw [if_pos hx, hx, if_pos (by omega), show tPl l (l.getD k 0) = k by omega]
  · rw [if_neg hx]
    by_cases hx1 : tPl l x < k
    · rw [if_pos hx1, if_pos (by omega)]
    · by_cases hx2 : tPl l x = k
      · exact absurd (by have h1 := tPl_at l x (by omega); rw [hx2] at h1; exact h1.symm) hx
      · rw [if_neg hx1, if_neg (by omega)]
theorem mF_get (l : List Int) (k : Nat) (x : Int) : ((mF l k x).getD (.int .i64 0) = .int .i64 (if tPl l x < k then (tPl l x : Int) else 0)) ∧ (mF l k x).isSome = decide (tPl l x < k) := by
  unfold mF
  by_cases h : tPl l x < k
  · rw [if_pos h, if_pos h]; exact ⟨rfl, (decide_eq_true h).symm⟩
  · rw [if_neg h, if_neg h]; exact ⟨rfl, (decide_eq_false h).symm⟩
end Go.Proofs.Ythfcbjfeepindaa
