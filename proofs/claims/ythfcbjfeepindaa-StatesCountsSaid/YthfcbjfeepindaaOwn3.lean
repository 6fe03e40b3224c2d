/- Lists of lists of rows that a call makes by append. -/
import Derived.Test.YthfcbjfeepindaaOwn
namespace Go.Proofs.Ythfcbjfeepindaa
open Go.RowKit

/-- v is a slice of the rows xss, in a block of slices: an append to a list of slices of slices does not touch it. -/
def RowsOf (w : World) (C : Nat) (v : Value) (xss : List (List Int)) : Prop := ∃ a cap, ∃ vs : List Value, v = .slice a xss.length cap ∧ xss.length ≤ cap ∧ cap ≤ maxLen ∧ (a = none → cap = 0) ∧ vs.length = xss.length ∧
  (0 < xss.length → ∃ b off cs fr, a = some ⟨b, off, none⟩ ∧ w.heap[b]? = some (.cells cs 41 fr) ∧ ∀ i u, vs[i]? = some u → cs[off + i]? = some u) ∧ ∀ i u, vs[i]? = some u → RowOf w C u (xss.getD i [])
theorem RowsOf.later {w w' : World} {C : Nat} {v : Value} {xss : List (List Int)} (h : RowsOf w C v xss) (hb : Below w.heap.size w w') : RowsOf w' C v xss := by
  obtain ⟨a, cap, vs, hv, h1, h2, hn, h3, h4, h5⟩ := h
  refine ⟨a, cap, vs, hv, h1, h2, hn, h3, fun hp => ?_, fun i u hi => (h5 i u hi).later hb⟩
  obtain ⟨b, off, cs, fr, ha, hh, hc⟩ := h4 hp
  exact ⟨b, off, cs, fr, ha, (hb.block b (lt_of_block hh)).trans hh, hc⟩
/-- What a slice of numbers keeps while a list of slices of slices grows. -/
theorem RowOf.grown3 {w w' : World} {B C : Nat} {v u : Value} {xs : List Int} {n : Nat} {ys : List Value} (h : RowOf w C v xs) (hC : C ≤ B) (hown : w.ownsRow B 43 1 u n ys) (hg : w.grownBy w' u.ownBlock) : RowOf w' C v xs := by
  obtain ⟨a, len, cap, hv, h1, h2, hn, h3, h4⟩ := h
  refine ⟨a, len, cap, hv, h1, h2, hn, h3, fun hp => ?_⟩
  obtain ⟨b, off, cs, t, fr, ha, hh, ht, hc⟩ := h4 hp
  refine ⟨b, off, cs, t, fr, ha, (hg.block b (lt_of_block hh) (fun e => ?_)).trans hh, ht, hc⟩
  obtain ⟨_, h5⟩ := hown
  rcases h5 with ⟨hu, _⟩ | ⟨g, gc, cur, hu, hg', hgh, _⟩
  · subst hu; simp [Value.ownBlock] at e
  · subst hu
    simp [Value.ownBlock] at e
    subst e
    rw [hgh] at hh
    simp only [Option.some.injEq, Obj.cells.injEq] at hh
    rcases ht with ht | ht
    · have := hh.2.1; subst ht; exact absurd this (by decide)
    · omega
theorem RowsOf.grown {w w' : World} {B C : Nat} {v u : Value} {xss : List (List Int)} {n : Nat} {ys : List Value} (h : RowsOf w C v xss) (hC : C ≤ B) (hown : w.ownsRow B 43 1 u n ys) (hg : w.grownBy w' u.ownBlock) : RowsOf w' C v xss := by
  obtain ⟨a, cap, vs, hv, h1, h2, hn, h3, h4, h5⟩ := h
  refine ⟨a, cap, vs, hv, h1, h2, hn, h3, fun hp => ?_, fun i u hi => (h5 i u hi).grown3 hC hown hg⟩
  obtain ⟨b, off, cs, fr, ha, hh, hc⟩ := h4 hp
  refine ⟨b, off, cs, fr, ha, (hg.block b (lt_of_block hh) (fun e => ?_)).trans hh, hc⟩
  obtain ⟨_, h6⟩ := hown
  rcases h6 with ⟨hu, _⟩ | ⟨g, gc, cur, hu, hg', hgh, _⟩
  · subst hu; simp [Value.ownBlock] at e
  · subst hu
    simp [Value.ownBlock] at e
    subst e
    rw [hgh] at hh
    simp only [Option.some.injEq, Obj.cells.injEq] at hh
    exact absurd hh.2.1 (by decide)
theorem RowsOf.cells {w : World} {C : Nat} {v : Value} {xss : List (List Int)} (h : RowsOf w C v xss) : ∃ a cap, ∃ vs : List Value, v = .slice a xss.length cap ∧ xss.length ≤ cap ∧ cap ≤ maxLen ∧ (a = none → cap = 0) ∧ vs.length = xss.length ∧ CellRow w a vs ∧ ∀ i u, vs[i]? = some u → RowOf w C u (xss.getD i []) := by
  obtain ⟨a, cap, vs, hv, h1, h2, hn, h3, h4, h5⟩ := h
  refine ⟨a, cap, vs, hv, h1, h2, hn, h3, fun j u hj => ?_, h5⟩
  have hlt : j < vs.length := by
    rcases Nat.lt_or_ge j vs.length with h | h
    · exact h
    · rw [List.getElem?_eq_none h] at hj; cases hj
  obtain ⟨b, off, cs, fr, ha, hh, hc⟩ := h4 (by omega)
  exact ⟨b, off, ha, by simp [World.cell?, hh, hc j u hj]⟩
theorem OwnRows.rowsOf {w : World} {B C : Nat} {v : Value} {xss : List (List Int)} (h : OwnRows w B C v xss) : RowsOf w C v xss := by
  obtain ⟨vs, h1, h2, h3⟩ := h
  obtain ⟨k1, k2⟩ := h2
  rcases k2 with ⟨hv, hn⟩ | ⟨g, cap, cur, hv, hg, hh, hn, hm, hs, hx⟩
  · exact ⟨none, 0, vs, by rw [hn]; exact hv, by omega, Nat.zero_le _, fun _ => rfl, h1, fun hp => by omega, h3⟩
  · refine ⟨some ⟨g, 0, none⟩, cap, vs, hv, hn, hm, (fun h => by cases h), h1, fun hp => ⟨g, 0, cur, (0, 0), rfl, hh, fun i u hi => ?_⟩, h3⟩
    have hlt : i < vs.length := by
      rcases Nat.lt_or_ge i vs.length with h | h
      · exact h
      · rw [List.getElem?_eq_none h] at hi; cases hi
    rw [Nat.zero_add, ← hi, ← hx, ← Array.getElem?_toList, List.getElem?_take_of_lt (by omega)]

/-- A slice of slices of rows that the call has made: it may be appended to. -/
def OwnRows3 (w : World) (B C : Nat) (v : Value) (xsss : List (List (List Int))) : Prop :=
  ∃ vs : List Value, vs.length = xsss.length ∧ w.ownsRow B 43 1 v xsss.length vs ∧ ∀ i u, vs[i]? = some u → RowsOf w C u (xsss.getD i [])
theorem OwnRows3.later {w w' : World} {B C : Nat} {v : Value} {xss : List (List (List Int))} (h : OwnRows3 w B C v xss) (hb : Below w.heap.size w w') : OwnRows3 w' B C v xss := by
  obtain ⟨vs, h1, h2, h3⟩ := h
  exact ⟨vs, h1, own_later h2 hb, fun i u hi => (h3 i u hi).later hb⟩
theorem OwnRows3.nil (w : World) (B C : Nat) : OwnRows3 w B C (.slice none 0 0) [] := ⟨[], rfl, own_nil _ _ _ _, fun i u hi => by simp at hi⟩
/-- One slice of rows more, out of a new box. -/
theorem OwnRows3.pushv {w wr w1 : World} {C : Nat} {v v' u : Value} {xss : List (List (List Int))} {xs : List (List Int)} {vs : List Value} {N : Nat} (hC : C ≤ w.heap.size) (hN : xss.length = N) (hb : Below w.heap.size w wr) (h1 : vs.length = N) (h2 : wr.ownsRow w.heap.size 43 1 v N vs)
    (h3 : ∀ i u, vs[i]? = some u → RowsOf wr C u (xss.getD i [])) (hu : RowsOf wr C u xs) (o : Obj) (hown : w1.ownsRow w.heap.size 43 1 v' (N + 1) (vs ++ [u])) (hg : (wr.alloc o).grownBy w1 v.ownBlock) :
    OwnRows3 w1 w.heap.size C v' (xss ++ [xs]) ∧ Below w.heap.size w w1 := by
  have hal : Below wr.heap.size wr (wr.alloc o) := below_alloc (Below.refl _ _) _
  refine ⟨⟨vs ++ [u], by simp [h1, hN], by rw [List.length_append, hN]; exact hown, fun i y hi => ?_⟩, own_bel (below_alloc hb _) (h2.alloc _) hg⟩
  have h2' : (wr.alloc o).ownsRow w.heap.size 43 1 v N vs := h2.alloc _
  by_cases hlt : i < vs.length
  · rw [List.getElem?_append_left hlt] at hi
    have := ((h3 i y hi).later hal).grown hC h2' hg
    rwa [show (xss ++ [xs]).getD i [] = xss.getD i [] by simp [List.getD, List.getElem?_append_left (show i < xss.length by omega)]]
  · rw [List.getElem?_append_right (by omega)] at hi
    have h0 : i = vs.length := by
      rcases Nat.eq_or_lt_of_le (Nat.le_of_not_lt hlt) with h | h
      · exact h.symm
      · rw [List.getElem?_eq_none (by simp; omega)] at hi; cases hi
    subst h0
    simp at hi; subst hi
    have := (hu.later hal).grown hC h2' hg
    rwa [show (xss ++ [xs]).getD vs.length [] = xs by rw [h1, ← hN]; simp [List.getD]]
theorem OwnRows3.at {w : World} {B C : Nat} {v : Value} {xsss : List (List (List Int))} (h : OwnRows3 w B C v xsss) : ∃ a cap, v = .slice a xsss.length cap ∧ xsss.length ≤ cap ∧ cap ≤ maxLen ∧ ∀ i, i < xsss.length → ∃ b off u, a = some ⟨b, off, none⟩ ∧ w.cell? ⟨b, off + i, none⟩ = some u ∧ RowsOf w C u (xsss.getD i []) := by
  obtain ⟨vs, h1, h2, h3⟩ := h
  obtain ⟨a, cap, hv, hn, hm, hc⟩ := own_read h2
  refine ⟨a, cap, hv, hn, hm, fun i hi => ?_⟩
  have hi' : i < vs.length := by omega
  obtain ⟨b, off, ha, hcell⟩ := hc i _ (List.getElem?_eq_getElem hi')
  exact ⟨b, off, _, ha, hcell, h3 i _ (List.getElem?_eq_getElem hi')⟩
end Go.Proofs.Ythfcbjfeepindaa
