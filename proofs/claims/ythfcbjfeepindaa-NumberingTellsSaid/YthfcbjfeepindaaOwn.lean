/- Lists that a call makes by append, of any program: what is known of them, and that they stay. -/
import Derived.Test.YthfcbjfeepindaaMem
import Derived.Laws.AppendOwn
namespace Go.Proofs.Ythfcbjfeepindaa
open Go.RowKit

theorem own_nil (w : World) (B : Nat) (e : TypeId) (k : Nat) : w.ownsRow B e k (.slice none 0 0) 0 [] := ⟨by simp, Or.inl ⟨rfl, rfl⟩⟩
theorem own_later {w w' : World} {B : Nat} {e : TypeId} {k : Nat} {v : Value} {n : Nat} {xs : List Value} (h : w.ownsRow B e k v n xs) (hb : Below w.heap.size w w') : w'.ownsRow B e k v n xs := by
  obtain ⟨h1, h2⟩ := h
  refine ⟨h1, ?_⟩
  rcases h2 with h2 | ⟨g, cap, cur, hv, hg, hh, r⟩
  · exact Or.inl h2
  · exact Or.inr ⟨g, cap, cur, hv, hg, (hb.block g (lt_of_block hh)).trans hh, r⟩
theorem own_bel {w a w' : World} {e : TypeId} {k : Nat} {v : Value} {n : Nat} {xs : List Value} (h : Below w.heap.size w a) (ho : a.ownsRow w.heap.size e k v n xs) (hg : a.grownBy w' v.ownBlock) : Below w.heap.size w w' := by
  refine h.grown hg h.size (fun j hj => ?_)
  obtain ⟨_, h2⟩ := ho
  rcases h2 with ⟨hv, _⟩ | ⟨g, cap, cur, hv, hg', _⟩
  · subst hv; simp [Value.ownBlock] at hj
  · subst hv; simp [Value.ownBlock] at hj; omega
theorem own_mono {w : World} {B B' : Nat} {e : TypeId} {k : Nat} {v : Value} {n : Nat} {xs : List Value} (h : w.ownsRow B e k v n xs) (hB : B' ≤ B) : w.ownsRow B' e k v n xs := by
  obtain ⟨h1, h2⟩ := h
  refine ⟨h1, ?_⟩
  rcases h2 with h2 | ⟨g, cap, cur, hv, hg, r⟩
  · exact Or.inl h2
  · exact Or.inr ⟨g, cap, cur, hv, by omega, r⟩

/-- The cells at a are xs, one behind the other. -/
def CellRow (w : World) (a : Option Addr) (xs : List Value) : Prop := ∀ j u, xs[j]? = some u → ∃ b off, a = some ⟨b, off, none⟩ ∧ w.cell? ⟨b, off + j, none⟩ = some u
theorem CellRow.later {w w' : World} {a : Option Addr} {xs : List Value} (h : CellRow w a xs) (hb : Below w.heap.size w w') : CellRow w' a xs := fun j u hj => by
  obtain ⟨b, off, ha, hc⟩ := h j u hj
  exact ⟨b, off, ha, cell_later hb hc⟩
theorem own_read {w : World} {B : Nat} {e : TypeId} {k : Nat} {v : Value} {n : Nat} {xs : List Value} (h : w.ownsRow B e k v n xs) : ∃ a cap, v = .slice a n cap ∧ n ≤ cap ∧ cap ≤ maxLen ∧ CellRow w a xs := by
  obtain ⟨h1, h2⟩ := h
  rcases h2 with ⟨hv, hn⟩ | ⟨g, cap, cur, hv, hg, hh, hn, hm, hs, hx⟩
  · subst hn
    refine ⟨none, 0, hv, Nat.le_refl _, Nat.zero_le _, fun j u hj => ?_⟩
    have : xs = [] := List.length_eq_zero_iff.1 (by simpa using h1)
    subst this; simp at hj
  · refine ⟨some ⟨g, 0, none⟩, cap, hv, hn, hm, fun j u hj => ⟨g, 0, rfl, ?_⟩⟩
    have hj2 : j < xs.length := by
      rcases Nat.lt_or_ge j xs.length with h | h
      · exact h
      · rw [List.getElem?_eq_none h] at hj; cases hj
    have : w.cell? ⟨g, j, none⟩ = cur[j]? := by simp [World.cell?, hh]
    rw [Nat.zero_add, this, ← hj, ← hx]
    rw [← Array.getElem?_toList, List.getElem?_take_of_lt (by omega)]
theorem CellRow.ints {w : World} {a : Option Addr} {xs : List Int} (h : CellRow w a (xs.map (Value.int .i64))) (hm : xs.length ≤ maxLen) : IntRow w a xs.length xs :=
  ⟨rfl, hm, fun hp => by
    obtain ⟨b, off, ha, _⟩ := h 0 (.int .i64 (xs.getD 0 0)) (by simp [hp, List.getD])
    refine ⟨b, off, ha, fun i hi => ?_⟩
    obtain ⟨b', off', ha', hc'⟩ := h i (.int .i64 (xs.getD i 0)) (by simp [hi, List.getD])
    rw [ha] at ha'; cases ha'
    exact hc'⟩

theorem cells_new (w : World) (vs : List Value) (t : TypeId) : ∀ j u, vs[j]? = some u → (w.alloc (.cells vs.toArray t)).cell? (Addr.add ⟨w.heap.size, 0, none⟩ j) = some u := by
  intro j u h
  by_cases hj : j = 0
  · subst hj; simp [Addr.add, h]
  · simp [Addr.add, hj, h]
theorem one_int (u : Value) (xs : List Int) (h : u ∈ xs.map (Value.int .i64)) : u.oneCell' = true := by
  obtain ⟨x, _, rfl⟩ := List.mem_map.1 h
  rfl

/-! ### Lists as values -/
/-- v is a slice of the numbers xs. -/
def Ints (w : World) (v : Value) (xs : List Int) : Prop := ∃ a len cap, v = .slice a len cap ∧ len ≤ cap ∧ cap ≤ maxLen ∧ IntRow w a len xs
theorem Ints.later {w w' : World} {v : Value} {xs : List Int} (h : Ints w v xs) (hb : Below w.heap.size w w') : Ints w' v xs := by
  obtain ⟨a, len, cap, h1, h2, h3, h4⟩ := h
  exact ⟨a, len, cap, h1, h2, h3, h4.later hb⟩
theorem Ints.nil (w : World) : Ints w (.slice none 0 0) [] := ⟨none, 0, 0, rfl, Nat.le_refl _, Nat.zero_le _, rfl, Nat.zero_le _, fun h => by omega⟩
/-- A slice of numbers that the call has made: it may be appended to. -/
def OwnInts (w : World) (B : Nat) (v : Value) (xs : List Int) : Prop := w.ownsRow B 3 1 v xs.length (xs.map (Value.int .i64))
theorem OwnInts.later {w w' : World} {B : Nat} {v : Value} {xs : List Int} (h : OwnInts w B v xs) (hb : Below w.heap.size w w') : OwnInts w' B v xs := own_later h hb
theorem OwnInts.mono {w : World} {B B' : Nat} {v : Value} {xs : List Int} (h : OwnInts w B v xs) (hb : B' ≤ B) : OwnInts w B' v xs := own_mono h hb
theorem OwnInts.nil (w : World) (B : Nat) : OwnInts w B (.slice none 0 0) [] := own_nil _ _ _ _
theorem OwnInts.ints {w : World} {B : Nat} {v : Value} {xs : List Int} (h : OwnInts w B v xs) : Ints w v xs := by
  obtain ⟨a, cap, hv, hn, hm, hc⟩ := own_read h
  exact ⟨a, _, cap, hv, hn, hm, hc.ints (by omega)⟩

/-- The slices at a are the rows xss. -/
def Rows2 (w : World) (a : Option Addr) (len : Nat) (xss : List (List Int)) : Prop :=
  xss.length = len ∧ len ≤ maxLen ∧ ∀ i, i < len → ∃ b off u, a = some ⟨b, off, none⟩ ∧ w.cell? ⟨b, off + i, none⟩ = some u ∧ Ints w u (xss.getD i [])
theorem Rows2.later {w w' : World} {a : Option Addr} {len : Nat} {xss : List (List Int)} (h : Rows2 w a len xss) (hb : Below w.heap.size w w') : Rows2 w' a len xss :=
  ⟨h.1, h.2.1, fun i hi => by
    obtain ⟨b, off, u, ha, hc, hu⟩ := h.2.2 i hi
    exact ⟨b, off, u, ha, cell_later hb hc, hu.later hb⟩⟩
def OwnRows (w : World) (B : Nat) (v : Value) (xss : List (List Int)) : Prop :=
  ∃ vs : List Value, vs.length = xss.length ∧ w.ownsRow B 41 1 v xss.length vs ∧ ∀ i u, vs[i]? = some u → Ints w u (xss.getD i [])
theorem OwnRows.later {w w' : World} {B : Nat} {v : Value} {xss : List (List Int)} (h : OwnRows w B v xss) (hb : Below w.heap.size w w') : OwnRows w' B v xss := by
  obtain ⟨vs, h1, h2, h3⟩ := h
  exact ⟨vs, h1, own_later h2 hb, fun i u hi => (h3 i u hi).later hb⟩
theorem OwnRows.nil (w : World) (B : Nat) : OwnRows w B (.slice none 0 0) [] := ⟨[], rfl, own_nil _ _ _ _, fun i u hi => by simp at hi⟩
theorem OwnRows.mono {w : World} {B B' : Nat} {v : Value} {xss : List (List Int)} (h : OwnRows w B v xss) (hb : B' ≤ B) : OwnRows w B' v xss := by
  obtain ⟨vs, h1, h2, h3⟩ := h
  exact ⟨vs, h1, own_mono h2 hb, h3⟩
theorem OwnRows.rows {w : World} {B : Nat} {v : Value} {xss : List (List Int)} (h : OwnRows w B v xss) : ∃ a len cap, v = .slice a len cap ∧ len ≤ cap ∧ cap ≤ maxLen ∧ Rows2 w a len xss := by
  obtain ⟨vs, h1, h2, h3⟩ := h
  obtain ⟨a, cap, hv, hn, hm, hc⟩ := own_read h2
  refine ⟨a, _, cap, hv, hn, hm, rfl, by omega, fun i hi => ?_⟩
  have hi' : i < vs.length := by omega
  obtain ⟨b, off, ha, hcell⟩ := hc i _ (List.getElem?_eq_getElem hi')
  exact ⟨b, off, _, ha, hcell, h3 i _ (List.getElem?_eq_getElem hi')⟩
theorem OwnRows.own_next {w' : World} {B : Nat} {v' u : Value} {xss : List (List Int)} {xs : List Int} {vs : List Value} (h1 : vs.length = xss.length) (h3 : ∀ i u, vs[i]? = some u → Ints w' u (xss.getD i [])) (hu : Ints w' u xs)
    (h2 : w'.ownsRow B 41 1 v' (xss.length + 1) (vs ++ [u])) : OwnRows w' B v' (xss ++ [xs]) := by
  refine ⟨vs ++ [u], by simp [h1], by simpa using h2, fun i y hi => ?_⟩
  by_cases hlt : i < vs.length
  · rw [List.getElem?_append_left hlt] at hi
    have := h3 i y hi
    rwa [show (xss ++ [xs]).getD i [] = xss.getD i [] by simp [List.getD, List.getElem?_append_left (show i < xss.length by omega)]]
  · rw [List.getElem?_append_right (by omega)] at hi
    have h0 : i - vs.length = 0 := by
      rcases Nat.eq_zero_or_pos (i - vs.length) with h | h
      · exact h
      · rw [List.getElem?_eq_none (by simp; omega)] at hi; cases hi
    rw [h0] at hi; simp at hi; subst hi
    rwa [show (xss ++ [xs]).getD i [] = xs by rw [show i = xss.length by omega]; simp [List.getD]]
end Go.Proofs.Ythfcbjfeepindaa
