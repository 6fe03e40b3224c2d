import Derived.WalkKit
import Derived.WalkSpells
import Derived.WalkLawsBesides
import Derived.Below
import Derived.OneCell
import Derived.Laws.AppendOwn
import Derived.Laws.AppendOwnNone
import Derived.Test.YtdaenbgjafalcaaDoorRows
import Derived.ProofKit
import Derived.OpenShut
import Derived.ShutString
import Derived.ChangeOld
import Derived.Lib.SmallJoins
import Derived.Deep.Slices
namespace Go.Proofs.YtdaenbgjafalcaaDoor
open Go.RowKit
def IntRow (w : World) (a : Option Addr) (len : Nat) (xs : List Int) : Prop :=
  xs.length = len ∧ len ≤ maxLen ∧ (0 < len → ∃ b off, a = some ⟨b, off, none⟩ ∧ ∀ i, i < len → w.cell? ⟨b, off + i, none⟩ = some (.int .i64 (xs.getD i 0)))
theorem IntRow.later {w w' : World} {a : Option Addr} {len : Nat} {xs : List Int} (h : IntRow w a len xs) (hb : Below w.heap.size w w') : IntRow w' a len xs :=
  ⟨h.1, h.2.1, fun hp => by
    obtain ⟨b, off, ha, hc⟩ := h.2.2 hp
    exact ⟨b, off, ha, fun i hi => cell_later hb (hc i hi)⟩⟩
theorem IntRow.made (w : World) (t : TypeId) (xs : List Int) (hm : xs.length ≤ maxLen) : IntRow (w.alloc (.cells (xs.map (Value.int .i64)).toArray t)) (some ⟨w.heap.size, 0, none⟩) xs.length xs :=
  ⟨rfl, hm, fun _ => ⟨w.heap.size, 0, rfl, fun i hi => by
    have h : (w.alloc (.cells (xs.map (Value.int .i64)).toArray t)).cell? ⟨w.heap.size, i, none⟩ = (xs.map (Value.int .i64))[i]? := by
      simp [go_sem]
    rw [Nat.zero_add, h]; simp [hi, List.getD]⟩⟩
theorem below_alloc {w a : World} (h : Below w.heap.size w a) (o : Obj) : Below w.heap.size w (a.alloc o) := h.alloc h.size o
theorem below_drewN {w a : World} (h : Below w.heap.size w a) (n : Nat) : Below w.heap.size w (a.drewN n) := Go.below_drewN h n
def Box2 (w : World) (b : Nat) (x y : Value) : Prop := w.cell? ⟨b, 0, none⟩ = some x ∧ w.cell? ⟨b, 1, none⟩ = some y
def Box3 (w : World) (b : Nat) (x y z : Value) : Prop := w.cell? ⟨b, 0, none⟩ = some x ∧ w.cell? ⟨b, 1, none⟩ = some y ∧ w.cell? ⟨b, 2, none⟩ = some z
theorem Box2.later {w w' : World} {b : Nat} {x y : Value} (h : Box2 w b x y) (hb : Below w.heap.size w w') : Box2 w' b x y := ⟨cell_later hb h.1, cell_later hb h.2⟩
theorem Box3.later {w w' : World} {b : Nat} {x y z : Value} (h : Box3 w b x y z) (hb : Below w.heap.size w w') : Box3 w' b x y z := ⟨cell_later hb h.1, cell_later hb h.2.1, cell_later hb h.2.2⟩
def Blk (w : World) (b : Nat) (vs : Array Value) (t : TypeId) : Prop := w.heap[b]? = some (.cells vs t (0, 0))
theorem Blk.lt {w : World} {b : Nat} {vs : Array Value} {t : TypeId} (h : Blk w b vs t) : b < w.heap.size := lt_of_block h
theorem Blk.later {w w' : World} {b : Nat} {vs : Array Value} {t : TypeId} (h : Blk w b vs t) (hb : Below w.heap.size w w') : Blk w' b vs t := (hb.block b h.lt).trans h
theorem Blk.cell {w : World} {b : Nat} {vs : Array Value} {t : TypeId} (h : Blk w b vs t) (i : Nat) : w.cell? ⟨b, i, none⟩ = vs[i]? := by unfold Blk at h; simp [World.cell?, h]
theorem Blk.free {w : World} {b : Nat} {vs : Array Value} {t : TypeId} (h : Blk w b vs t) (i : Nat) : w.frozen? ⟨b, i, none⟩ = false := by unfold Blk at h; simp [World.frozen?, h]
theorem Blk.made (w : World) (vs : Array Value) (t : TypeId) : Blk (w.alloc (.cells vs t)) w.heap.size vs t := by
  show (w.heap.push _)[w.heap.size]? = _
  simp
theorem Blk.at (w : World) (vs : Array Value) (t : TypeId) {b : Nat} (h : b = w.heap.size) : Blk (w.alloc (.cells vs t)) b vs t := h ▸ Blk.made w vs t
theorem Blk.drew {w : World} {b : Nat} {vs : Array Value} {t : TypeId} (h : Blk w b vs t) : Blk w.drew b vs t := h
theorem Blk.drewN {w : World} {b : Nat} {vs : Array Value} {t : TypeId} (h : Blk w b vs t) (n : Nat) : Blk (w.drewN n) b vs t := h
theorem Blk.other {w : World} {b : Nat} {vs : Array Value} {t : TypeId} (h : Blk w b vs t) {a : Addr} (ha : a.block ≠ b) (u : Value) : Blk (w.setCell a u) b vs t :=
  (Below.heap_setCell w a u b (Ne.symm ha)).trans h
theorem Blk.set {w : World} {b : Nat} {vs : Array Value} {t : TypeId} (h : Blk w b vs t) (i : Nat) (u : Value) : Blk (w.setCell ⟨b, i, none⟩ u) b (vs.setIfInBounds i u) t := by
  have hlt := h.lt
  have h' : w.heap[b] = .cells vs t (0, 0) := by unfold Blk at h; simpa [Array.getElem?_eq_getElem hlt] using h
  show (w.heap.modify b _)[b]? = _
  rw [Array.getElem?_eq_getElem (by simpa using hlt), Array.getElem_modify_self, h']
  rfl
def cellAt (w : World) (p : Addr) : Value := (w.cell? p).getD undef
end Go.Proofs.YtdaenbgjafalcaaDoor
namespace Go.Proofs.YtdaenbgjafalcaaDoor
open Go.RowKit
theorem own_nil (w : World) (B : Nat) (e : TypeId) (k : Nat) : w.ownsRow B e k (.slice none 0 0) 0 [] := ⟨by simp, Or.inl ⟨rfl, rfl⟩⟩
theorem own_later {w w' : World} {B : Nat} {e : TypeId} {k : Nat} {v : Value} {n : Nat} {xs : List Value} (h : w.ownsRow B e k v n xs) (hb : Below w.heap.size w w') : w'.ownsRow B e k v n xs := by
  obtain ⟨h1, h2⟩ := h
  refine ⟨h1, ?_⟩
  rcases h2 with h2 | ⟨g, cap, cur, hv, hg, hh, r⟩
  · exact Or.inl h2
  · exact Or.inr ⟨g, cap, cur, hv, hg, (hb.block g (lt_of_block hh)).trans hh, r⟩
theorem own_bel {w a w' : World} {e : TypeId} {k : Nat} {v : Value} {n : Nat} {xs : List Value} (h : Below w.heap.size w a) (ho : a.ownsRow w.heap.size e k v n xs) (hg : a.grownBy w' v.ownBlock) : Below w.heap.size w w' := by
  refine h.grown hg h.size (fun j hj => ?_)
  obtain ⟨_, h2⟩ := ho
  rcases h2 with ⟨hv, _⟩ | ⟨g, cap, cur, hv, hg', _⟩
  · subst hv; simp [Value.ownBlock] at hj
  · subst hv; simp [Value.ownBlock] at hj; omega
theorem own_mono {w : World} {B B' : Nat} {e : TypeId} {k : Nat} {v : Value} {n : Nat} {xs : List Value} (h : w.ownsRow B e k v n xs) (hB : B' ≤ B) : w.ownsRow B' e k v n xs := by
  obtain ⟨h1, h2⟩ := h
  refine ⟨h1, ?_⟩
  rcases h2 with h2 | ⟨g, cap, cur, hv, hg, r⟩
  · exact Or.inl h2
  · exact Or.inr ⟨g, cap, cur, hv, by omega, r⟩
theorem keep_grown {X w1 : World} {r : Option Nat} (hg : X.grownBy w1 r) {p : Addr} {x : Value} (h : X.cell? p = some x) (hne : some p.block ≠ r) : w1.cell? p = some x :=
  (World.cell?_of_block (hg.block _ (World.block_lt_of_cell? _ _ h) hne)).trans h
def CellRow (w : World) (a : Option Addr) (xs : List Value) : Prop := ∀ j u, xs[j]? = some u → ∃ b off, a = some ⟨b, off, none⟩ ∧ w.cell? ⟨b, off + j, none⟩ = some u
theorem CellRow.later {w w' : World} {a : Option Addr} {xs : List Value} (h : CellRow w a xs) (hb : Below w.heap.size w w') : CellRow w' a xs := fun j u hj => by
  obtain ⟨b, off, ha, hc⟩ := h j u hj
  exact ⟨b, off, ha, cell_later hb hc⟩
theorem own_read {w : World} {B : Nat} {e : TypeId} {k : Nat} {v : Value} {n : Nat} {xs : List Value} (h : w.ownsRow B e k v n xs) : ∃ a cap, v = .slice a n cap ∧ n ≤ cap ∧ cap ≤ maxLen ∧ CellRow w a xs := by
  obtain ⟨h1, h2⟩ := h
  rcases h2 with ⟨hv, hn⟩ | ⟨g, cap, cur, hv, hg, hh, hn, hm, hs, hx⟩
  · subst hn
    refine ⟨none, 0, hv, Nat.le_refl _, Nat.zero_le _, fun j u hj => ?_⟩
    have : xs = [] := List.length_eq_zero_iff.1 (by simpa using h1)
    subst this; simp at hj
  · refine ⟨some ⟨g, 0, none⟩, cap, hv, hn, hm, fun j u hj => ⟨g, 0, rfl, ?_⟩⟩
    have hj2 : j < xs.length := by
      rcases Nat.lt_or_ge j xs.length with h | h
      · exact h
      · rw [List.getElem?_eq_none h] at hj; cases hj
    have : w.cell? ⟨g, j, none⟩ = cur[j]? := by simp [World.cell?, hh]
    rw [Nat.zero_add, this, ← hj, ← hx]
    rw [← Array.getElem?_toList, List.getElem?_take_of_lt (by omega)]
theorem CellRow.made (w : World) (vs : List Value) (t : TypeId) : CellRow (w.alloc (.cells vs.toArray t)) (some ⟨w.heap.size, 0, none⟩) vs := fun j u hj =>
  ⟨w.heap.size, 0, rfl, by rw [Nat.zero_add]; have : (w.alloc (.cells vs.toArray t)).cell? ⟨w.heap.size, j, none⟩ = vs[j]? := by simp [go_sem]
                           rw [this, hj]⟩
def Ints (w : World) (v : Value) (xs : List Int) : Prop := ∃ a len cap, v = .slice a len cap ∧ len ≤ cap ∧ cap ≤ maxLen ∧ IntRow w a len xs
theorem Ints.later {w w' : World} {v : Value} {xs : List Int} (h : Ints w v xs) (hb : Below w.heap.size w w') : Ints w' v xs := by
  obtain ⟨a, len, cap, h1, h2, h3, h4⟩ := h
  exact ⟨a, len, cap, h1, h2, h3, h4.later hb⟩
theorem Ints.nil (w : World) : Ints w (.slice none 0 0) [] := ⟨none, 0, 0, rfl, Nat.le_refl _, Nat.zero_le _, rfl, Nat.zero_le _, fun h => by omega⟩
def OwnInts (w : World) (B : Nat) (v : Value) (xs : List Int) : Prop := w.ownsRow B 3 1 v xs.length (xs.map (Value.int .i64))
theorem OwnInts.later {w w' : World} {B : Nat} {v : Value} {xs : List Int} (h : OwnInts w B v xs) (hb : Below w.heap.size w w') : OwnInts w' B v xs := own_later h hb
theorem OwnInts.mono {w : World} {B B' : Nat} {v : Value} {xs : List Int} (h : OwnInts w B v xs) (hb : B' ≤ B) : OwnInts w B' v xs := own_mono h hb
theorem OwnInts.nil (w : World) (B : Nat) : OwnInts w B (.slice none 0 0) [] := own_nil _ _ _ _
def BoolRow (w : World) (a : Option Addr) (len : Nat) (bs : List Bool) : Prop :=
  bs.length = len ∧ len ≤ maxLen ∧ (0 < len → ∃ b off, a = some ⟨b, off, none⟩ ∧ ∀ i, i < len → w.cell? ⟨b, off + i, none⟩ = some (.bool (bs.getD i false)))
theorem BoolRow.later {w w' : World} {a : Option Addr} {len : Nat} {bs : List Bool} (h : BoolRow w a len bs) (hb : Below w.heap.size w w') : BoolRow w' a len bs :=
  ⟨h.1, h.2.1, fun hp => by
    obtain ⟨b, off, ha, hc⟩ := h.2.2 hp
    exact ⟨b, off, ha, fun i hi => cell_later hb (hc i hi)⟩⟩
def OwnBools (w : World) (B : Nat) (v : Value) (bs : List Bool) : Prop := w.ownsRow B 4 1 v bs.length (bs.map Value.bool)
theorem OwnBools.later {w w' : World} {B : Nat} {v : Value} {bs : List Bool} (h : OwnBools w B v bs) (hb : Below w.heap.size w w') : OwnBools w' B v bs := own_later h hb
theorem OwnBools.mono {w : World} {B B' : Nat} {v : Value} {bs : List Bool} (h : OwnBools w B v bs) (hb : B' ≤ B) : OwnBools w B' v bs := own_mono h hb
theorem OwnBools.nil (w : World) (B : Nat) : OwnBools w B (.slice none 0 0) [] := own_nil _ _ _ _
theorem OwnBools.row {w : World} {B : Nat} {v : Value} {bs : List Bool} (h : OwnBools w B v bs) : ∃ a cap, v = .slice a bs.length cap ∧ bs.length ≤ cap ∧ cap ≤ maxLen ∧ BoolRow w a bs.length bs := by
  obtain ⟨a, cap, hv, hn, hm, hc⟩ := own_read h
  refine ⟨a, cap, hv, hn, hm, rfl, by omega, fun hp => ?_⟩
  obtain ⟨b, off, ha, _⟩ := hc 0 (.bool (bs.getD 0 false)) (by simp [hp, List.getD])
  refine ⟨b, off, ha, fun i hi => ?_⟩
  obtain ⟨b', off', ha', hc'⟩ := hc i (.bool (bs.getD i false)) (by simp [hi, List.getD])
  rw [ha] at ha'; cases ha'
  exact hc'
def Rows2 (w : World) (a : Option Addr) (len : Nat) (xss : List (List Int)) : Prop :=
  xss.length = len ∧ len ≤ maxLen ∧ ∀ i, i < len → ∃ b off u, a = some ⟨b, off, none⟩ ∧ w.cell? ⟨b, off + i, none⟩ = some u ∧ Ints w u (xss.getD i [])
theorem Rows2.later {w w' : World} {a : Option Addr} {len : Nat} {xss : List (List Int)} (h : Rows2 w a len xss) (hb : Below w.heap.size w w') : Rows2 w' a len xss :=
  ⟨h.1, h.2.1, fun i hi => by
    obtain ⟨b, off, u, ha, hc, hu⟩ := h.2.2 i hi
    exact ⟨b, off, u, ha, cell_later hb hc, hu.later hb⟩⟩
def RowOf (w : World) (B : Nat) (v : Value) (xs : List Int) : Prop := ∃ a len cap, v = .slice a len cap ∧ len ≤ cap ∧ cap ≤ maxLen ∧ (a = none → cap = 0) ∧ xs.length = len ∧
  (0 < len → ∃ b off cs t fr, a = some ⟨b, off, none⟩ ∧ w.heap[b]? = some (.cells cs t fr) ∧ (t = 3 ∨ b < B) ∧ ∀ i, i < len → cs[off + i]? = some (.int .i64 (xs.getD i 0)))
theorem RowOf.later {w w' : World} {B : Nat} {v : Value} {xs : List Int} (h : RowOf w B v xs) (hb : Below w.heap.size w w') : RowOf w' B v xs := by
  obtain ⟨a, len, cap, hv, h1, h2, hn, h3, h4⟩ := h
  refine ⟨a, len, cap, hv, h1, h2, hn, h3, fun hp => ?_⟩
  obtain ⟨b, off, cs, t, fr, ha, hh, ht, hc⟩ := h4 hp
  exact ⟨b, off, cs, t, fr, ha, (hb.block b (lt_of_block hh)).trans hh, ht, hc⟩
theorem RowOf.mono {w : World} {B B' : Nat} {v : Value} {xs : List Int} (h : RowOf w B v xs) (hB : B ≤ B') : RowOf w B' v xs := by
  obtain ⟨a, len, cap, hv, h1, h2, hn, h3, h4⟩ := h
  refine ⟨a, len, cap, hv, h1, h2, hn, h3, fun hp => ?_⟩
  obtain ⟨b, off, cs, t, fr, ha, hh, ht, hc⟩ := h4 hp
  exact ⟨b, off, cs, t, fr, ha, hh, ht.imp id (fun h => by omega), hc⟩
theorem RowOf.grown {w w' : World} {B C : Nat} {v u : Value} {xs : List Int} {n : Nat} {ys : List Value} (h : RowOf w C v xs) (hC : C ≤ B) (hown : w.ownsRow B 81 1 u n ys) (hg : w.grownBy w' u.ownBlock) : RowOf w' C v xs := by
  obtain ⟨a, len, cap, hv, h1, h2, hn, h3, h4⟩ := h
  refine ⟨a, len, cap, hv, h1, h2, hn, h3, fun hp => ?_⟩
  obtain ⟨b, off, cs, t, fr, ha, hh, ht, hc⟩ := h4 hp
  refine ⟨b, off, cs, t, fr, ha, (hg.block b (lt_of_block hh) (fun e => ?_)).trans hh, ht, hc⟩
  obtain ⟨_, h5⟩ := hown
  rcases h5 with ⟨hu, _⟩ | ⟨g, gc, cur, hu, hg', hgh, _⟩
  · subst hu; simp [Value.ownBlock] at e
  · subst hu
    simp [Value.ownBlock] at e
    subst e
    rw [hgh] at hh
    simp only [Option.some.injEq, Obj.cells.injEq] at hh
    rcases ht with ht | ht
    · have := hh.2.1; subst ht; exact absurd this (by decide)
    · omega
theorem RowOf.made (w : World) (B : Nat) (xs : List Int) (hm : xs.length ≤ maxLen) : RowOf (w.alloc (.cells (xs.map (Value.int .i64)).toArray 3)) B (.slice (some ⟨w.heap.size, 0, none⟩) xs.length xs.length) xs :=
  ⟨_, _, _, rfl, Nat.le_refl _, hm, (fun h => by cases h), rfl, fun _ => ⟨w.heap.size, 0, _, 3, (0, 0), rfl, Blk.made w _ _, Or.inl rfl, fun i hi => by simp [hi, List.getD]⟩⟩
theorem OwnInts.row {w : World} {B B' : Nat} {v : Value} {xs : List Int} (h : OwnInts w B v xs) : RowOf w B' v xs := by
  obtain ⟨h1, h2⟩ := h
  rcases h2 with ⟨hv, hn⟩ | ⟨g, cap, cur, hv, hg, hh, hn, hm, hs, hx⟩
  · exact ⟨none, 0, 0, hv.trans rfl, Nat.le_refl _, Nat.zero_le _, fun _ => rfl, hn, fun hp => by omega⟩
  · refine ⟨some ⟨g, 0, none⟩, xs.length, cap, hv, hn, hm, (fun h => by cases h), rfl, fun hp => ⟨g, 0, cur, 3, (0, 0), rfl, hh, Or.inl rfl, fun i hi => ?_⟩⟩
    have h3 : (cur.toList.take (xs.length * 1))[i]? = (xs.map (Value.int .i64))[i]? := by rw [hx]
    rw [List.getElem?_take_of_lt (by omega)] at h3
    rw [Nat.zero_add, ← Array.getElem?_toList, h3]; simp [hi, List.getD]
def OwnRows (w : World) (B C : Nat) (v : Value) (xss : List (List Int)) : Prop :=
  ∃ vs : List Value, vs.length = xss.length ∧ w.ownsRow B 81 1 v xss.length vs ∧ ∀ i u, vs[i]? = some u → RowOf w C u (xss.getD i [])
theorem OwnRows.later {w w' : World} {B C : Nat} {v : Value} {xss : List (List Int)} (h : OwnRows w B C v xss) (hb : Below w.heap.size w w') : OwnRows w' B C v xss := by
  obtain ⟨vs, h1, h2, h3⟩ := h
  exact ⟨vs, h1, own_later h2 hb, fun i u hi => (h3 i u hi).later hb⟩
theorem OwnRows.mono {w : World} {B B' C C' : Nat} {v : Value} {xss : List (List Int)} (h : OwnRows w B C v xss) (hB : B' ≤ B) (hC : C ≤ C') : OwnRows w B' C' v xss := by
  obtain ⟨vs, h1, h2, h3⟩ := h
  exact ⟨vs, h1, own_mono h2 hB, fun i u hi => (h3 i u hi).mono hC⟩
theorem OwnRows.nil (w : World) (B C : Nat) : OwnRows w B C (.slice none 0 0) [] := ⟨[], rfl, own_nil _ _ _ _, fun i u hi => by simp at hi⟩
theorem OwnRows.app {w w' : World} {B C : Nat} {v v' : Value} {xss yss : List (List Int)} {vs us : List Value} (hC : C ≤ B) (h1 : vs.length = xss.length) (h2 : w.ownsRow B 81 1 v xss.length vs) (h3 : ∀ i u, vs[i]? = some u → RowOf w C u (xss.getD i []))
    (k1 : us.length = yss.length) (k3 : ∀ i u, us[i]? = some u → RowOf w C u (yss.getD i [])) (hown : w'.ownsRow B 81 1 v' (xss.length + yss.length) (vs ++ us)) (hg : w.grownBy w' v.ownBlock) : OwnRows w' B C v' (xss ++ yss) := by
  refine ⟨vs ++ us, by simp [h1, k1], by simpa using hown, fun i y hi => ?_⟩
  refine RowOf.grown ?_ hC h2 hg
  by_cases hlt : i < vs.length
  · rw [List.getElem?_append_left hlt] at hi
    have := h3 i y hi
    rwa [show (xss ++ yss).getD i [] = xss.getD i [] by simp [List.getD, List.getElem?_append_left (show i < xss.length by omega)]]
  · rw [List.getElem?_append_right (by omega)] at hi
    have := k3 _ y hi
    rwa [show (xss ++ yss).getD i [] = yss.getD (i - vs.length) [] by simp [List.getD, List.getElem?_append_right (show xss.length ≤ i by omega), h1]]
theorem OwnInts.push {w wr w1 : World} {v v' : Value} {xs : List Int} {y : Int} {N : Nat} (hN : xs.length = N) (hb : Below w.heap.size w wr) (h : wr.ownsRow w.heap.size 3 1 v N (xs.map (Value.int .i64))) (o : Obj)
    (hown : w1.ownsRow w.heap.size 3 1 v' (N + 1) (xs.map (Value.int .i64) ++ [.int .i64 y])) (hg : (wr.alloc o).grownBy w1 v.ownBlock) : OwnInts w1 w.heap.size v' (xs ++ [y]) ∧ Below w.heap.size w w1 := by
  refine ⟨?_, own_bel (below_alloc hb _) (h.alloc _) hg⟩
  unfold OwnInts
  rw [List.length_append, hN, List.map_append]
  exact hown
theorem OwnBools.push {w wr w1 : World} {v v' : Value} {xs : List Bool} {y : Bool} {N : Nat} (hN : xs.length = N) (hb : Below w.heap.size w wr) (h : wr.ownsRow w.heap.size 4 1 v N (xs.map Value.bool)) (o : Obj)
    (hown : w1.ownsRow w.heap.size 4 1 v' (N + 1) (xs.map Value.bool ++ [.bool y])) (hg : (wr.alloc o).grownBy w1 v.ownBlock) : OwnBools w1 w.heap.size v' (xs ++ [y]) ∧ Below w.heap.size w w1 := by
  refine ⟨?_, own_bel (below_alloc hb _) (h.alloc _) hg⟩
  unfold OwnBools
  rw [List.length_append, hN, List.map_append]
  exact hown
theorem OwnRows.pushv {w wr w1 : World} {C : Nat} {v v' u : Value} {xss : List (List Int)} {xs : List Int} {vs : List Value} {N : Nat} (hC : C ≤ w.heap.size) (hN : xss.length = N) (hb : Below w.heap.size w wr) (h1 : vs.length = N) (h2 : wr.ownsRow w.heap.size 81 1 v N vs)
    (h3 : ∀ i u, vs[i]? = some u → RowOf wr C u (xss.getD i [])) (hu : RowOf wr C u xs) (o : Obj) (hown : w1.ownsRow w.heap.size 81 1 v' (N + 1) (vs ++ [u])) (hg : (wr.alloc o).grownBy w1 v.ownBlock) :
    OwnRows w1 w.heap.size C v' (xss ++ [xs]) ∧ Below w.heap.size w w1 := by
  have hal : Below wr.heap.size wr (wr.alloc o) := below_alloc (Below.refl _ _) _
  refine ⟨OwnRows.app (w := wr.alloc o) (us := [u]) hC (h1.trans hN.symm) (by rw [hN]; exact h2.alloc _) (fun i y hi => (h3 i y hi).later hal) rfl (fun i y hi => ?_) (by rw [hN]; exact hown) hg, own_bel (below_alloc hb _) (h2.alloc _) hg⟩
  have h0 : i = 0 := by
    rcases Nat.eq_zero_or_pos i with h | h
    · exact h
    · rw [List.getElem?_eq_none (by simp; omega)] at hi; cases hi
  subst h0
  simp at hi; subst hi
  exact hu.later hal
theorem OwnRows.push {w wr w1 : World} {C : Nat} {v v' : Value} {xss : List (List Int)} {xs : List Int} {vs : List Value} {N : Nat} (hC : C ≤ w.heap.size) (hN : xss.length = N) (hb : Below w.heap.size w wr) (h1 : vs.length = N) (h2 : wr.ownsRow w.heap.size 81 1 v N vs)
    (h3 : ∀ i u, vs[i]? = some u → RowOf wr C u (xss.getD i [])) (hm : xs.length ≤ maxLen) (o : Obj) (hown : w1.ownsRow w.heap.size 81 1 v' (N + 1) (vs ++ [.slice (some ⟨wr.heap.size, 0, none⟩) xs.length xs.length]))
    (hg : ((wr.alloc (.cells (xs.map (Value.int .i64)).toArray 3)).alloc o).grownBy w1 v.ownBlock) :
    OwnRows w1 w.heap.size C v' (xss ++ [xs]) ∧ Below w.heap.size w w1 :=
  OwnRows.pushv hC hN (below_alloc hb _) h1 (h2.alloc _) (fun i y hi => (h3 i y hi).later (below_alloc (Below.refl _ _) _)) (RowOf.made wr C xs hm) o hown hg
end Go.Proofs.YtdaenbgjafalcaaDoor
namespace Go.Proofs.YtdaenbgjafalcaaDoor
open Go.ChangeShapes Go.WideShapes Go.ChangeAt Go.RowKit
open Go.ChangeMaps (open_string shut_string)
open Go.Deep (oneCellFields)
set_option linter.unusedVariables false
theorem own : ownKnob Tryd.prog.godebug = none := by kernel_rfl
theorem laidOut : laidOutB Tryd.prog = true := by kernel_rfl
def Fits (xs : List Int) : Prop := ∀ x ∈ xs, -9223372036854775808 ≤ x ∧ x ≤ 9223372036854775807
end Go.Proofs.YtdaenbgjafalcaaDoor
