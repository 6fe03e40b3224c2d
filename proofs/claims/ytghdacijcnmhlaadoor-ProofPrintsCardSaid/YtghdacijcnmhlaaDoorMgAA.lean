import Derived.WalkKit
import Derived.WalkSpells
import Derived.WalkLawsBesides
import Derived.Below
import Derived.OneCell
import Derived.Laws.AppendOwn
import Derived.Laws.AppendOwnNone
import Derived.Test.YtghdacijcnmhlaaDoorRows
import Derived.ProofKit
import Derived.OpenShut
import Derived.ShutString
import Derived.ChangeOld
import Derived.Lib.SmallJoins
import Derived.Deep.Slices
import Derived.Lib.ItoaNum
namespace Go.Proofs.YtghdacijcnmhlaaDoor
open Go.RowKit
theorem ret_int {k : IntKind} {a b : Int} (h : a = b) : Ending.returned (.int k a) = .returned (.int k b) := by rw [h]
theorem ret_intb {k : IntKind} {a b : Int} {c d : Bool} (h : a = b) (h' : c = d) : Ending.returned (.tuple #[.int k a, .bool c]) = .returned (.tuple #[.int k b, .bool d]) := by rw [h, h']
def IntRow (w : World) (a : Option Addr) (len : Nat) (xs : List Int) : Prop :=
  xs.length = len ∧ len ≤ maxLen ∧ (0 < len → ∃ b off, a = some ⟨b, off, none⟩ ∧ ∀ i, i < len → w.cell? ⟨b, off + i, none⟩ = some (.int .i64 (xs.getD i 0)))
theorem IntRow.later {w w' : World} {a : Option Addr} {len : Nat} {xs : List Int} (h : IntRow w a len xs) (hb : Below w.heap.size w w') : IntRow w' a len xs :=
  ⟨h.1, h.2.1, fun hp => by
    obtain ⟨b, off, ha, hc⟩ := h.2.2 hp
    exact ⟨b, off, ha, fun i hi => cell_later hb (hc i hi)⟩⟩
theorem IntRow.made (w : World) (t : TypeId) (xs : List Int) (hm : xs.length ≤ maxLen) : IntRow (w.alloc (.cells (xs.map (Value.int .i64)).toArray t)) (some ⟨w.heap.size, 0, none⟩) xs.length xs :=
  ⟨rfl, hm, fun _ => ⟨w.heap.size, 0, rfl, fun i hi => by
    have h : (w.alloc (.cells (xs.map (Value.int .i64)).toArray t)).cell? ⟨w.heap.size, i, none⟩ = (xs.map (Value.int .i64))[i]? := by
      simp [go_sem]
    rw [Nat.zero_add, h]; simp [hi, List.getD]⟩⟩
theorem below_step {w a b : World} (h : Below w.heap.size w a) (k : Below a.heap.size a b) : Below w.heap.size w b := h.trans (k.mono h.size)
theorem below_alloc {w a : World} (h : Below w.heap.size w a) (o : Obj) : Below w.heap.size w (a.alloc o) := h.alloc h.size o
theorem below_drew {w a : World} (h : Below w.heap.size w a) : Below w.heap.size w a.drew := h.drew
theorem below_drewN {w a : World} (h : Below w.heap.size w a) (n : Nat) : Below w.heap.size w (a.drewN n) := Go.below_drewN h n
def Box2 (w : World) (b : Nat) (x y : Value) : Prop := w.cell? ⟨b, 0, none⟩ = some x ∧ w.cell? ⟨b, 1, none⟩ = some y
def Box3 (w : World) (b : Nat) (x y z : Value) : Prop := w.cell? ⟨b, 0, none⟩ = some x ∧ w.cell? ⟨b, 1, none⟩ = some y ∧ w.cell? ⟨b, 2, none⟩ = some z
theorem Box2.later {w w' : World} {b : Nat} {x y : Value} (h : Box2 w b x y) (hb : Below w.heap.size w w') : Box2 w' b x y := ⟨cell_later hb h.1, cell_later hb h.2⟩
theorem Box3.later {w w' : World} {b : Nat} {x y z : Value} (h : Box3 w b x y z) (hb : Below w.heap.size w w') : Box3 w' b x y z := ⟨cell_later hb h.1, cell_later hb h.2.1, cell_later hb h.2.2⟩
def Blk (w : World) (b : Nat) (vs : Array Value) (t : TypeId) : Prop := w.heap[b]? = some (.cells vs t (0, 0))
theorem Blk.lt {w : World} {b : Nat} {vs : Array Value} {t : TypeId} (h : Blk w b vs t) : b < w.heap.size := lt_of_block h
theorem Blk.later {w w' : World} {b : Nat} {vs : Array Value} {t : TypeId} (h : Blk w b vs t) (hb : Below w.heap.size w w') : Blk w' b vs t := (hb.block b h.lt).trans h
theorem Blk.cell {w : World} {b : Nat} {vs : Array Value} {t : TypeId} (h : Blk w b vs t) (i : Nat) : w.cell? ⟨b, i, none⟩ = vs[i]? := by unfold Blk at h; simp [World.cell?, h]
theorem Blk.free {w : World} {b : Nat} {vs : Array Value} {t : TypeId} (h : Blk w b vs t) (i : Nat) : w.frozen? ⟨b, i, none⟩ = false := by unfold Blk at h; simp [World.frozen?, h]
theorem Blk.made (w : World) (vs : Array Value) (t : TypeId) : Blk (w.alloc (.cells vs t)) w.heap.size vs t := by
  show (w.heap.push _)[w.heap.size]? = _
  simp
theorem Blk.at (w : World) (vs : Array Value) (t : TypeId) {b : Nat} (h : b = w.heap.size) : Blk (w.alloc (.cells vs t)) b vs t := h ▸ Blk.made w vs t
theorem Blk.drew {w : World} {b : Nat} {vs : Array Value} {t : TypeId} (h : Blk w b vs t) : Blk w.drew b vs t := h
theorem Blk.drewN {w : World} {b : Nat} {vs : Array Value} {t : TypeId} (h : Blk w b vs t) (n : Nat) : Blk (w.drewN n) b vs t := h
theorem Blk.other {w : World} {b : Nat} {vs : Array Value} {t : TypeId} (h : Blk w b vs t) {a : Addr} (ha : a.block ≠ b) (u : Value) : Blk (w.setCell a u) b vs t :=
  (Below.heap_setCell w a u b (Ne.symm ha)).trans h
theorem Blk.set {w : World} {b : Nat} {vs : Array Value} {t : TypeId} (h : Blk w b vs t) (i : Nat) (u : Value) : Blk (w.setCell ⟨b, i, none⟩ u) b (vs.setIfInBounds i u) t := by
  have hlt := h.lt
  have h' : w.heap[b] = .cells vs t (0, 0) := by unfold Blk at h; simpa [Array.getElem?_eq_getElem hlt] using h
  show (w.heap.modify b _)[b]? = _
  rw [Array.getElem?_eq_getElem (by simpa using hlt), Array.getElem_modify_self, h']
  rfl
theorem below_set {w a : World} (h : Below w.heap.size w a) {b : Nat} (hb : w.heap.size ≤ b) (i : Nat) (u : Value) : Below w.heap.size w (a.setCell ⟨b, i, none⟩ u) := h.setCell (p := ⟨b, i, none⟩) hb u
def cellAt (w : World) (p : Addr) : Value := (w.cell? p).getD undef
end Go.Proofs.YtghdacijcnmhlaaDoor
namespace Go.Proofs.YtghdacijcnmhlaaDoor
open Go.RowKit
theorem own_nil (w : World) (B : Nat) (e : TypeId) (k : Nat) : w.ownsRow B e k (.slice none 0 0) 0 [] := ⟨by simp, Or.inl ⟨rfl, rfl⟩⟩
theorem own_later {w w' : World} {B : Nat} {e : TypeId} {k : Nat} {v : Value} {n : Nat} {xs : List Value} (h : w.ownsRow B e k v n xs) (hb : Below w.heap.size w w') : w'.ownsRow B e k v n xs := by
  obtain ⟨h1, h2⟩ := h
  refine ⟨h1, ?_⟩
  rcases h2 with h2 | ⟨g, cap, cur, hv, hg, hh, r⟩
  · exact Or.inl h2
  · exact Or.inr ⟨g, cap, cur, hv, hg, (hb.block g (lt_of_block hh)).trans hh, r⟩
theorem own_bel {w a w' : World} {e : TypeId} {k : Nat} {v : Value} {n : Nat} {xs : List Value} (h : Below w.heap.size w a) (ho : a.ownsRow w.heap.size e k v n xs) (hg : a.grownBy w' v.ownBlock) : Below w.heap.size w w' := by
  refine h.grown hg h.size (fun j hj => ?_)
  obtain ⟨_, h2⟩ := ho
  rcases h2 with ⟨hv, _⟩ | ⟨g, cap, cur, hv, hg', _⟩
  · subst hv; simp [Value.ownBlock] at hj
  · subst hv; simp [Value.ownBlock] at hj; omega
theorem own_mono {w : World} {B B' : Nat} {e : TypeId} {k : Nat} {v : Value} {n : Nat} {xs : List Value} (h : w.ownsRow B e k v n xs) (hB : B' ≤ B) : w.ownsRow B' e k v n xs := by
  obtain ⟨h1, h2⟩ := h
  refine ⟨h1, ?_⟩
  rcases h2 with h2 | ⟨g, cap, cur, hv, hg, r⟩
  · exact Or.inl h2
  · exact Or.inr ⟨g, cap, cur, hv, by omega, r⟩
theorem keep_grown {X w1 : World} {r : Option Nat} (hg : X.grownBy w1 r) {p : Addr} {x : Value} (h : X.cell? p = some x) (hne : some p.block ≠ r) : w1.cell? p = some x :=
  (World.cell?_of_block (hg.block _ (World.block_lt_of_cell? _ _ h) hne)).trans h
def CellRow (w : World) (a : Option Addr) (xs : List Value) : Prop := ∀ j u, xs[j]? = some u → ∃ b off, a = some ⟨b, off, none⟩ ∧ w.cell? ⟨b, off + j, none⟩ = some u
theorem CellRow.later {w w' : World} {a : Option Addr} {xs : List Value} (h : CellRow w a xs) (hb : Below w.heap.size w w') : CellRow w' a xs := fun j u hj => by
  obtain ⟨b, off, ha, hc⟩ := h j u hj
  exact ⟨b, off, ha, cell_later hb hc⟩
theorem own_read {w : World} {B : Nat} {e : TypeId} {k : Nat} {v : Value} {n : Nat} {xs : List Value} (h : w.ownsRow B e k v n xs) : ∃ a cap, v = .slice a n cap ∧ n ≤ cap ∧ cap ≤ maxLen ∧ CellRow w a xs := by
  obtain ⟨h1, h2⟩ := h
  rcases h2 with ⟨hv, hn⟩ | ⟨g, cap, cur, hv, hg, hh, hn, hm, hs, hx⟩
  · subst hn
    refine ⟨none, 0, hv, Nat.le_refl _, Nat.zero_le _, fun j u hj => ?_⟩
    have : xs = [] := List.length_eq_zero_iff.1 (by simpa using h1)
    subst this; simp at hj
  · refine ⟨some ⟨g, 0, none⟩, cap, hv, hn, hm, fun j u hj => ⟨g, 0, rfl, ?_⟩⟩
    have hj2 : j < xs.length := by
      rcases Nat.lt_or_ge j xs.length with h | h
      · exact h
      · rw [List.getElem?_eq_none h] at hj; cases hj
    have : w.cell? ⟨g, j, none⟩ = cur[j]? := by simp [World.cell?, hh]
    rw [Nat.zero_add, this, ← hj, ← hx]
    rw [← Array.getElem?_toList, List.getElem?_take_of_lt (by omega)]
theorem CellRow.made (w : World) (vs : List Value) (t : TypeId) : CellRow (w.alloc (.cells vs.toArray t)) (some ⟨w.heap.size, 0, none⟩) vs := fun j u hj =>
  ⟨w.heap.size, 0, rfl, by rw [Nat.zero_add]; have : (w.alloc (.cells vs.toArray t)).cell? ⟨w.heap.size, j, none⟩ = vs[j]? := by simp [go_sem]
                           rw [this, hj]⟩
def Ints (w : World) (v : Value) (xs : List Int) : Prop := ∃ a len cap, v = .slice a len cap ∧ len ≤ cap ∧ cap ≤ maxLen ∧ IntRow w a len xs
theorem Ints.later {w w' : World} {v : Value} {xs : List Int} (h : Ints w v xs) (hb : Below w.heap.size w w') : Ints w' v xs := by
  obtain ⟨a, len, cap, h1, h2, h3, h4⟩ := h
  exact ⟨a, len, cap, h1, h2, h3, h4.later hb⟩
theorem Ints.nil (w : World) : Ints w (.slice none 0 0) [] := ⟨none, 0, 0, rfl, Nat.le_refl _, Nat.zero_le _, rfl, Nat.zero_le _, fun h => by omega⟩
def OwnInts (w : World) (B : Nat) (v : Value) (xs : List Int) : Prop := w.ownsRow B 3 1 v xs.length (xs.map (Value.int .i64))
theorem OwnInts.later {w w' : World} {B : Nat} {v : Value} {xs : List Int} (h : OwnInts w B v xs) (hb : Below w.heap.size w w') : OwnInts w' B v xs := own_later h hb
theorem OwnInts.mono {w : World} {B B' : Nat} {v : Value} {xs : List Int} (h : OwnInts w B v xs) (hb : B' ≤ B) : OwnInts w B' v xs := own_mono h hb
theorem OwnInts.nil (w : World) (B : Nat) : OwnInts w B (.slice none 0 0) [] := own_nil _ _ _ _
def BoolRow (w : World) (a : Option Addr) (len : Nat) (bs : List Bool) : Prop :=
  bs.length = len ∧ len ≤ maxLen ∧ (0 < len → ∃ b off, a = some ⟨b, off, none⟩ ∧ ∀ i, i < len → w.cell? ⟨b, off + i, none⟩ = some (.bool (bs.getD i false)))
theorem BoolRow.later {w w' : World} {a : Option Addr} {len : Nat} {bs : List Bool} (h : BoolRow w a len bs) (hb : Below w.heap.size w w') : BoolRow w' a len bs :=
  ⟨h.1, h.2.1, fun hp => by
    obtain ⟨b, off, ha, hc⟩ := h.2.2 hp
    exact ⟨b, off, ha, fun i hi => cell_later hb (hc i hi)⟩⟩
def OwnBools (w : World) (B : Nat) (v : Value) (bs : List Bool) : Prop := w.ownsRow B 4 1 v bs.length (bs.map Value.bool)
theorem OwnBools.later {w w' : World} {B : Nat} {v : Value} {bs : List Bool} (h : OwnBools w B v bs) (hb : Below w.heap.size w w') : OwnBools w' B v bs := own_later h hb
theorem OwnBools.mono {w : World} {B B' : Nat} {v : Value} {bs : List Bool} (h : OwnBools w B v bs) (hb : B' ≤ B) : OwnBools w B' v bs := own_mono h hb
theorem OwnBools.nil (w : World) (B : Nat) : OwnBools w B (.slice none 0 0) [] := own_nil _ _ _ _
theorem OwnBools.row {w : World} {B : Nat} {v : Value} {bs : List Bool} (h : OwnBools w B v bs) : ∃ a cap, v = .slice a bs.length cap ∧ bs.length ≤ cap ∧ cap ≤ maxLen ∧ BoolRow w a bs.length bs := by
  obtain ⟨a, cap, hv, hn, hm, hc⟩ := own_read h
  refine ⟨a, cap, hv, hn, hm, rfl, by omega, fun hp => ?_⟩
  obtain ⟨b, off, ha, _⟩ := hc 0 (.bool (bs.getD 0 false)) (by simp [hp, List.getD])
  refine ⟨b, off, ha, fun i hi => ?_⟩
  obtain ⟨b', off', ha', hc'⟩ := hc i (.bool (bs.getD i false)) (by simp [hi, List.getD])
  rw [ha] at ha'; cases ha'
  exact hc'
def Rows2 (w : World) (a : Option Addr) (len : Nat) (xss : List (List Int)) : Prop :=
  xss.length = len ∧ len ≤ maxLen ∧ ∀ i, i < len → ∃ b off u, a = some ⟨b, off, none⟩ ∧ w.cell? ⟨b, off + i, none⟩ = some u ∧ Ints w u (xss.getD i [])
theorem Rows2.later {w w' : World} {a : Option Addr} {len : Nat} {xss : List (List Int)} (h : Rows2 w a len xss) (hb : Below w.heap.size w w') : Rows2 w' a len xss :=
  ⟨h.1, h.2.1, fun i hi => by
    obtain ⟨b, off, u, ha, hc, hu⟩ := h.2.2 i hi
    exact ⟨b, off, u, ha, cell_later hb hc, hu.later hb⟩⟩
def RowOf (w : World) (B : Nat) (v : Value) (xs : List Int) : Prop := ∃ a len cap, v = .slice a len cap ∧ len ≤ cap ∧ cap ≤ maxLen ∧ (a = none → cap = 0) ∧ xs.length = len ∧
  (0 < len → ∃ b off cs t fr, a = some ⟨b, off, none⟩ ∧ w.heap[b]? = some (.cells cs t fr) ∧ (t = 3 ∨ b < B) ∧ ∀ i, i < len → cs[off + i]? = some (.int .i64 (xs.getD i 0)))
theorem RowOf.later {w w' : World} {B : Nat} {v : Value} {xs : List Int} (h : RowOf w B v xs) (hb : Below w.heap.size w w') : RowOf w' B v xs := by
  obtain ⟨a, len, cap, hv, h1, h2, hn, h3, h4⟩ := h
  refine ⟨a, len, cap, hv, h1, h2, hn, h3, fun hp => ?_⟩
  obtain ⟨b, off, cs, t, fr, ha, hh, ht, hc⟩ := h4 hp
  exact ⟨b, off, cs, t, fr, ha, (hb.block b (lt_of_block hh)).trans hh, ht, hc⟩
theorem RowOf.mono {w : World} {B B' : Nat} {v : Value} {xs : List Int} (h : RowOf w B v xs) (hB : B ≤ B') : RowOf w B' v xs := by
  obtain ⟨a, len, cap, hv, h1, h2, hn, h3, h4⟩ := h
  refine ⟨a, len, cap, hv, h1, h2, hn, h3, fun hp => ?_⟩
  obtain ⟨b, off, cs, t, fr, ha, hh, ht, hc⟩ := h4 hp
  exact ⟨b, off, cs, t, fr, ha, hh, ht.imp id (fun h => by omega), hc⟩
theorem RowOf.grown {w w' : World} {B C : Nat} {v u : Value} {xs : List Int} {n : Nat} {ys : List Value} (h : RowOf w C v xs) (hC : C ≤ B) (hown : w.ownsRow B 31 1 u n ys) (hg : w.grownBy w' u.ownBlock) : RowOf w' C v xs := by
  obtain ⟨a, len, cap, hv, h1, h2, hn, h3, h4⟩ := h
  refine ⟨a, len, cap, hv, h1, h2, hn, h3, fun hp => ?_⟩
  obtain ⟨b, off, cs, t, fr, ha, hh, ht, hc⟩ := h4 hp
  refine ⟨b, off, cs, t, fr, ha, (hg.block b (lt_of_block hh) (fun e => ?_)).trans hh, ht, hc⟩
  obtain ⟨_, h5⟩ := hown
  rcases h5 with ⟨hu, _⟩ | ⟨g, gc, cur, hu, hg', hgh, _⟩
  · subst hu; simp [Value.ownBlock] at e
  · subst hu
    simp [Value.ownBlock] at e
    subst e
    rw [hgh] at hh
    simp only [Option.some.injEq, Obj.cells.injEq] at hh
    rcases ht with ht | ht
    · have := hh.2.1; subst ht; exact absurd this (by decide)
    · omega
theorem RowOf.made (w : World) (B : Nat) (xs : List Int) (hm : xs.length ≤ maxLen) : RowOf (w.alloc (.cells (xs.map (Value.int .i64)).toArray 3)) B (.slice (some ⟨w.heap.size, 0, none⟩) xs.length xs.length) xs :=
  ⟨_, _, _, rfl, Nat.le_refl _, hm, (fun h => by cases h), rfl, fun _ => ⟨w.heap.size, 0, _, 3, (0, 0), rfl, Blk.made w _ _, Or.inl rfl, fun i hi => by simp [hi, List.getD]⟩⟩
theorem OwnInts.row {w : World} {B B' : Nat} {v : Value} {xs : List Int} (h : OwnInts w B v xs) : RowOf w B' v xs := by
  obtain ⟨h1, h2⟩ := h
  rcases h2 with ⟨hv, hn⟩ | ⟨g, cap, cur, hv, hg, hh, hn, hm, hs, hx⟩
  · exact ⟨none, 0, 0, hv.trans rfl, Nat.le_refl _, Nat.zero_le _, fun _ => rfl, hn, fun hp => by omega⟩
  · refine ⟨some ⟨g, 0, none⟩, xs.length, cap, hv, hn, hm, (fun h => by cases h), rfl, fun hp => ⟨g, 0, cur, 3, (0, 0), rfl, hh, Or.inl rfl, fun i hi => ?_⟩⟩
    have h3 : (cur.toList.take (xs.length * 1))[i]? = (xs.map (Value.int .i64))[i]? := by rw [hx]
    rw [List.getElem?_take_of_lt (by omega)] at h3
    rw [Nat.zero_add, ← Array.getElem?_toList, h3]; simp [hi, List.getD]
def OwnRows (w : World) (B C : Nat) (v : Value) (xss : List (List Int)) : Prop :=
  ∃ vs : List Value, vs.length = xss.length ∧ w.ownsRow B 31 1 v xss.length vs ∧ ∀ i u, vs[i]? = some u → RowOf w C u (xss.getD i [])
theorem OwnRows.later {w w' : World} {B C : Nat} {v : Value} {xss : List (List Int)} (h : OwnRows w B C v xss) (hb : Below w.heap.size w w') : OwnRows w' B C v xss := by
  obtain ⟨vs, h1, h2, h3⟩ := h
  exact ⟨vs, h1, own_later h2 hb, fun i u hi => (h3 i u hi).later hb⟩
theorem OwnRows.mono {w : World} {B B' C C' : Nat} {v : Value} {xss : List (List Int)} (h : OwnRows w B C v xss) (hB : B' ≤ B) (hC : C ≤ C') : OwnRows w B' C' v xss := by
  obtain ⟨vs, h1, h2, h3⟩ := h
  exact ⟨vs, h1, own_mono h2 hB, fun i u hi => (h3 i u hi).mono hC⟩
theorem OwnRows.nil (w : World) (B C : Nat) : OwnRows w B C (.slice none 0 0) [] := ⟨[], rfl, own_nil _ _ _ _, fun i u hi => by simp at hi⟩
theorem OwnRows.app {w w' : World} {B C : Nat} {v v' : Value} {xss yss : List (List Int)} {vs us : List Value} (hC : C ≤ B) (h1 : vs.length = xss.length) (h2 : w.ownsRow B 31 1 v xss.length vs) (h3 : ∀ i u, vs[i]? = some u → RowOf w C u (xss.getD i []))
    (k1 : us.length = yss.length) (k3 : ∀ i u, us[i]? = some u → RowOf w C u (yss.getD i [])) (hown : w'.ownsRow B 31 1 v' (xss.length + yss.length) (vs ++ us)) (hg : w.grownBy w' v.ownBlock) : OwnRows w' B C v' (xss ++ yss) := by
  refine ⟨vs ++ us, by simp [h1, k1], by simpa using hown, fun i y hi => ?_⟩
  refine RowOf.grown ?_ hC h2 hg
  by_cases hlt : i < vs.length
  · rw [List.getElem?_append_left hlt] at hi
    have := h3 i y hi
    rwa [show (xss ++ yss).getD i [] = xss.getD i [] by simp [List.getD, List.getElem?_append_left (show i < xss.length by omega)]]
  · rw [List.getElem?_append_right (by omega)] at hi
    have := k3 _ y hi
    rwa [show (xss ++ yss).getD i [] = yss.getD (i - vs.length) [] by simp [List.getD, List.getElem?_append_right (show xss.length ≤ i by omega), h1]]
theorem OwnInts.push {w wr w1 : World} {v v' : Value} {xs : List Int} {y : Int} {N : Nat} (hN : xs.length = N) (hb : Below w.heap.size w wr) (h : wr.ownsRow w.heap.size 3 1 v N (xs.map (Value.int .i64))) (o : Obj)
    (hown : w1.ownsRow w.heap.size 3 1 v' (N + 1) (xs.map (Value.int .i64) ++ [.int .i64 y])) (hg : (wr.alloc o).grownBy w1 v.ownBlock) : OwnInts w1 w.heap.size v' (xs ++ [y]) ∧ Below w.heap.size w w1 := by
  refine ⟨?_, own_bel (below_alloc hb _) (h.alloc _) hg⟩
  unfold OwnInts
  rw [List.length_append, hN, List.map_append]
  exact hown
theorem OwnBools.push {w wr w1 : World} {v v' : Value} {xs : List Bool} {y : Bool} {N : Nat} (hN : xs.length = N) (hb : Below w.heap.size w wr) (h : wr.ownsRow w.heap.size 4 1 v N (xs.map Value.bool)) (o : Obj)
    (hown : w1.ownsRow w.heap.size 4 1 v' (N + 1) (xs.map Value.bool ++ [.bool y])) (hg : (wr.alloc o).grownBy w1 v.ownBlock) : OwnBools w1 w.heap.size v' (xs ++ [y]) ∧ Below w.heap.size w w1 := by
  refine ⟨?_, own_bel (below_alloc hb _) (h.alloc _) hg⟩
  unfold OwnBools
  rw [List.length_append, hN, List.map_append]
  exact hown
theorem OwnRows.pushv {w wr w1 : World} {C : Nat} {v v' u : Value} {xss : List (List Int)} {xs : List Int} {vs : List Value} {N : Nat} (hC : C ≤ w.heap.size) (hN : xss.length = N) (hb : Below w.heap.size w wr) (h1 : vs.length = N) (h2 : wr.ownsRow w.heap.size 31 1 v N vs)
    (h3 : ∀ i u, vs[i]? = some u → RowOf wr C u (xss.getD i [])) (hu : RowOf wr C u xs) (o : Obj) (hown : w1.ownsRow w.heap.size 31 1 v' (N + 1) (vs ++ [u])) (hg : (wr.alloc o).grownBy w1 v.ownBlock) :
    OwnRows w1 w.heap.size C v' (xss ++ [xs]) ∧ Below w.heap.size w w1 := by
  have hal : Below wr.heap.size wr (wr.alloc o) := below_alloc (Below.refl _ _) _
  refine ⟨OwnRows.app (w := wr.alloc o) (us := [u]) hC (h1.trans hN.symm) (by rw [hN]; exact h2.alloc _) (fun i y hi => (h3 i y hi).later hal) rfl (fun i y hi => ?_) (by rw [hN]; exact hown) hg, own_bel (below_alloc hb _) (h2.alloc _) hg⟩
  have h0 : i = 0 := by
    rcases Nat.eq_zero_or_pos i with h | h
    · exact h
    · rw [List.getElem?_eq_none (by simp; omega)] at hi; cases hi
  subst h0
  simp at hi; subst hi
  exact hu.later hal
theorem OwnRows.push {w wr w1 : World} {C : Nat} {v v' : Value} {xss : List (List Int)} {xs : List Int} {vs : List Value} {N : Nat} (hC : C ≤ w.heap.size) (hN : xss.length = N) (hb : Below w.heap.size w wr) (h1 : vs.length = N) (h2 : wr.ownsRow w.heap.size 31 1 v N vs)
    (h3 : ∀ i u, vs[i]? = some u → RowOf wr C u (xss.getD i [])) (hm : xs.length ≤ maxLen) (o : Obj) (hown : w1.ownsRow w.heap.size 31 1 v' (N + 1) (vs ++ [.slice (some ⟨wr.heap.size, 0, none⟩) xs.length xs.length]))
    (hg : ((wr.alloc (.cells (xs.map (Value.int .i64)).toArray 3)).alloc o).grownBy w1 v.ownBlock) :
    OwnRows w1 w.heap.size C v' (xss ++ [xs]) ∧ Below w.heap.size w w1 :=
  OwnRows.pushv hC hN (below_alloc hb _) h1 (h2.alloc _) (fun i y hi => (h3 i y hi).later (below_alloc (Below.refl _ _) _)) (RowOf.made wr C xs hm) o hown hg
end Go.Proofs.YtghdacijcnmhlaaDoor
namespace Go.Proofs.YtghdacijcnmhlaaDoor
open Go.ChangeShapes Go.WideShapes Go.ChangeAt Go.RowKit
open Go.ChangeMaps (open_string shut_string)
open Go.Deep (oneCellFields)
set_option linter.unusedVariables false
theorem own : ownKnob Tryd.prog.godebug = none := by kernel_rfl
theorem laidOut : laidOutB Tryd.prog = true := by kernel_rfl
def Fits (xs : List Int) : Prop := ∀ x ∈ xs, -9223372036854775808 ≤ x ∧ x ≤ 9223372036854775807
theorem open_row {P : Program} {H : Type} {enc : TypeId × Value → H} {W : World} {base : Nat} {sp : Nat → Bool} {held : Bool} {t e : TypeId} {a : Option Addr} {len cap : Nat} {x : DataW H} {pl : List MemPlace}
    (ht : P.underlying t = some (.slice e)) (he : P.underlying e = some (.int .i64)) (hc : P.cellsOf e = 1) (h : DataW.Trod enc P W base sp held t (.slice a len cap) x pl) : ∃ xs, IntRow W a len xs ∧ Fits xs ∧ len ≤ cap ∧ cap ≤ maxLen ∧ (a = none → cap = 0) := by
  obtain ⟨fuel, hf⟩ := h
  rcases open_ints ht he hc hf with ⟨hcs, _⟩ | ⟨y, l, c, zs, hcs, _, hl, hm, hz, _, hcell, hwz⟩
  · simp [Value.cells] at hcs
    obtain ⟨rfl, rfl, rfl⟩ := hcs
    exact ⟨[], ⟨rfl, Nat.zero_le _, fun h => by omega⟩, (fun x hx => by cases hx), Nat.le_refl _, Nat.zero_le _, fun _ => rfl⟩
  · simp [Value.cells] at hcs
    obtain ⟨rfl, rfl, rfl⟩ := hcs
    have hz' : len ≤ zs.length := by rw [hz]; split <;> omega
    refine ⟨zs.take len, ⟨by simp; omega, by omega, fun hp => ?_⟩, (fun x hx => bounds_i64 (hwz x (List.mem_of_mem_take hx))), hl, hm, (fun h => by cases h)⟩
    obtain ⟨b, off, spot⟩ := y
    have h0 := hcell 0 (by omega)
    have hspot : spot = none := by simpa [Addr.add] using World.cell?_spot h0
    subst hspot
    refine ⟨b, off, rfl, fun i hi => ?_⟩
    have h1 := hcell i (by omega)
    rw [show (zs.take len).getD i 0 = zs.getD i 0 by simp [List.getD, hi]]
    rw [← h1]
    by_cases h2 : i = 0 <;> simp [Addr.add, h2]
end Go.Proofs.YtghdacijcnmhlaaDoor
namespace Go.Proofs.YtghdacijcnmhlaaDoor
set_option linter.unusedVariables false
set_option linter.unusedSimpArgs false
open Go.RowKit
inductive IV where
  | lit (v : Value)
  | sl (get : Nat → IV) (len sz : Nat)
  | ptr (get : Nat → IV) (ext : Nat)
inductive AV where
  | iv (x : IV)
  | agg (xs : List AV)
  | tup (xs : List AV)
  | osl (o off len sz : Nat)
  | optr (o off : Nat)
  | xptr (o sz : Nat)
  | fn (f : FuncId) (first caps : List AV)
instance : Inhabited AV := ⟨.iv (.lit undef)⟩
abbrev lt (v : Value) : AV := .iv (.lit v)
abbrev uD : AV := .iv (.lit undef)
structure AObj where
  t : TypeId
  cells : List AV
abbrev AHeap := List (Option AObj)
def tabObj (k : IntKind) (zs : List Int) (x : Obj) : Prop := ∃ t fr, x = .cells (zs.map (Value.int k)).toArray t fr
def errObj (x : Obj) : Prop := ∃ te pe t fr, x = .cells #[.iface te pe] t fr
def baseTabs : List (Nat × (Obj → Prop)) := [(3, tabObj .u64 Go.Lib.pow10Tab), (2, errObj)]
def baseOk (fz : Nat → Option Obj) : Prop := ∀ p ∈ baseTabs, ∃ x, fz p.1 = some x ∧ p.2 x
theorem baseOk_up {fz fz' : Nat → Option Obj} (h : ∀ b x, fz b = some x → fz' b = some x) (k : baseOk fz) : baseOk fz' := fun p hp => by
  obtain ⟨x, e, q⟩ := k p hp
  exact ⟨x, h _ _ e, q⟩
class BaseAt (fz : Nat → Option Obj) : Prop where
  ok : baseOk fz
structure Gh where
  dom : Nat → Prop
  mu : Nat → Nat × Nat
  sz : Nat → Nat
  fz : Nat → Option Obj
  kp : Nat → Option Obj
  os : Os
  tape : Nat → Question → Nat
  output : Array (Nat × ByteArray)
  bs : baseOk fz
structure Gh.le (n : Nat) (G G' : Gh) : Prop where
  mu : ∀ o, G.dom o → G'.mu o = G.mu o
  sz : ∀ o, G.dom o → G'.sz o = G.sz o
  dom : ∀ o, G.dom o → G'.dom o
  back : ∀ o, o < n → G'.dom o → G.dom o
  fz : ∀ b x, G.fz b = some x → G'.fz b = some x
  kp : ∀ b x, G.kp b = some x → G'.kp b = some x
  new : ∀ b x y, G.kp b = some x → G'.fz b = some y → ∃ z, G.fz b = some z
  os : G'.os = G.os
  tape : G'.tape = G.tape
  output : G'.output = G.output
theorem Gh.le.refl (n : Nat) (G : Gh) : Gh.le n G G := ⟨fun _ _ => rfl, fun _ _ => rfl, fun _ h => h, fun _ _ h => h, fun _ _ h => h, fun _ _ h => h, fun _ _ y _ h => ⟨y, h⟩, rfl, rfl, rfl⟩
theorem Gh.le.trans {n m : Nat} {a b c : Gh} (h : Gh.le n a b) (k : Gh.le m b c) (hnm : n ≤ m) : Gh.le n a c :=
  ⟨fun o ho => (k.mu o (h.dom o ho)).trans (h.mu o ho), fun o ho => (k.sz o (h.dom o ho)).trans (h.sz o ho), fun o ho => k.dom o (h.dom o ho), fun o ho hd => h.back o ho (k.back o (by omega) hd), fun b x e => k.fz b x (h.fz b x e), fun b x e => k.kp b x (h.kp b x e), fun b x y e f => (by obtain ⟨z, hz⟩ := k.new b x y (h.kp b x e) f; exact h.new b x z e hz), k.os.trans h.os, k.tape.trans h.tape, k.output.trans h.output⟩
inductive RI (fz : Nat → Option Obj) : IV → Value → Prop
  | lit (v : Value) : RI fz (.lit v) v
  | nil (get : Nat → IV) (sz cap : Nat) : cap ≤ maxLen → RI fz (.sl get 0 sz) (.slice none 0 cap)
  | empty (get : Nat → IV) (sz : Nat) (a : Addr) (cap : Nat) : cap ≤ maxLen → RI fz (.sl get 0 sz) (.slice (some a) 0 cap)
  | sl (get : Nat → IV) (len sz b off cap : Nat) (cs : Array Value) (t : TypeId) (fr : Nat × Nat) (vs : Nat → Value) :
      fz b = some (.cells cs t fr) → (∀ j, j < len * sz → cs[off + j]? = some (vs j)) → (∀ j, j < len * sz → RI fz (get j) (vs j)) → len ≤ cap → cap ≤ maxLen →
      RI fz (.sl get len sz) (.slice (some ⟨b, off, none⟩) len cap)
  | ptr (get : Nat → IV) (ext b off : Nat) (cs : Array Value) (t : TypeId) (fr : Nat × Nat) (vs : Nat → Value) :
      fz b = some (.cells cs t fr) → (∀ j, j < ext → cs[off + j]? = some (vs j)) → (∀ j, j < ext → RI fz (get j) (vs j)) →
      RI fz (.ptr get ext) (.pointer (some ⟨b, off, none⟩))
theorem RI.mono {fz fz' : Nat → Option Obj} (h : ∀ b x, fz b = some x → fz' b = some x) {x : IV} {v : Value} (r : RI fz x v) : RI fz' x v := by
  induction r with
  | lit v => exact .lit v
  | nil get sz cap hc => exact .nil get sz cap hc
  | empty get sz a cap hc => exact .empty get sz a cap hc
  | sl get len sz b off cap cs t fr vs h1 h2 h3 h4 h5 ih => exact .sl get len sz b off cap cs t fr vs (h _ _ h1) h2 ih h4 h5
  | ptr get ext b off cs t fr vs h1 h2 h3 ih => exact .ptr get ext b off cs t fr vs (h _ _ h1) h2 ih
def AV.one : AV → Bool
  | .iv (.lit (.agg _)) | .iv (.lit (.tuple _)) | .agg _ | .tup _ => false
  | _ => true
inductive RA (n : Nat) (G : Gh) : AV → Value → Prop
  | iv (x : IV) (v : Value) : RI G.fz x v → RA n G (.iv x) v
  | agg (xs : List AV) (vs : List Value) : xs.length = vs.length → (∀ (i : Nat) (x : AV) (v : Value), xs[i]? = some x → vs[i]? = some v → RA n G x v) → xs.all AV.one = true → RA n G (.agg xs) (.agg vs.toArray)
  | tup (xs : List AV) (vs : List Value) : xs.length = vs.length → (∀ (i : Nat) (x : AV) (v : Value), xs[i]? = some x → vs[i]? = some v → RA n G x v) → RA n G (.tup xs) (.tuple vs.toArray)
  | osl (o off len sz b a cap : Nat) : G.dom o → (G.mu o).1 = b → (0 < cap → a = (G.mu o).2 + off) → len ≤ cap → cap ≤ maxLen → (0 < cap → a + cap * sz ≤ G.sz o) → RA n G (.osl o off len sz) (.slice (some ⟨b, a, none⟩) len cap)
  | onil (o off sz : Nat) : G.dom o → RA n G (.osl o off 0 sz) (.slice none 0 0)
  | optr (o off : Nat) : G.dom o → RA n G (.optr o off) (.pointer (some ⟨(G.mu o).1, (G.mu o).2 + off, none⟩))
  | xptr (o sz : Nat) : G.dom o → (G.mu o).2 = 0 → G.sz o = sz → RA n G (.xptr o sz) (.pointer (some ⟨(G.mu o).1, 0, none⟩))
  | fn (f : FuncId) (first caps : List AV) (vs us : List Value) : first.length = vs.length → caps.length = us.length → (∀ (i : Nat) (x : AV) (v : Value), first[i]? = some x → vs[i]? = some v → RA n G x v) → (∀ (i : Nat) (x : AV) (v : Value), caps[i]? = some x → us[i]? = some v → RA n G x v) →
      RA n G (.fn f first caps) (.func (.func f) vs.toArray us.toArray)
theorem RA.mono {n n' m : Nat} {G G' : Gh} (h : Gh.le m G G') (hn : n ≤ n') {x : AV} {v : Value} (r : RA n G x v) : RA n' G' x v := by
  induction r with
  | iv x v hr => exact .iv x v (hr.mono h.fz)
  | agg xs vs h1 h2 h3 ih => exact .agg xs vs h1 ih h3
  | tup xs vs h1 h2 ih => exact .tup xs vs h1 ih
  | osl o off len sz b a cap h1 h2 h3 h4 h5 h6 => exact .osl o off len sz b a cap (h.dom o h1) (by rw [h.mu o h1]; exact h2) (by rw [h.mu o h1]; exact h3) h4 h5 (by rw [h.sz o h1]; exact h6)
  | onil o off sz h1 => exact .onil o off sz (h.dom o h1)
  | optr o off h1 => rw [← h.mu o h1]; exact .optr o off (h.dom o h1)
  | xptr o sz h1 h2 h3 => rw [← h.mu o h1]; exact .xptr o sz (h.dom o h1) (by rw [h.mu o h1]; exact h2) (by rw [h.sz o h1]; exact h3)
  | fn f first caps vs us h1 h2 h3 h4 ih1 ih2 => exact .fn f first caps vs us h1 h2 ih1 ih2
def RL (n : Nat) (G : Gh) (xs : List AV) (vs : List Value) : Prop := xs.length = vs.length ∧ ∀ (i : Nat) (x : AV) (v : Value), xs[i]? = some x → vs[i]? = some v → RA n G x v
theorem RL.mono {n n' m : Nat} {G G' : Gh} (h : Gh.le m G G') (hn : n ≤ n') {xs : List AV} {vs : List Value} (r : RL n G xs vs) : RL n' G' xs vs :=
  ⟨r.1, fun i x v h1 h2 => (r.2 i x v h1 h2).mono h hn⟩
theorem RL.nil (n : Nat) (G : Gh) : RL n G [] [] := ⟨rfl, fun i x v h => by simp at h⟩
theorem RL.cons {n : Nat} {G : Gh} {x : AV} {v : Value} {xs : List AV} {vs : List Value} (h : RA n G x v) (r : RL n G xs vs) : RL n G (x :: xs) (v :: vs) :=
  ⟨by simp [r.1], fun i y u h1 h2 => by
    cases i with
    | zero => simp at h1 h2; subst h1 h2; exact h
    | succ i => exact r.2 i y u (by simpa using h1) (by simpa using h2)⟩
theorem RL.uncons {n : Nat} {G : Gh} {x : AV} {xs : List AV} {vs : List Value} (r : RL n G (x :: xs) vs) : ∃ v us, vs = v :: us ∧ RA n G x v ∧ RL n G xs us := by
  cases vs with
  | nil => have := r.1; simp at this
  | cons v us => exact ⟨v, us, rfl, r.2 0 x v rfl rfl, by simpa using r.1, fun i y u h1 h2 => r.2 (i + 1) y u (by simpa using h1) (by simpa using h2)⟩
theorem RL.unnil {n : Nat} {G : Gh} {vs : List Value} (r : RL n G [] vs) : vs = [] := List.length_eq_zero_iff.1 r.1.symm
theorem RL.append {n : Nat} {G : Gh} {xs ys : List AV} {vs us : List Value} (r : RL n G xs vs) (s : RL n G ys us) : RL n G (xs ++ ys) (vs ++ us) := by
  induction xs generalizing vs with
  | nil => rw [r.unnil]; exact s
  | cons x xs ih => obtain ⟨v, vs', rfl, h1, h2⟩ := r.uncons; exact RL.cons h1 (ih h2)
theorem RL.at {n : Nat} {G : Gh} {xs : List AV} {vs : List Value} (r : RL n G xs vs) {i : Nat} {x : AV} (h : xs[i]? = some x) : ∃ v, vs[i]? = some v ∧ RA n G x v := by
  have hi : i < xs.length := (List.getElem?_eq_some_iff.1 h).1
  have hi' : i < vs.length := by rw [← r.1]; exact hi
  exact ⟨vs[i], List.getElem?_eq_getElem hi', r.2 i x _ h (List.getElem?_eq_getElem hi')⟩
theorem RL.at_back {n : Nat} {G : Gh} {xs : List AV} {vs : List Value} (r : RL n G xs vs) {i : Nat} {v : Value} (h : vs[i]? = some v) : ∃ x, xs[i]? = some x ∧ RA n G x v := by
  have hi : i < vs.length := (List.getElem?_eq_some_iff.1 h).1
  have hi' : i < xs.length := by rw [r.1]; exact hi
  exact ⟨xs[i], List.getElem?_eq_getElem hi', r.2 i _ v (List.getElem?_eq_getElem hi') h⟩
theorem RL.take {n : Nat} {G : Gh} {xs : List AV} {vs : List Value} (r : RL n G xs vs) (k : Nat) : RL n G (xs.take k) (vs.take k) := by
  refine ⟨by simp [r.1], fun i x v h1 h2 => ?_⟩
  rw [List.getElem?_take] at h1 h2
  split at h1
  · rename_i hlt; rw [if_pos hlt] at h2; exact r.2 i x v h1 h2
  · cases h1
theorem RL.drop {n : Nat} {G : Gh} {xs : List AV} {vs : List Value} (r : RL n G xs vs) (k : Nat) : RL n G (xs.drop k) (vs.drop k) := by
  refine ⟨by simp [r.1], fun i x v h1 h2 => ?_⟩
  rw [List.getElem?_drop] at h1 h2
  exact r.2 _ x v h1 h2
theorem RL.set {n : Nat} {G : Gh} {xs : List AV} {vs : List Value} (r : RL n G xs vs) (k : Nat) {x : AV} {v : Value} (h : RA n G x v) : RL n G (xs.set k x) (vs.set k v) := by
  refine ⟨by simp [r.1], fun i y u h1 h2 => ?_⟩
  rw [List.getElem?_set] at h1 h2
  by_cases hk : k = i
  · subst hk
    rw [if_pos rfl] at h1 h2
    split at h1
    · rename_i hl; rw [if_pos (by rw [← r.1]; exact hl)] at h2; cases h1; cases h2; exact h
    · cases h1
  · rw [if_neg hk] at h1 h2
    exact r.2 i y u h1 h2
def ObjAt (G : Gh) (n : Nat) (w : World) (o : Nat) (x : AObj) : Prop := ∃ cs : Array Value, w.heap[(G.mu o).1]? = some (.cells cs x.t (0, 0)) ∧ cs.size = G.sz o ∧ RL n G x.cells ((cs.toList.drop (G.mu o).2).take x.cells.length) ∧ x.cells.all AV.one = true ∧ G.fz (G.mu o).1 = none ∧ G.kp (G.mu o).1 = none
structure Inv (G : Gh) (H : AHeap) (w : World) : Prop where
  os : w.os = G.os
  tape : w.tape = G.tape
  output : w.output = G.output
  fz : ∀ b x, G.fz b = some x → w.heap[b]? = some x
  kp : ∀ b x, G.kp b = some x → w.heap[b]? = some x
  dom : ∀ o, G.dom o → o < H.length
  live : ∀ o x, H[o]? = some (some x) → G.dom o
  obj : ∀ o x, H[o]? = some (some x) → (x.cells = [] ∧ G.sz o = 0) ∨ (G.sz o ≠ 0 ∧ ObjAt G H.length w o x)
  inj : ∀ o o' x x', H[o]? = some (some x) → H[o']? = some (some x') → o ≠ o' → G.sz o ≠ 0 → G.sz o' ≠ 0 → (G.mu o).1 ≠ (G.mu o').1
theorem Inv.real {G : Gh} {H : AHeap} {w : World} (h : Inv G H w) {o : Nat} {x : AObj} (ho : H[o]? = some (some x)) (hx : x.cells ≠ []) : G.sz o ≠ 0 ∧ ObjAt G H.length w o x :=
  (h.obj o x ho).resolve_left fun e => hx e.1
structure AS where
  fr : List AV
  H : AHeap
structure Rst (G : Gh) (s : AS) (a : Act) (w : World) : Prop where
  defers : a.defers = []
  fr : RL s.H.length G s.fr a.tmps.toList
  inv : Inv G s.H w
end Go.Proofs.YtghdacijcnmhlaaDoor
