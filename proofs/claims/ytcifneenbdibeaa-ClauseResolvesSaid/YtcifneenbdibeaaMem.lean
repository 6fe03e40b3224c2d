/- What the contracts say of memory, of any program: readings that stay when new memory is made. -/
import Derived.WalkKit
import Derived.WalkSpells
import Derived.WalkLawsBesides
import Derived.Below
import Derived.OneCell
namespace Go.Proofs.Ytcifneenbdibeaa
open Go.RowKit

theorem ret_int {k : IntKind} {a b : Int} (h : a = b) : Ending.returned (.int k a) = .returned (.int k b) := by rw [h]
theorem ret_bool {a b : Bool} (h : a = b) : Ending.returned (.bool a) = .returned (.bool b) := by rw [h]
theorem ret_int2 {k : IntKind} {a b c d : Int} (h : a = b) (h' : c = d) : Ending.returned (.tuple #[.int k a, .int k c]) = .returned (.tuple #[.int k b, .int k d]) := by rw [h, h']
theorem ret_intb {k : IntKind} {a b : Int} {c d : Bool} (h : a = b) (h' : c = d) : Ending.returned (.tuple #[.int k a, .bool c]) = .returned (.tuple #[.int k b, .bool d]) := by rw [h, h']

/-! ### Lists of numbers that lie in memory -/

/-- The first len numbers at a are xs. -/
def IntRow (w : World) (a : Option Addr) (len : Nat) (xs : List Int) : Prop :=
  xs.length = len ∧ len ≤ maxLen ∧ (0 < len → ∃ b off, a = some ⟨b, off, none⟩ ∧ ∀ i, i < len → w.cell? ⟨b, off + i, none⟩ = some (.int .i64 (xs.getD i 0)))

theorem IntRow.later {w w' : World} {a : Option Addr} {len : Nat} {xs : List Int} (h : IntRow w a len xs) (hb : Below w.heap.size w w') : IntRow w' a len xs :=
  ⟨h.1, h.2.1, fun hp => by
    obtain ⟨b, off, ha, hc⟩ := h.2.2 hp
    exact ⟨b, off, ha, fun i hi => cell_later hb (hc i hi)⟩⟩

/-- Numbers that were laid into a new block. -/
theorem IntRow.made (w : World) (t : TypeId) (xs : List Int) (hm : xs.length ≤ maxLen) : IntRow (w.alloc (.cells (xs.map (Value.int .i64)).toArray t)) (some ⟨w.heap.size, 0, none⟩) xs.length xs :=
  ⟨rfl, hm, fun _ => ⟨w.heap.size, 0, rfl, fun i hi => by
    have h : (w.alloc (.cells (xs.map (Value.int .i64)).toArray t)).cell? ⟨w.heap.size, i, none⟩ = (xs.map (Value.int .i64))[i]? := by
      simp [go_sem]
    rw [Nat.zero_add, h]; simp [hi, List.getD]⟩⟩

/-! ### 'nothing that was there changes', step by step -/
theorem below_step {w a b : World} (h : Below w.heap.size w a) (k : Below a.heap.size a b) : Below w.heap.size w b := h.trans (k.mono h.size)
theorem below_alloc {w a : World} (h : Below w.heap.size w a) (o : Obj) : Below w.heap.size w (a.alloc o) := h.alloc h.size o
theorem below_drew {w a : World} (h : Below w.heap.size w a) : Below w.heap.size w a.drew := h.drew
theorem below_drewN {w a : World} (h : Below w.heap.size w a) (n : Nat) : Below w.heap.size w (a.drewN n) := Go.below_drewN h n

/-- From an elder moment on: a step behind one that lies behind w. -/
theorem below_from {w a b : World} (h : Below w.heap.size w a) (k : Below a.heap.size a b) : Below w.heap.size w b := below_step h k

/-! ### A struct of two or three cells at the head of a block -/
def Box2 (w : World) (b : Nat) (x y : Value) : Prop := w.cell? ⟨b, 0, none⟩ = some x ∧ w.cell? ⟨b, 1, none⟩ = some y
def Box3 (w : World) (b : Nat) (x y z : Value) : Prop := w.cell? ⟨b, 0, none⟩ = some x ∧ w.cell? ⟨b, 1, none⟩ = some y ∧ w.cell? ⟨b, 2, none⟩ = some z
theorem Box2.later {w w' : World} {b : Nat} {x y : Value} (h : Box2 w b x y) (hb : Below w.heap.size w w') : Box2 w' b x y := ⟨cell_later hb h.1, cell_later hb h.2⟩
theorem Box3.later {w w' : World} {b : Nat} {x y z : Value} (h : Box3 w b x y z) (hb : Below w.heap.size w w') : Box3 w' b x y z := ⟨cell_later hb h.1, cell_later hb h.2.1, cell_later hb h.2.2⟩

theorem keep1 {w wx : World} {p : Addr} {x : Value} (hp : w.cell? p = some x) (hB : Below w.heap.size w wx) : Below w.heap.size w wx ∧ wx.cell? p = some x := ⟨hB, cell_later hB hp⟩
theorem keep2 {w wx : World} {p q : Addr} {x y : Value} (hp : w.cell? p = some x) (hq : w.cell? q = some y) (hB : Below w.heap.size w wx) : Below w.heap.size w wx ∧ wx.cell? p = some x ∧ wx.cell? q = some y := ⟨hB, cell_later hB hp, cell_later hB hq⟩
theorem keep3 {w wx : World} {p q r : Addr} {x y z : Value} (hp : w.cell? p = some x) (hq : w.cell? q = some y) (hr : w.cell? r = some z) (hB : Below w.heap.size w wx) : Below w.heap.size w wx ∧ wx.cell? p = some x ∧ wx.cell? q = some y ∧ wx.cell? r = some z := ⟨hB, cell_later hB hp, cell_later hB hq, cell_later hB hr⟩

/-! ### A block known whole -/
def Blk (w : World) (b : Nat) (vs : Array Value) (t : TypeId) : Prop := w.heap[b]? = some (.cells vs t (0, 0))
theorem Blk.lt {w : World} {b : Nat} {vs : Array Value} {t : TypeId} (h : Blk w b vs t) : b < w.heap.size := lt_of_block h
theorem Blk.later {w w' : World} {b : Nat} {vs : Array Value} {t : TypeId} (h : Blk w b vs t) (hb : Below w.heap.size w w') : Blk w' b vs t := (hb.block b h.lt).trans h
theorem Blk.cell {w : World} {b : Nat} {vs : Array Value} {t : TypeId} (h : Blk w b vs t) (i : Nat) : w.cell? ⟨b, i, none⟩ = vs[i]? := by unfold Blk at h; simp [World.cell?, h]
theorem Blk.free {w : World} {b : Nat} {vs : Array Value} {t : TypeId} (h : Blk w b vs t) (i : Nat) : w.frozen? ⟨b, i, none⟩ = false := by unfold Blk at h; simp [World.frozen?, h]
theorem Blk.made (w : World) (vs : Array Value) (t : TypeId) : Blk (w.alloc (.cells vs t)) w.heap.size vs t := by
  show (w.heap.push _)[w.heap.size]? = _
  simp
theorem Blk.at (w : World) (vs : Array Value) (t : TypeId) {b : Nat} (h : b = w.heap.size) : Blk (w.alloc (.cells vs t)) b vs t := h ▸ Blk.made w vs t
theorem Blk.drew {w : World} {b : Nat} {vs : Array Value} {t : TypeId} (h : Blk w b vs t) : Blk w.drew b vs t := h
theorem Blk.drewN {w : World} {b : Nat} {vs : Array Value} {t : TypeId} (h : Blk w b vs t) (n : Nat) : Blk (w.drewN n) b vs t := h
theorem Blk.other {w : World} {b : Nat} {vs : Array Value} {t : TypeId} (h : Blk w b vs t) {a : Addr} (ha : a.block ≠ b) (u : Value) : Blk (w.setCell a u) b vs t :=
  (Below.heap_setCell w a u b (Ne.symm ha)).trans h
theorem Blk.set {w : World} {b : Nat} {vs : Array Value} {t : TypeId} (h : Blk w b vs t) (i : Nat) (u : Value) : Blk (w.setCell ⟨b, i, none⟩ u) b (vs.setIfInBounds i u) t := by
  have hlt := h.lt
  have h' : w.heap[b] = .cells vs t (0, 0) := by unfold Blk at h; simpa [Array.getElem?_eq_getElem hlt] using h
  show (w.heap.modify b _)[b]? = _
  rw [Array.getElem?_eq_getElem (by simpa using hlt), Array.getElem_modify_self, h']
  rfl
theorem below_setCell {w a : World} (h : Below w.heap.size w a) {p : Addr} (hp : w.heap.size ≤ p.block) (u : Value) : Below w.heap.size w (a.setCell p u) := h.setCell hp u

/-- What a step that changes nothing that was there gives the walk: two rules and a bound. -/
theorem bcell {W w1 : World} (hb : Below W.heap.size W w1) : (∀ b o, b < W.heap.size → w1.cell? ⟨b, o, none⟩ = W.cell? ⟨b, o, none⟩) ∧ (∀ b o, b < W.heap.size → w1.frozen? ⟨b, o, none⟩ = W.frozen? ⟨b, o, none⟩) ∧ W.heap.size ≤ w1.heap.size :=
  ⟨fun b o h => hb.cell (p := ⟨b, o, none⟩) h, fun b o h => hb.frozen (p := ⟨b, o, none⟩) h, hb.size⟩

theorem below_set {w a : World} (h : Below w.heap.size w a) {b : Nat} (hb : w.heap.size ≤ b) (i : Nat) (u : Value) : Below w.heap.size w (a.setCell ⟨b, i, none⟩ u) := h.setCell (p := ⟨b, i, none⟩) hb u

/-! ### A cell that is to be written, whatever it holds -/
def cellAt (w : World) (p : Addr) : Value := (w.cell? p).getD undef
theorem cellAt_of {w : World} {p : Addr} {x : Value} (h : w.cell? p = some x) : w.cell? p = some (cellAt w p) := by unfold cellAt; rw [h]; rfl
theorem cellAt_set {w : World} {p : Addr} {x : Value} (h : w.cell? p = some x) (u : Value) : (w.setCell p u).cell? p = some (cellAt (w.setCell p u) p) := by
  obtain ⟨v, hv⟩ := cell?_setCell_some (p := p) (x := u) (q := p) h
  exact cellAt_of hv
theorem froz_later {w w' : World} {p : Addr} (hb : Below w.heap.size w w') (hlt : p.block < w.heap.size) (h : w.frozen? p = false) : w'.frozen? p = false := (hb.frozen hlt).trans h

end Go.Proofs.Ytcifneenbdibeaa
