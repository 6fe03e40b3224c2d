import Derived.Test.YtghdacijcnmhlaaDoorMgAS
import Derived.Laws.EntriesVeiled
import Derived.Test.YtghdacijcnmhlaaDoorMgAR
namespace Go.Proofs.YtghdacijcnmhlaaDoor
open Go.RowKit
set_option linter.unusedVariables false
set_option linter.unusedSimpArgs false
def OneKeep (w w' : World) (b : Nat) : Prop := w.heap.size ≤ w'.heap.size ∧ (∀ k, k < w.heap.size → k ≠ b → w'.heap[k]? = w.heap[k]?) ∧ ∀ W : World, Below W.heap.size W w → W.heap.size ≤ b → Below W.heap.size W w'
theorem OneKeep.set {w w1 : World} {b : Nat} (h : OneKeep w w1 b) (i : Nat) (u : Value) : OneKeep w (w1.setCell ⟨b, i, none⟩ u) b :=
  ⟨by simpa using h.1, fun k h1 h2 => (Below.heap_setCell w1 ⟨b, i, none⟩ u k h2).trans (h.2.1 k h1 h2), fun W h1 h2 => below_set (h.2.2 W h1 h2) h2 i u⟩
theorem OneKeep.cell {w w' : World} {b : Nat} (h : OneKeep w w' b) {p : Addr} {x : Value} (hp : w.cell? p = some x) (hne : p.block ≠ b) : w'.cell? p = some x :=
  (World.cell?_of_block (h.2.1 _ (World.block_lt_of_cell? _ _ hp) hne)).trans hp
end Go.Proofs.YtghdacijcnmhlaaDoor
namespace Go.Proofs.YtghdacijcnmhlaaDoor
open Go.RowKit
set_option linter.unusedVariables false
set_option linter.unusedSimpArgs false
def cntC (h g o : Nat) : Array Value := #[.int .i64 h, .int .i64 g, .int .i64 o]
def cnt1 (l : List Int) (v x : Int) (n : Nat) : Nat := n + if aIs l v x = true then 1 else 0
def cntV (l c : List Int) : Value := .agg (cntC (aN l c 1) (aN l c (-1)) (aN l c 0))
end Go.Proofs.YtghdacijcnmhlaaDoor
namespace Go.Proofs.YtghdacijcnmhlaaDoor
open Go.RowKit
set_option linter.unusedVariables false
set_option linter.unusedSimpArgs false
end Go.Proofs.YtghdacijcnmhlaaDoor
namespace Go.Proofs.YtghdacijcnmhlaaDoor
open Go.RowKit
set_option linter.unusedVariables false
set_option linter.unusedSimpArgs false
def stUp (l : List Int) (xss : List (List Int)) : Int := if xss.all (fun c => decide (aCl l c = 1)) then 1 else 0
def FitsR' (xss : List (List Int)) : Prop := ∀ xs ∈ xss, Fits' xs
def ShortR (xss : List (List Int)) (n : Nat) : Prop := ∀ xs ∈ xss, xs.length ≤ n
def ValsAt (N : Nat) (cb : Array Value) (l : List Int) (w : World) : Prop := ∀ W, Below w.heap.size w W → ∀ (a : Option Addr) (len cap : Nat) (c : List Int), IntRow W a len c → len ≤ 1000000 → Fits' c → Calls Tryd.prog N (#[.slice a len cap] ++ cb) W fun e w' => e = .returned (.int .i64 (aCl l c)) ∧ Below W.heap.size W w'
theorem ValsAt.later {N : Nat} {cb : Array Value} {l : List Int} {w w' : World} (h : ValsAt N cb l w) (hb : Below w.heap.size w w') : ValsAt N cb l w' := fun W hW => h W (below_step hb hW)
def ValsPost (N : Nat) (l : List Int) (w : World) (e : Ending) (w' : World) : Prop := ∃ cb, e = .returned (.func (.func N) #[] cb) ∧ ValsAt N cb l w' ∧ Below w.heap.size w w'
end Go.Proofs.YtghdacijcnmhlaaDoor
