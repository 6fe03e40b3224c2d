import Derived.Test.YthgmjboldboclaaDoorMgAY
import Derived.Laws.EntriesVeiled
import Derived.Test.YthgmjboldboclaaDoorMgAX
namespace Go.Proofs.YthgmjboldboclaaDoor
open Go.RowKit
set_option linter.unusedVariables false
set_option linter.unusedSimpArgs false
def cntC (h g o : Nat) : Array Value := #[.int .i64 h, .int .i64 g, .int .i64 o]
def cnt1 (l : List Int) (v x : Int) (n : Nat) : Nat := n + if aIs l v x = true then 1 else 0
def cntV (l c : List Int) : Value := .agg (cntC (aN l c 1) (aN l c (-1)) (aN l c 0))
end Go.Proofs.YthgmjboldboclaaDoor
namespace Go.Proofs.YthgmjboldboclaaDoor
open Go.RowKit
set_option linter.unusedVariables false
set_option linter.unusedSimpArgs false
end Go.Proofs.YthgmjboldboclaaDoor
namespace Go.Proofs.YthgmjboldboclaaDoor
open Go.RowKit
set_option linter.unusedVariables false
set_option linter.unusedSimpArgs false
def stUp (l : List Int) (xss : List (List Int)) : Int := if xss.all (fun c => decide (aCl l c = 1)) then 1 else 0
theorem at_memR {xss : List (List Int)} {k len : Nat} (h : xss.length = len) (hk : k < len) : xss.getD k [] ∈ xss := by
  have hk' : k < xss.length := by rw [h]; exact hk
  simp [List.getD, hk']
def FitsR' (xss : List (List Int)) : Prop := ∀ xs ∈ xss, Fits' xs
def ShortR (xss : List (List Int)) (n : Nat) : Prop := ∀ xs ∈ xss, xs.length ≤ n
def ValsAt (N : Nat) (cb : Array Value) (l : List Int) (w : World) : Prop := ∀ W, Below w.heap.size w W → ∀ (a : Option Addr) (len cap : Nat) (c : List Int), IntRow W a len c → len ≤ 1000000 → Fits' c → Calls Tryd.prog N (#[.slice a len cap] ++ cb) W fun e w' => e = .returned (.int .i64 (aCl l c)) ∧ Below W.heap.size W w'
theorem ValsAt.later {N : Nat} {cb : Array Value} {l : List Int} {w w' : World} (h : ValsAt N cb l w) (hb : Below w.heap.size w w') : ValsAt N cb l w' := fun W hW => h W (below_step hb hW)
def ValsPost (N : Nat) (l : List Int) (w : World) (e : Ending) (w' : World) : Prop := ∃ cb, e = .returned (.func (.func N) #[] cb) ∧ ValsAt N cb l w' ∧ Below w.heap.size w w'
end Go.Proofs.YthgmjboldboclaaDoor
