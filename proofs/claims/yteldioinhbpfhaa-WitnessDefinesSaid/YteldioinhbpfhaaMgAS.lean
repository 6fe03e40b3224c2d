import Derived.Test.YteldioinhbpfhaaMgAR
import Derived.DeepKeys
import Derived.Laws.StructEq
import Derived.Test.YteldioinhbpfhaaMgAN
namespace Go.Proofs.Yteldioinhbpfhaa
open Go.ChangeShapes Go.WideShapes Go.ChangeAt Go.RowKit
set_option linter.unusedVariables false
theorem flatO_len : ∀ xs : List Op5, (flatO xs).length = xs.length * 5
  | [] => rfl
  | x :: xs => by
    have := flatO_len xs
    unfold flatO at this ⊢
    rw [List.flatMap_cons, List.length_append, this, List.length_cons]
    show 5 + xs.length * 5 = _
    omega
theorem ops_of_flat {ys : List Int} {len : Nat} (hl : ys.length = len * 5) : ∃ xs : List Op5, xs.length = len ∧ flatO xs = ys := by
  refine ⟨(List.range len).map fun i => ⟨ys.getD (i * 5) 0, ys.getD (i * 5 + 1) 0, ys.getD (i * 5 + 2) 0, ys.getD (i * 5 + 3) 0, ys.getD (i * 5 + 4) 0⟩, by simp, list_of_getD (by rw [flatO_len]; simp [hl]) fun j hj => ?_⟩
  rw [flatO_len] at hj
  simp only [List.length_map, List.length_range] at hj
  have h1 : j / 5 < len := by omega
  have h2 : j % 5 < 5 := by omega
  have h3 := flatO_at h2 ((List.range len).map fun i => (⟨ys.getD (i * 5) 0, ys.getD (i * 5 + 1) 0, ys.getD (i * 5 + 2) 0, ys.getD (i * 5 + 3) 0, ys.getD (i * 5 + 4) 0⟩ : Op5)) (j / 5)
  rw [show j / 5 * 5 + j % 5 = j by omega] at h3
  rw [h3]
  have h4 : oAt ((List.range len).map fun i => (⟨ys.getD (i * 5) 0, ys.getD (i * 5 + 1) 0, ys.getD (i * 5 + 2) 0, ys.getD (i * 5 + 3) 0, ys.getD (i * 5 + 4) 0⟩ : Op5)) (j / 5) = ⟨ys.getD (j / 5 * 5) 0, ys.getD (j / 5 * 5 + 1) 0, ys.getD (j / 5 * 5 + 2) 0, ys.getD (j / 5 * 5 + 3) 0, ys.getD (j / 5 * 5 + 4) 0⟩ := by
    unfold oAt; rw [List.getD_eq_getElem?_getD]; simp only [List.getElem?_map, List.getElem?_range h1, Option.map_some, Option.getD_some]
  rw [h4]
  have h5 : j % 5 = 0 ∨ j % 5 = 1 ∨ j % 5 = 2 ∨ j % 5 = 3 ∨ j % 5 = 4 := by omega
  rcases h5 with h | h | h | h | h <;> rw [h] <;> simp only [oFl, List.getD_cons_zero, List.getD_cons_succ] <;> exact congrArg (fun z => ys.getD z 0) (by omega)
theorem StructRow.opsA {w : World} {a : Option Addr} {len cap : Nat} (h : StructRow w 5 a len cap) : ∃ xs : List Op5, xs.length = len ∧ okI (flatO xs) ∧ RI (fun b => w.heap[b]?) (iOps xs) (.slice a len cap) := by
  obtain ⟨ys, h1, h2, h3⟩ := h.flat (by decide)
  obtain ⟨xs, rfl, rfl⟩ := ops_of_flat h1
  exact ⟨xs, rfl, h2, h3⟩
end Go.Proofs.Yteldioinhbpfhaa
namespace Go.Proofs.Yteldioinhbpfhaa
open Go.RowKit
set_option linter.unusedVariables false
set_option linter.unusedSimpArgs false
def isI64 (P : Program) (t : TypeId) : Bool := (match P.underlying t with | some (.int .i64) => true | _ => false) && P.plainKey t
def intFields (P : Program) : Nat → List Field → Bool
  | _, [] => true
  | k, f :: fs => f.name != "_" && f.offset == k && isI64 P f.type && intFields P (k + 1) fs
def eqOK (P : Program) (t n : Nat) : Bool := !P.eqGuardType P.depth t && match P.underlying t with
  | some (.struct fs) => intFields P 0 fs.toList && fs.toList.length == n && !P.stoodInHeld t
  | some (.array k e) => isI64 P e && P.cellsOf e == 1 && k == n && (P.info? e).isSome
  | _ => false
section
variable {P : Program}
def litI (a : Int) : AV := lt (.int .i64 a)
def eqRes (op : BinOp) (b : Bool) : Bool := match op with | .eql => b | _ => !b
variable {m : Nat} {Q : Exit → XS → Prop} {fr : List AV} {H : AHeap} {M : MS} {l : List Oper} {d : Option Tmp} {t2 ty : TypeId} {pos : String} {after : Array Edge} {g : Option (Nat × Bool)}
end
end Go.Proofs.Yteldioinhbpfhaa
namespace Go.Proofs.Yteldioinhbpfhaa
open Go.RowKit
def rwFl (x : Rw) : List Int := [x.s, x.k, x.n, x.r]
def flatR (xs : List Rw) : List Int := xs.flatMap rwFl
theorem flatR_at {j : Nat} (hj : j < 4) (xs : List Rw) (i : Nat) : (flatR xs).getD (i * 4 + j) 0 = (rwFl (rwAt xs i)).getD j 0 := by
  refine flat_at (g := rwFl) (w := 4) (fun _ => rfl) _ hj ?_ xs i
  match j, hj with | 0, _ | 1, _ | 2, _ | 3, _ => rfl
theorem flatR_s (xs : List Rw) (i : Nat) : (flatR xs).getD (i * 4) 0 = (rwAt xs i).s := flatR_at (j := 0) (by omega) xs i
theorem flatR_k (xs : List Rw) (i : Nat) : (flatR xs).getD (i * 4 + 1) 0 = (rwAt xs i).k := flatR_at (j := 1) (by omega) xs i
theorem flatR_n (xs : List Rw) (i : Nat) : (flatR xs).getD (i * 4 + 2) 0 = (rwAt xs i).n := flatR_at (j := 2) (by omega) xs i
theorem flatR_r (xs : List Rw) (i : Nat) : (flatR xs).getD (i * 4 + 3) 0 = (rwAt xs i).r := flatR_at (j := 3) (by omega) xs i
theorem flatR_len : ∀ xs : List Rw, (flatR xs).length = xs.length * 4
  | [] => rfl
  | x :: xs => by
    have := flatR_len xs
    unfold flatR at this ⊢
    rw [List.flatMap_cons, List.length_append, this, List.length_cons]
    show 4 + xs.length * 4 = _
    omega
abbrev rwA (x : Rw) : AV := .agg [lt (.int .i64 x.s), lt (.int .i64 x.k), lt (.int .i64 x.n), lt (.int .i64 x.r)]
abbrev iRws (xs : List Rw) : IV := .sl (fun j => .lit (.int .i64 ((flatR xs).getD j 0))) xs.length 4
abbrev obA (o : Ob) : AV := .agg [lt (.int .i64 o.S), lt (.int .i64 o.K), lt (.int .i64 o.I), .iv (iRws o.R)]
def pkFl (x : Pk) : List Int := [x.o, x.r]
def flatP (xs : List Pk) : List Int := xs.flatMap pkFl
theorem flatP_at {j : Nat} (hj : j < 2) (xs : List Pk) (i : Nat) : (flatP xs).getD (i * 2 + j) 0 = (pkFl (pkAt xs i)).getD j 0 := by
  refine flat_at (g := pkFl) (w := 2) (fun _ => rfl) _ hj ?_ xs i
  match j, hj with | 0, _ | 1, _ => rfl
theorem flatP_o (xs : List Pk) (i : Nat) : (flatP xs).getD (i * 2) 0 = (pkAt xs i).o := flatP_at (j := 0) (by omega) xs i
theorem flatP_r (xs : List Pk) (i : Nat) : (flatP xs).getD (i * 2 + 1) 0 = (pkAt xs i).r := flatP_at (j := 1) (by omega) xs i
theorem flatP_len : ∀ xs : List Pk, (flatP xs).length = xs.length * 2
  | [] => rfl
  | x :: xs => by
    have := flatP_len xs
    unfold flatP at this ⊢
    rw [List.flatMap_cons, List.length_append, this, List.length_cons]
    show 2 + xs.length * 2 = _
    omega
abbrev iPks (xs : List Pk) : IV := .sl (fun j => .lit (.int .i64 ((flatP xs).getD j 0))) xs.length 2
structure Ob.Ok (o : Ob) : Prop where
  S : -9223372036854775808 ≤ o.S ∧ o.S ≤ 9223372036854775807
  K : -9223372036854775808 ≤ o.K ∧ o.K ≤ 9223372036854775807
  I : -9223372036854775808 ≤ o.I ∧ o.I ≤ 9223372036854775807
end Go.Proofs.Yteldioinhbpfhaa
