import Derived.Test.YtcjnikkmjhagmaaGreatDoorMgBM
import Derived.Test.YtcjnikkmjhagmaaGreatDoorMgBK
namespace Go.Proofs.YtcjnikkmjhagmaaGreatDoor
open Go.RowKit
section
variable {n : Nat} {m : Int} {ord row : List Int}
def inU (n m : Int) (inn : List Bool) (M0 : List Bool) : Nat → List Bool
  | 0 => M0
  | k + 1 => (inU n m inn M0 k).set (nVar n m 2 k 0 - 1).toNat (inn.getD k false)
theorem nName_2 {n m a : Int} (h : nOk n m) (h1 : 0 ≤ a) (h2 : a < n) : nName n m 2 a 0 := ⟨h, by decide, by decide, h1, h2, by decide, by simp [nB]⟩
theorem nName_3 {n m a b : Int} (h : nOk n m) (h1 : 0 ≤ a) (h2 : a ≤ n) (h3 : 0 ≤ b) (h4 : b < m) : nName n m 3 a b := ⟨h, by decide, by decide, h1, (by show a < n + 1; omega), h3, h4⟩
end
end Go.Proofs.YtcjnikkmjhagmaaGreatDoor
namespace Go.Proofs.YtcjnikkmjhagmaaGreatDoor
open Go.RowKit
def orU (a b : List Bool) (k : Nat) : List Bool := (List.range k).map fun i => a.getD i false || b.getD i false
def mpM (n : Nat) (m : Int) (ord row : List Int) (inn : List Bool) : List Bool := inU n m inn (orU (ptU n m ord n) (srU n m row (n + 1)) (nVars n m).toNat) n
section
variable {n : Nat} {m : Int} {ord row : List Int} {inn : List Bool}
end
end Go.Proofs.YtcjnikkmjhagmaaGreatDoor
namespace Go.Proofs.YtcjnikkmjhagmaaGreatDoor
open Go.RowKit
theorem mCl_mem {o : Ob} {l : List Op5} {c : List Int} {k : Nat} : c ∈ mCl o l k ↔ ∃ i, i < k ∧ c ∈ mI o l i := by unfold mCl; simp [List.mem_flatMap]
theorem mP_mem {o : Ob} {l : List Op5} {c : List Int} {i k : Nat} : c ∈ mP o l i k ↔ ∃ p, p < k ∧ c ∈ mB o l i p o.S.toNat := by unfold mP; simp [List.mem_flatMap]
theorem mB_mem {o : Ob} {l : List Op5} {c : List Int} {i p k : Nat} : c ∈ mB o l i p k ↔ ∃ b, b < k ∧ c ∈ mA o l i p b := by unfold mB; simp [List.mem_flatMap]
def c1A (o : Ob) (l : List Op5) (i p b : Nat) : List Int := [-(nVar l.length o.S 1 i p), -(nVar l.length o.S 2 i 0), -(nVar l.length o.S 3 p b)] ++ (if 0 ≤ mvE o (oAt l i) b then [nVar l.length o.S 3 (p + 1 : Nat) (mvE o (oAt l i) b)] else [])
def c2A (o : Ob) (l : List Op5) (i p b : Nat) : List Int := [-(nVar l.length o.S 1 i p), nVar l.length o.S 2 i 0, -(nVar l.length o.S 3 p b), nVar l.length o.S 3 (p + 1 : Nat) b]
theorem mA_mem {o : Ob} {l : List Op5} {c : List Int} {i p b : Nat} : c ∈ mA o l i p b ↔ c = c1A o l i p b ∨ ((oAt l i).e = -1 ∧ c = c2A o l i p b) := by
  unfold mA
  rw [List.mem_append, List.mem_singleton]
  unfold c1A c2A
  by_cases h : (oAt l i).e = -1
  · rw [if_pos h, List.mem_singleton]
    exact ⟨fun hh => hh.imp id fun h2 => ⟨h, h2⟩, fun hh => hh.imp id fun h2 => h2.2⟩
  · rw [if_neg h]
    exact ⟨fun hh => hh.elim .inl fun h2 => by simp at h2, fun hh => hh.elim .inl fun h2 => absurd h2.1 h⟩
section
variable {o : Ob} {l : List Op5} {ord row : List Int} {inn : List Bool}
end
end Go.Proofs.YtcjnikkmjhagmaaGreatDoor
