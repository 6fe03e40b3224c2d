import Derived.Test.YtdaenbgjafalcaaDoorMgAA
import Derived.Test.YtdaenbgjafalcaaDoorCards
import Derived.Test.YtdaenbgjafalcaaDoorTie
import Derived.ProofKit
import Derived.LaidMore
import Derived.OpenShut
import Derived.Stop.Joined
import Derived.SevenTiedAt
import Derived.Test.YtdaenbgjafalcaaDoorMgAB
import Derived.Test.YtdaenbgjafalcaaDoorRows
import Derived.Lib.LaidTab
namespace Go.Proofs.YtdaenbgjafalcaaDoor
def FChk (big n : Nat) (err : Nat → Int) (a c : Int) : Prop :=
  (big < n ∧ a = 0 ∧ c = 3) ∨ (n ≤ big ∧ ∃ i : Nat, i < n ∧ (∀ j, j < i → err j = 0) ∧ err i ≠ 0 ∧ a = i ∧ c = err i) ∨ (n ≤ big ∧ (∀ j, j < n → err j = 0) ∧ a = n ∧ c = 0)
theorem FChk.uniq {big n : Nat} {err : Nat → Int} {a c a' c' : Int} (h : FChk big n err a c) (h' : FChk big n err a' c') : a = a' ∧ c = c' := by
  rcases h with ⟨h1, h2, h3⟩ | ⟨h1, i, h2, h3, h4, h5, h6⟩ | ⟨h1, h2, h3, h4⟩ <;> rcases h' with ⟨k1, k2, k3⟩ | ⟨k1, j, k2, k3, k4, k5, k6⟩ | ⟨k1, k2, k3, k4⟩
  · omega
  · omega
  · omega
  · omega
  · rcases Nat.lt_trichotomy i j with h | h | h
    · exact absurd (k3 i h) h4
    · subst h; omega
    · exact absurd (h3 j h) k4
  · exact absurd (k2 i h2) h4
  · omega
  · exact absurd (h2 j k2) k4
  · omega
structure Ev3 where
  w : Int
  p : Int
  n : Int
def evAt (xs : List Ev3) (i : Nat) : Ev3 := xs.getD i ⟨0, 0, 0⟩
def eFl (x : Ev3) : List Int := [x.w, x.p, x.n]
def flatE (xs : List Ev3) : List Int := xs.flatMap eFl
def eMay (x : Ev3) : Int := if x.w ≠ 1 ∧ x.w ≠ 2 then 8 else if ¬ (1 ≤ x.p ∧ x.p ≤ 1000) then 2 else if x.w = 1 ∧ ¬ (0 ≤ x.n ∧ x.n ≤ 63) then 31 else if x.w = 2 ∧ ¬ (0 ≤ x.n ∧ x.n ≤ 1000000) then 7 else 0
theorem eMay_zero {x : Ev3} (h : eMay x = 0) : (x.w = 1 ∨ x.w = 2) ∧ 1 ≤ x.p ∧ x.p ≤ 1000 ∧ (x.w = 1 → 0 ≤ x.n ∧ x.n ≤ 63) ∧ (x.w = 2 → 0 ≤ x.n ∧ x.n ≤ 1000000) := by
  unfold eMay at h
  (repeat' split at h) <;> omega
def eLast (xs : List Ev3) : Nat → Int → Int
  | 0, _ => 0
  | k + 1, p => if (evAt xs k).p = p then (evAt xs k).w else eLast xs k p
def eWhere (xs : List Ev3) : Nat → Int → Int
  | 0, _ => -1
  | k + 1, p => if (evAt xs k).p = p then k else eWhere xs k p
theorem eWhere_lt (xs : List Ev3) (p : Int) : ∀ k, -1 ≤ eWhere xs k p ∧ eWhere xs k p < k
  | 0 => by unfold eWhere; omega
  | k + 1 => by
    have := eWhere_lt xs p k
    unfold eWhere
    split <;> omega
theorem eWhere_none {xs : List Ev3} {p : Int} : ∀ {k}, eWhere xs k p < 0 → eLast xs k p = 0
  | 0, _ => rfl
  | k + 1, h => by
    unfold eWhere at h
    unfold eLast
    split at h
    · omega
    · rename_i hp; rw [if_neg hp]; exact eWhere_none h
theorem eWhere_some {xs : List Ev3} {p : Int} : ∀ {k}, 0 ≤ eWhere xs k p → eLast xs k p = (evAt xs (eWhere xs k p).toNat).w
  | 0, h => by unfold eWhere at h; omega
  | k + 1, h => by
    unfold eWhere at h ⊢
    unfold eLast
    split
    · simp
    · rename_i hp; rw [if_neg hp] at h; exact eWhere_some h
def eErr (xs : List Ev3) (k : Nat) : Int := if eMay (evAt xs k) ≠ 0 then eMay (evAt xs k) else if (eLast xs k (evAt xs k).p = 1) ↔ (evAt xs k).w = 2 then 0 else 33
theorem eErr_may {xs : List Ev3} {k : Nat} (h : eMay (evAt xs k) ≠ 0) : eErr xs k = eMay (evAt xs k) := by unfold eErr; rw [if_pos h]
theorem eErr_open {xs : List Ev3} {k : Nat} (h : eMay (evAt xs k) = 0) (h2 : ¬ ((eLast xs k (evAt xs k).p = 1) ↔ (evAt xs k).w = 2)) : eErr xs k = 33 := by unfold eErr; rw [if_neg (by simpa using h), if_neg h2]
theorem eErr_none {xs : List Ev3} {k : Nat} (h : eMay (evAt xs k) = 0) (h2 : (eLast xs k (evAt xs k).p = 1) ↔ (evAt xs k).w = 2) : eErr xs k = 0 := by unfold eErr; rw [if_neg (by simpa using h), if_pos h2]
theorem eErr_zero {xs : List Ev3} {k : Nat} (h : eErr xs k = 0) : eMay (evAt xs k) = 0 ∧ ((eLast xs k (evAt xs k).p = 1) ↔ (evAt xs k).w = 2) := by
  unfold eErr at h
  split at h
  · exact absurd h ‹_›
  · rename_i h1
    split at h
    · exact ⟨by simpa using h1, ‹_›⟩
    · omega
theorem FChk.at {big n : Nat} {err : Nat → Int} {i : Nat} (hn : n ≤ big) (hi : i < n) (hp : ∀ j, j < i → err j = 0) {c : Int} (hc : err i = c) (h0 : c ≠ 0) : FChk big n err i c := .inr (.inl ⟨hn, i, hi, hp, by rw [hc]; exact h0, rfl, hc.symm⟩)
theorem FChk.big' {big n : Nat} {err : Nat → Int} (hn : big < n) : FChk big n err 0 3 := .inl ⟨hn, rfl, rfl⟩
theorem FChk.all {big n : Nat} {err : Nat → Int} (hn : n ≤ big) (hp : ∀ j, j < n → err j = 0) : FChk big n err n 0 := .inr (.inr ⟨hn, hp, rfl, rfl⟩)
theorem below_succ {err : Nat → Int} {i : Nat} (hp : ∀ j, j < i → err j = 0) (h : err i = 0) : ∀ j, j < i + 1 → err j = 0 := fun j hj => by
  rcases Nat.lt_or_ge j i with h1 | h1
  · exact hp j h1
  · rw [show j = i by omega]; exact h
def EChk (xs : List Ev3) (a c : Int) : Prop := FChk 10000 xs.length (eErr xs) a c
end Go.Proofs.YtdaenbgjafalcaaDoor
namespace Go.Proofs.YtdaenbgjafalcaaDoor
open Go.ChangeShapes Go.WideShapes Go.ChangeAt Go.RowKit
end Go.Proofs.YtdaenbgjafalcaaDoor
namespace Go.Proofs.YtdaenbgjafalcaaDoor
open Go.RowKit
set_option linter.unusedVariables false
section
variable {P : Program} {w : World}
theorem laidVars_at : ∀ {laid : List (String × DataW Unit)} {ps : List MemPlace}, DataW.LaidVars P w laid ps → ∀ {n : String} {d : DataW Unit}, (n, d) ∈ laid → ∃ g t cs fuel p, P.globalNamed n = some g ∧ (P.globals[g]?).map (·.type) = some t ∧ w.var? P n = some cs ∧ DataW.trod (fun _ => ()) P w 0 (fun _ => true) false fuel t cs.toList = some (d, p)
  | [], ps, h, n, d, hm => by cases hm
  | (n', d') :: r, ps, h, n, d, hm => by
    obtain ⟨g, t, cs, fuel, p, q, h1, h2, h3, h4, h5, _⟩ := h
    rcases List.mem_cons.1 hm with e | hm
    · cases e; exact ⟨g, t, cs, fuel, p, h1, h2, h3, h4⟩
    · exact laidVars_at h5 hm
theorem laidH_at {laid : List (String × DataW Unit)} (h : laidMetH P laid w) {n : String} {d : DataW Unit} (hm : (n, d) ∈ laid) (hn : d.handleName?.isNone = true) : ∃ g t cs fuel p, P.globalNamed n = some g ∧ (P.globals[g]?).map (·.type) = some t ∧ w.var? P n = some cs ∧ DataW.trod (fun _ => ()) P w 0 (fun _ => true) false fuel t cs.toList = some (d, p) := by
  unfold laidMetH at h
  split at h
  · obtain ⟨ps, h, _⟩ := h; exact laidVars_at h hm
  · obtain ⟨⟨ps, h, _⟩, _⟩ := h; exact laidVars_at h (List.mem_filter.2 ⟨hm, hn⟩)
theorem var_heap {n : String} {g : Nat} {cs : Array Value} (hg : P.globalNamed n = some g) (h : w.var? P n = some cs) : ∃ t fr, w.heap[g]? = some (.cells cs t fr) := by
  unfold World.var? at h
  rw [hg] at h
  simp only [Option.bind_some] at h
  split at h
  · rename_i c t fr e; cases h; exact ⟨t, fr, e⟩
  · cases h
theorem tab_at {laid : List (String × DataW Unit)} (h : laidMetH P laid w) {n : String} {k : IntKind} {zs : List Int} (hm : (n, Lib.tabData k zs) ∈ laid) {g : Nat} {t e : TypeId} {m : Nat} (hg : P.globalNamed n = some g) (hty : (P.globals[g]?).map (·.type) = some t) (ht : P.underlying t = some (.array m e)) (he : P.underlying e = some (.int k)) (hce : P.cellsOf e = 1) (hct : P.cellsOf t = m) : ∃ x, w.heap[g]? = some x ∧ tabObj k zs x := by
  obtain ⟨g', t', cs, fuel, p, h1, h2, h3, h4⟩ := laidH_at h hm rfl
  obtain rfl := Option.some.inj (hg.symm.trans h1)
  obtain rfl := Option.some.inj (hty.symm.trans h2)
  obtain ⟨ty, fr, hx⟩ := var_heap hg h3
  have hcs := Lib.cells_of_tab ht he hce hct h4
  refine ⟨_, hx, ty, fr, ?_⟩
  congr 1
  apply Array.toList_inj.1
  rw [hcs]
theorem trod_iface {H : Type} {enc : TypeId × Value → H} {base : Nat} {sp : Nat → Bool} {held : Bool} {fuel : Nat} {t : TypeId} {ms : Array (String × TypeId)} {cs : List Value} {nm : String} {d : DataW H} {p : List MemPlace} (ht : P.underlying t = some (.interface ms)) (h : DataW.trod enc P w base sp held fuel t cs = some (.iface nm d, p)) : ∃ te pe, cs = [.iface te pe] := by
  cases fuel with
  | zero => simp [DataW.trod] at h
  | succ fuel =>
    cases cs with
    | nil => simp [DataW.trod, ht] at h
    | cons c r =>
      cases r with
      | cons c2 r => simp [DataW.trod, ht] at h
      | nil => cases c <;> first | exact ⟨_, _, rfl⟩ | simp [DataW.trod, ht] at h
theorem err_at {laid : List (String × DataW Unit)} (h : laidMetH P laid w) {n nm : String} {d : DataW Unit} (hm : (n, DataW.iface nm d) ∈ laid) (hn : (DataW.iface nm d).handleName?.isNone = true) {g : Nat} {t : TypeId} {ms : Array (String × TypeId)} (hg : P.globalNamed n = some g) (hty : (P.globals[g]?).map (·.type) = some t) (ht : P.underlying t = some (.interface ms)) : ∃ x, w.heap[g]? = some x ∧ errObj x := by
  obtain ⟨g', t', cs, fuel, p, h1, h2, h3, h4⟩ := laidH_at h hm hn
  obtain rfl := Option.some.inj (hg.symm.trans h1)
  obtain rfl := Option.some.inj (hty.symm.trans h2)
  obtain ⟨ty, fr, hx⟩ := var_heap hg h3
  obtain ⟨te, pe, hcs⟩ := trod_iface ht h4
  refine ⟨_, hx, te, pe, ty, fr, ?_⟩
  congr 1
  apply Array.toList_inj.1
  rw [hcs]
end
end Go.Proofs.YtdaenbgjafalcaaDoor
