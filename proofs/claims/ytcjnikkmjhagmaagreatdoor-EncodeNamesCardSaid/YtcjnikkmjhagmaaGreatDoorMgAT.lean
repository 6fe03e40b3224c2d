import Derived.Test.YtcjnikkmjhagmaaGreatDoorMgAN
import Derived.Test.YtcjnikkmjhagmaaGreatDoorMgAO
import Derived.Test.YtcjnikkmjhagmaaGreatDoorMgAA
import Derived.Test.YtcjnikkmjhagmaaGreatDoorMgAB
namespace Go.Proofs.YtcjnikkmjhagmaaGreatDoor
set_option linter.unusedSimpArgs false
def nF (n m : Int) (k : Nat) : List Int := (List.range k).flatMap fun v => [(nOf n m ((v + 1 : Nat) : Int)).1, (nOf n m ((v + 1 : Nat) : Int)).2.1, (nOf n m ((v + 1 : Nat) : Int)).2.2]
theorem nF_succ (n m : Int) (k : Nat) : nF n m (k + 1) = nF n m k ++ [(nOf n m ((k + 1 : Nat) : Int)).1, (nOf n m ((k + 1 : Nat) : Int)).2.1, (nOf n m ((k + 1 : Nat) : Int)).2.2] := by
  unfold nF; rw [List.range_succ, List.flatMap_append]; simp
theorem nF_len (n m : Int) (k : Nat) : (nF n m k).length = k * 3 := by
  induction k with
  | zero => rfl
  | succ k ih => rw [nF_succ, List.length_append, ih]; simp; omega
theorem nF_at (n m : Int) {k j : Nat} (h : j < k) : (nF n m k).getD (j * 3) 0 = (nOf n m ((j + 1 : Nat) : Int)).1 ∧ (nF n m k).getD (j * 3 + 1) 0 = (nOf n m ((j + 1 : Nat) : Int)).2.1 ∧ (nF n m k).getD (j * 3 + 2) 0 = (nOf n m ((j + 1 : Nat) : Int)).2.2 := by
  induction k with
  | zero => omega
  | succ k ih =>
    rw [nF_succ]
    have hl := nF_len n m k
    have old : ∀ i, i < k * 3 → (nF n m k ++ [(nOf n m ((k + 1 : Nat) : Int)).1, (nOf n m ((k + 1 : Nat) : Int)).2.1, (nOf n m ((k + 1 : Nat) : Int)).2.2]).getD i 0 = (nF n m k).getD i 0 := fun i hi => by
      simp [List.getD, List.getElem?_append_left (by rw [hl]; exact hi : i < (nF n m k).length)]
    have new : ∀ i, (nF n m k ++ [(nOf n m ((k + 1 : Nat) : Int)).1, (nOf n m ((k + 1 : Nat) : Int)).2.1, (nOf n m ((k + 1 : Nat) : Int)).2.2]).getD (k * 3 + i) 0 = [(nOf n m ((k + 1 : Nat) : Int)).1, (nOf n m ((k + 1 : Nat) : Int)).2.1, (nOf n m ((k + 1 : Nat) : Int)).2.2].getD i 0 := fun i => by
      rw [List.getD_eq_getElem?_getD, List.getElem?_append_right (by rw [hl]; omega), hl, show k * 3 + i - k * 3 = i by omega, ← List.getD_eq_getElem?_getD]
    rcases Nat.lt_or_ge j k with h1 | h1
    · obtain ⟨a, b, c⟩ := ih h1
      exact ⟨(old _ (by omega)).trans a, (old _ (by omega)).trans b, (old _ (by omega)).trans c⟩
    · obtain rfl : j = k := by omega
      exact ⟨new 0, new 1, new 2⟩
theorem nOf_at' {o s k a b : Int} (h : nName o s k a b) {n : Nat} (hn : (n : Int) = nAhead o s k + a * nB o s k + b) : nOf o s ((n + 1 : Nat) : Int) = (k, a, b) := by
  have e : nVar o s k a b = ((n + 1 : Nat) : Int) := by unfold nVar; rw [if_pos h]; omega
  rw [← e]; exact nOf_var h
theorem nOf_1 {n m : Int} (hok : nOk n m) {a b j : Nat} (ha : (a : Int) < n) (hb : (b : Int) < n) (hj : (j : Int) = (a : Int) * n + b) : nOf n m ((j + 1 : Nat) : Int) = (1, (a : Int), (b : Int)) :=
  nOf_at' (k := 1) ⟨hok, by omega, by omega, by omega, by simp [nA]; omega, by omega, by simp [nB]; omega⟩ (by rw [hj]; simp [nAhead, nB])
theorem nOf_2 {n m : Int} (hok : nOk n m) {a j : Nat} (ha : (a : Int) < n) (hj : (j : Int) = n * n + a) : nOf n m ((j + 1 : Nat) : Int) = (2, (a : Int), 0) :=
  nOf_at' (k := 2) ⟨hok, by omega, by omega, by omega, by simp [nA]; omega, by omega, by simp [nB]⟩ (by rw [hj]; simp [nAhead, nB])
theorem nOf_3 {n m : Int} (hok : nOk n m) {a b j : Nat} (ha : (a : Int) ≤ n) (hb : (b : Int) < m) (hj : (j : Int) = n * n + n + ((a : Int) * m + b)) : nOf n m ((j + 1 : Nat) : Int) = (3, (a : Int), (b : Int)) :=
  nOf_at' (k := 3) ⟨hok, by omega, by omega, by omega, by simp [nA]; omega, by omega, by simp [nB]; omega⟩ (by rw [hj]; simp [nAhead, nB]; omega)
end Go.Proofs.YtcjnikkmjhagmaaGreatDoor
namespace Go.Proofs.YtcjnikkmjhagmaaGreatDoor
open Go.RowKit
set_option linter.unusedVariables false
def nmCells (n : Int × Int × Int) : List Value := [.int .i64 n.1, .int .i64 n.2.1, .int .i64 n.2.2]
def namesVals (o s : Int) (n : Nat) : List Value := (List.range n).flatMap fun i : Nat => nmCells (nOf o s ((i : Int) + 1))
theorem ref_Check31 (o s : Int) (w : World) : Calls Tryz.prog 85 #[.int .i64 o, .int .i64 s] w fun e w' => e = .returned (.int .i64 (nCheck o s)) ∧ w = w' := by
  go_enter Tryz.func85, Tryz.ntmps85
  go_wp2
  all_goals (go_returns; refine ⟨ret_int ?_, rfl⟩; first | rw [nCheck_yes (by unfold nOk; omega)] | rw [nCheck_no (by unfold nOk; omega)])
def NL (o s : Int) (w : World) (n : Nat) (v : Value) (wr : World) : Prop := wr.ownsRow w.heap.size 88 3 v n (namesVals o s n) ∧ Below w.heap.size w wr
end Go.Proofs.YtcjnikkmjhagmaaGreatDoor
namespace Go.Proofs.YtcjnikkmjhagmaaGreatDoor
open Go.ChangeShapes Go.WideShapes Go.ChangeAt Go.RowKit
open Go.Deep (oneCellFields)
set_option linter.unusedVariables false
theorem structs_of_trod {P : Program} {H : Type} {enc : TypeId × Value → H} {W : World} {base : Nat} {sp : Nat → Bool} {held : Bool} {t e T : TypeId} {v : Value} {n : Nat} {y : DataW H × List MemPlace} {fs : Array Field} {k : Nat}
    (ht : P.underlying t = some (.slice e)) (he : P.underlying e = some (.struct fs)) (hT : P.underlying T = some (.int .i64)) (hall : fs.toList.all (fun f => f.type == T) = true) (hone : oneCellFields P fs = true) (hk : fs.size = k) (hk0 : 0 < k) (hC : P.cellsOf e = k)
    (h : DataW.trod enc P W base sp held n t [v] = some y) : ∃ a len cap, v = .slice a len cap ∧ StructRow W k a len cap := by
  rcases Go.Deep.open_slice ht h with ⟨hcs, _⟩ | ⟨z, l, c, m, n', D, Pl, hcs, _⟩
  · simp only [List.cons.injEq, and_true] at hcs
    subst hcs
    exact ⟨none, 0, 0, rfl, open_structs ht he hT hall hone hk hk0 hC (x := y.1) (pl := y.2) ⟨n, h⟩⟩
  · simp only [List.cons.injEq, and_true] at hcs
    subst hcs
    exact ⟨some z, l, c, rfl, open_structs ht he hT hall hone hk hk0 hC (x := y.1) (pl := y.2) ⟨n, h⟩⟩
def ObjArg (W : World) (v : Value) : Prop := ∃ (x y z : Int) (a : Option Addr) (len cap : Nat), v = .agg #[.int .i64 x, .int .i64 y, .int .i64 z, .slice a len cap] ∧ (Lit.int .i64 x).wf = true ∧ (Lit.int .i64 y).wf = true ∧ (Lit.int .i64 z).wf = true ∧ StructRow W 4 a len cap
theorem open_object {P : Program} {H : Type} {enc : TypeId × Value → H} {w : World} {base b0 : Nat} {sp : Nat → Bool} {held : Bool} {r : Reach} {t q e T : TypeId} {v : Value} {d : DataW H} {pl : List MemPlace} {f0 f1 f2 f3 : Field} {fs : Array Field}
    (hs : P.underlying t = some (.struct #[f0, f1, f2, f3])) (hq : P.underlying q = some (.slice e)) (he : P.underlying e = some (.struct fs)) (hT : P.underlying T = some (.int .i64)) (hall : fs.toList.all (fun f => f.type == T) = true) (ho : oneCellFields P fs = true) (hk : fs.size = 4) (hC' : P.cellsOf e = 4)
    (hone : (oneCellFields P #[f0, f1, f2, f3] && decide (f0.type = T) && decide (f1.type = T) && decide (f2.type = T) && decide (f3.type = q)) = true) (hC : P.cellsOf t = 4)
    (hv : Value.okWide P w r b0 t v) (h : DataW.Trod enc P w base sp held t v d pl) : ObjArg w v := by
  simp only [Bool.and_eq_true, decide_eq_true_eq] at hone
  obtain ⟨⟨⟨⟨h1, h2⟩, h3⟩, h4⟩, h5⟩ := hone
  obtain ⟨v0, v1, v2, v3, y0, y1, y2, y3, n, rfl, _, _, k0, k1, k2, k3⟩ := Go.Joins.open_agg4 hs h1 hC hv h
  rw [h2] at k0; rw [h3] at k1; rw [h4] at k2; rw [h5] at k3
  obtain ⟨a0, e0, _, w0⟩ := DataW.trod_int hT k0
  obtain ⟨a1, e1, _, w1⟩ := DataW.trod_int hT k1
  obtain ⟨a2, e2, _, w2⟩ := DataW.trod_int hT k2
  simp at e0 e1 e2; subst e0 e1 e2
  obtain ⟨a, len, cap, rfl, hr⟩ := structs_of_trod hq he hT hall ho hk (by decide) hC' k3
  exact ⟨a0, a1, a2, a, len, cap, rfl, w0, w1, w2, hr⟩
def CaseArg (W : World) (v : Value) : Prop := ∃ (a : Option Addr) (len cap : Nat) (x y z : Int), v = .agg #[.slice a len cap, .int .i64 x, .int .i64 y, .int .i64 z] ∧ StructRow W 2 a len cap ∧ (Lit.int .i64 x).wf = true ∧ (Lit.int .i64 y).wf = true ∧ (Lit.int .i64 z).wf = true
end Go.Proofs.YtcjnikkmjhagmaaGreatDoor
