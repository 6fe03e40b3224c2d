import Derived.Test.YtdeeighpamajaaaMgAP
import Derived.Test.YtdeeighpamajaaaMgAI
import Derived.Test.YtdeeighpamajaaaMgAB
import Derived.Test.YtdeeighpamajaaaMgAA
import Derived.Lib.SmallJoins
namespace Go.Proofs.Ytdeeighpamajaaa
open Go.RowKit
theorem pf_mAll (n : Int) (xs : List Int) (hx : xs.length ≤ 1000000) : PF Try.prog 39 [lt (.int .i64 n), .iv (iInts xs)] fun r H' => r = lt (.bool (mAll n xs)) ∧ H' = [] :=
  PF_of_walk ⟨_, rfl, by kernel_rfl, rfl⟩ fun G w vs hi hr => by
    obtain ⟨v1, us, rfl, r1, hr⟩ := hr.uncons
    obtain ⟨v2, us, rfl, r2, hr⟩ := hr.uncons
    rw [hr.unnil]
    have e1 := r1.lit_inv; subst e1
    cases r2 with
    | iv _ _ r2 =>
      obtain ⟨a, cap, rfl, _, _, hrow⟩ := ints_row hi.fz (by simp only [maxLen]; omega) r2
      exact rf_all n a xs.length cap xs hx w hrow
end Go.Proofs.Ytdeeighpamajaaa
namespace Go.Proofs.Ytdeeighpamajaaa
open Go.ChangeShapes Go.WideShapes Go.ChangeAt Go.RowKit
open Go.Deep (oneCellFields)
set_option linter.unusedVariables false
theorem structs_of_trod {P : Program} {H : Type} {enc : TypeId × Value → H} {W : World} {base : Nat} {sp : Nat → Bool} {held : Bool} {t e T : TypeId} {v : Value} {n : Nat} {y : DataW H × List MemPlace} {fs : Array Field} {k : Nat}
    (ht : P.underlying t = some (.slice e)) (he : P.underlying e = some (.struct fs)) (hT : P.underlying T = some (.int .i64)) (hall : fs.toList.all (fun f => f.type == T) = true) (hone : oneCellFields P fs = true) (hk : fs.size = k) (hk0 : 0 < k) (hC : P.cellsOf e = k)
    (h : DataW.trod enc P W base sp held n t [v] = some y) : ∃ a len cap, v = .slice a len cap ∧ StructRow W k a len cap := by
  rcases Go.Deep.open_slice ht h with ⟨hcs, _⟩ | ⟨z, l, c, m, n', D, Pl, hcs, _⟩
  · simp only [List.cons.injEq, and_true] at hcs
    subst hcs
    exact ⟨none, 0, 0, rfl, open_structs ht he hT hall hone hk hk0 hC (x := y.1) (pl := y.2) ⟨n, h⟩⟩
  · simp only [List.cons.injEq, and_true] at hcs
    subst hcs
    exact ⟨some z, l, c, rfl, open_structs ht he hT hall hone hk hk0 hC (x := y.1) (pl := y.2) ⟨n, h⟩⟩
/-- An object, as an argument. -/
def ObjArg (W : World) (v : Value) : Prop := ∃ (x y z : Int) (a : Option Addr) (len cap : Nat), v = .agg #[.int .i64 x, .int .i64 y, .int .i64 z, .slice a len cap] ∧ (Lit.int .i64 x).wf = true ∧ (Lit.int .i64 y).wf = true ∧ (Lit.int .i64 z).wf = true ∧ StructRow W 4 a len cap
theorem open_object {P : Program} {H : Type} {enc : TypeId × Value → H} {w : World} {base b0 : Nat} {sp : Nat → Bool} {held : Bool} {r : Reach} {t q e T : TypeId} {v : Value} {d : DataW H} {pl : List MemPlace} {f0 f1 f2 f3 : Field} {fs : Array Field}
    (hs : P.underlying t = some (.struct #[f0, f1, f2, f3])) (hq : P.underlying q = some (.slice e)) (he : P.underlying e = some (.struct fs)) (hT : P.underlying T = some (.int .i64)) (hall : fs.toList.all (fun f => f.type == T) = true) (ho : oneCellFields P fs = true) (hk : fs.size = 4) (hC' : P.cellsOf e = 4)
    (hone : (oneCellFields P #[f0, f1, f2, f3] && decide (f0.type = T) && decide (f1.type = T) && decide (f2.type = T) && decide (f3.type = q)) = true) (hC : P.cellsOf t = 4)
    (hv : Value.okWide P w r b0 t v) (h : DataW.Trod enc P w base sp held t v d pl) : ObjArg w v := by
  simp only [Bool.and_eq_true, decide_eq_true_eq] at hone
  obtain ⟨⟨⟨⟨h1, h2⟩, h3⟩, h4⟩, h5⟩ := hone
  obtain ⟨v0, v1, v2, v3, y0, y1, y2, y3, n, rfl, _, _, k0, k1, k2, k3⟩ := Go.Joins.open_agg4 hs h1 hC hv h
  rw [h2] at k0; rw [h3] at k1; rw [h4] at k2; rw [h5] at k3
  obtain ⟨a0, e0, _, w0⟩ := DataW.trod_int hT k0
  obtain ⟨a1, e1, _, w1⟩ := DataW.trod_int hT k1
  obtain ⟨a2, e2, _, w2⟩ := DataW.trod_int hT k2
  simp at e0 e1 e2; subst e0 e1 e2
  obtain ⟨a, len, cap, rfl, hr⟩ := structs_of_trod hq he hT hall ho hk (by decide) hC' k3
  exact ⟨a0, a1, a2, a, len, cap, rfl, w0, w1, w2, hr⟩
/-- Picks, and three numbers, as an argument. -/
def CaseArg (W : World) (v : Value) : Prop := ∃ (a : Option Addr) (len cap : Nat) (x y z : Int), v = .agg #[.slice a len cap, .int .i64 x, .int .i64 y, .int .i64 z] ∧ StructRow W 2 a len cap ∧ (Lit.int .i64 x).wf = true ∧ (Lit.int .i64 y).wf = true ∧ (Lit.int .i64 z).wf = true
end Go.Proofs.Ytdeeighpamajaaa
namespace Go.Proofs.Ytdeeighpamajaaa
open Go.ChangeShapes Go.WideShapes Go.ChangeAt Go.RowKit
open Go.Deep (oneCellFields)
set_option linter.unusedVariables false
theorem row_of_trod {P : Program} {H : Type} {enc : TypeId × Value → H} {W : World} {base : Nat} {sp : Nat → Bool} {held : Bool} {t e : TypeId} {u : Value} {n : Nat} {y : DataW H × List MemPlace}
    (ht : P.underlying t = some (.slice e)) (he : P.underlying e = some (.int .i64)) (hc : P.cellsOf e = 1) (h : DataW.trod enc P W base sp held n t [u] = some y) : ∃ a len cap xs, u = .slice a len cap ∧ IntRow W a len xs ∧ len ≤ cap ∧ cap ≤ maxLen := by
  rcases open_ints ht he hc h with ⟨hcs, _⟩ | ⟨z, l, c, zs, hcs, _⟩
  · simp only [List.cons.injEq, and_true] at hcs
    subst hcs
    obtain ⟨xs, h1, _, h2, h3, _⟩ := open_row ht he hc (x := y.1) (pl := y.2) ⟨n, h⟩
    exact ⟨none, 0, 0, xs, rfl, h1, h2, h3⟩
  · simp only [List.cons.injEq, and_true] at hcs
    subst hcs
    obtain ⟨xs, h1, _, h2, h3, _⟩ := open_row ht he hc (x := y.1) (pl := y.2) ⟨n, h⟩
    exact ⟨some z, l, c, xs, rfl, h1, h2, h3⟩
theorem brow_of_trod {P : Program} {H : Type} {enc : TypeId × Value → H} {W : World} {base : Nat} {sp : Nat → Bool} {held : Bool} {t e : TypeId} {u : Value} {n : Nat} {y : DataW H × List MemPlace}
    (ht : P.underlying t = some (.slice e)) (he : P.underlying e = some .bool) (hc : P.cellsOf e = 1) (h : DataW.trod enc P W base sp held n t [u] = some y) : ∃ a len cap xs, u = .slice a len cap ∧ BoolRow W a len xs ∧ len ≤ cap ∧ cap ≤ maxLen := by
  rcases Go.Deep.open_slice1 ht hc h with ⟨hcs, _⟩ | ⟨z, l, c, m, n', V, D, Pl, hcs, _⟩
  · simp only [List.cons.injEq, and_true] at hcs
    subst hcs
    obtain ⟨xs, h1, h2, h3, _⟩ := open_brow ht he hc (x := y.1) (pl := y.2) ⟨n, h⟩
    exact ⟨none, 0, 0, xs, rfl, h1, h2, h3⟩
  · simp only [List.cons.injEq, and_true] at hcs
    subst hcs
    obtain ⟨xs, h1, h2, h3, _⟩ := open_brow ht he hc (x := y.1) (pl := y.2) ⟨n, h⟩
    exact ⟨some z, l, c, xs, rfl, h1, h2, h3⟩
def MCaseArg (W : World) (v : Value) : Prop := ∃ (a : Option Addr) (l c : Nat) (xs : List Int) (a2 : Option Addr) (l2 c2 : Nat) (bs : List Bool) (a3 : Option Addr) (l3 c3 : Nat) (ys : List Int),
  v = .agg #[.slice a l c, .slice a2 l2 c2, .slice a3 l3 c3] ∧ (IntRow W a l xs ∧ l ≤ c ∧ c ≤ maxLen) ∧ (BoolRow W a2 l2 bs ∧ l2 ≤ c2 ∧ c2 ≤ maxLen) ∧ (IntRow W a3 l3 ys ∧ l3 ≤ c3 ∧ c3 ≤ maxLen)
theorem open_mcase {P : Program} {H : Type} {enc : TypeId × Value → H} {w : World} {base b0 : Nat} {sp : Nat → Bool} {held : Bool} {r : Reach} {t q B T b : TypeId} {v : Value} {d : DataW H} {pl : List MemPlace} {f0 f1 f2 : Field}
    (hs : P.underlying t = some (.struct #[f0, f1, f2])) (hq : P.underlying q = some (.slice T)) (hT : P.underlying T = some (.int .i64)) (hB : P.underlying B = some (.slice b)) (hb : P.underlying b = some .bool) (hcT : P.cellsOf T = 1) (hcb : P.cellsOf b = 1)
    (hone : (oneCellFields P #[f0, f1, f2] && decide (f0.type = q) && decide (f1.type = B) && decide (f2.type = q)) = true) (hC : P.cellsOf t = 3)
    (hv : Value.okWide P w r b0 t v) (h : DataW.Trod enc P w base sp held t v d pl) : MCaseArg w v := by
  simp only [Bool.and_eq_true, decide_eq_true_eq] at hone
  obtain ⟨⟨⟨h1, h2⟩, h3⟩, h4⟩ := hone
  obtain ⟨v0, v1, v2, y0, y1, y2, n, rfl, _, _, k0, k1, k2⟩ := Go.Joins.open_agg3 hs h1 hC hv h
  rw [h2] at k0; rw [h3] at k1; rw [h4] at k2
  obtain ⟨a, l, c, xs, rfl, g1⟩ := row_of_trod hq hT hcT k0
  obtain ⟨a2, l2, c2, bs, rfl, g2⟩ := brow_of_trod hB hb hcb k1
  obtain ⟨a3, l3, c3, ys, rfl, g3⟩ := row_of_trod hq hT hcT k2
  exact ⟨a, l, c, xs, a2, l2, c2, bs, a3, l3, c3, ys, rfl, g1, g2, g3⟩
end Go.Proofs.Ytdeeighpamajaaa
