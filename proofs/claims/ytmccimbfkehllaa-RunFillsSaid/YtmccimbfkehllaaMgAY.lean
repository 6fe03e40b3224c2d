import Derived.Test.YtmccimbfkehllaaMgAB
import Derived.Test.YtmccimbfkehllaaMgAP
import Derived.Test.YtmccimbfkehllaaMgAX
namespace Go.Proofs.Ytmccimbfkehllaa
open Go.ChangeShapes Go.WideShapes Go.ChangeAt Go.RowKit
open Go.Deep (oneCellFields)
set_option linter.unusedVariables false
theorem structs_of_trod {P : Program} {H : Type} {enc : TypeId × Value → H} {W : World} {base : Nat} {sp : Nat → Bool} {held : Bool} {t e T : TypeId} {v : Value} {n : Nat} {y : DataW H × List MemPlace} {fs : Array Field} {k : Nat}
    (ht : P.underlying t = some (.slice e)) (he : P.underlying e = some (.struct fs)) (hT : P.underlying T = some (.int .i64)) (hall : fs.toList.all (fun f => f.type == T) = true) (hone : oneCellFields P fs = true) (hk : fs.size = k) (hk0 : 0 < k) (hC : P.cellsOf e = k)
    (h : DataW.trod enc P W base sp held n t [v] = some y) : ∃ a len cap, v = .slice a len cap ∧ StructRow W k a len cap := by
  rcases Go.Deep.open_slice ht h with ⟨hcs, _⟩ | ⟨z, l, c, m, n', D, Pl, hcs, _⟩
  · simp only [List.cons.injEq, and_true] at hcs
    subst hcs
    exact ⟨none, 0, 0, rfl, open_structs ht he hT hall hone hk hk0 hC (x := y.1) (pl := y.2) ⟨n, h⟩⟩
  · simp only [List.cons.injEq, and_true] at hcs
    subst hcs
    exact ⟨some z, l, c, rfl, open_structs ht he hT hall hone hk hk0 hC (x := y.1) (pl := y.2) ⟨n, h⟩⟩
/-- An object, as an argument. -/
def ObjArg (W : World) (v : Value) : Prop := ∃ (x y z : Int) (a : Option Addr) (len cap : Nat), v = .agg #[.int .i64 x, .int .i64 y, .int .i64 z, .slice a len cap] ∧ (Lit.int .i64 x).wf = true ∧ (Lit.int .i64 y).wf = true ∧ (Lit.int .i64 z).wf = true ∧ StructRow W 4 a len cap
theorem open_object {P : Program} {H : Type} {enc : TypeId × Value → H} {w : World} {base b0 : Nat} {sp : Nat → Bool} {held : Bool} {r : Reach} {t q e T : TypeId} {v : Value} {d : DataW H} {pl : List MemPlace} {f0 f1 f2 f3 : Field} {fs : Array Field}
    (hs : P.underlying t = some (.struct #[f0, f1, f2, f3])) (hq : P.underlying q = some (.slice e)) (he : P.underlying e = some (.struct fs)) (hT : P.underlying T = some (.int .i64)) (hall : fs.toList.all (fun f => f.type == T) = true) (ho : oneCellFields P fs = true) (hk : fs.size = 4) (hC' : P.cellsOf e = 4)
    (hone : (oneCellFields P #[f0, f1, f2, f3] && decide (f0.type = T) && decide (f1.type = T) && decide (f2.type = T) && decide (f3.type = q)) = true) (hC : P.cellsOf t = 4)
    (hv : Value.okWide P w r b0 t v) (h : DataW.Trod enc P w base sp held t v d pl) : ObjArg w v := by
  simp only [Bool.and_eq_true, decide_eq_true_eq] at hone
  obtain ⟨⟨⟨⟨h1, h2⟩, h3⟩, h4⟩, h5⟩ := hone
  obtain ⟨v0, v1, v2, v3, y0, y1, y2, y3, n, rfl, _, _, k0, k1, k2, k3⟩ := Go.Joins.open_agg4 hs h1 hC hv h
  rw [h2] at k0; rw [h3] at k1; rw [h4] at k2; rw [h5] at k3
  obtain ⟨a0, e0, _, w0⟩ := DataW.trod_int hT k0
  obtain ⟨a1, e1, _, w1⟩ := DataW.trod_int hT k1
  obtain ⟨a2, e2, _, w2⟩ := DataW.trod_int hT k2
  simp at e0 e1 e2; subst e0 e1 e2
  obtain ⟨a, len, cap, rfl, hr⟩ := structs_of_trod hq he hT hall ho hk (by decide) hC' k3
  exact ⟨a0, a1, a2, a, len, cap, rfl, w0, w1, w2, hr⟩
/-- Picks, and three numbers, as an argument. -/
def CaseArg (W : World) (v : Value) : Prop := ∃ (a : Option Addr) (len cap : Nat) (x y z : Int), v = .agg #[.slice a len cap, .int .i64 x, .int .i64 y, .int .i64 z] ∧ StructRow W 2 a len cap ∧ (Lit.int .i64 x).wf = true ∧ (Lit.int .i64 y).wf = true ∧ (Lit.int .i64 z).wf = true
theorem open_case {P : Program} {H : Type} {enc : TypeId × Value → H} {w : World} {base b0 : Nat} {sp : Nat → Bool} {held : Bool} {r : Reach} {t q e T : TypeId} {v : Value} {d : DataW H} {pl : List MemPlace} {f0 f1 f2 f3 : Field} {fs : Array Field}
    (hs : P.underlying t = some (.struct #[f0, f1, f2, f3])) (hq : P.underlying q = some (.slice e)) (he : P.underlying e = some (.struct fs)) (hT : P.underlying T = some (.int .i64)) (hall : fs.toList.all (fun f => f.type == T) = true) (ho : oneCellFields P fs = true) (hk : fs.size = 2) (hC' : P.cellsOf e = 2)
    (hone : (oneCellFields P #[f0, f1, f2, f3] && decide (f0.type = q) && decide (f1.type = T) && decide (f2.type = T) && decide (f3.type = T)) = true) (hC : P.cellsOf t = 4)
    (hv : Value.okWide P w r b0 t v) (h : DataW.Trod enc P w base sp held t v d pl) : CaseArg w v := by
  simp only [Bool.and_eq_true, decide_eq_true_eq] at hone
  obtain ⟨⟨⟨⟨h1, h2⟩, h3⟩, h4⟩, h5⟩ := hone
  obtain ⟨v0, v1, v2, v3, y0, y1, y2, y3, n, rfl, _, _, k0, k1, k2, k3⟩ := Go.Joins.open_agg4 hs h1 hC hv h
  rw [h2] at k0; rw [h3] at k1; rw [h4] at k2; rw [h5] at k3
  obtain ⟨a1, e1, _, w1⟩ := DataW.trod_int hT k1
  obtain ⟨a2, e2, _, w2⟩ := DataW.trod_int hT k2
  obtain ⟨a3, e3, _, w3⟩ := DataW.trod_int hT k3
  simp at e1 e2 e3; subst e1 e2 e3
  obtain ⟨a, len, cap, rfl, hr⟩ := structs_of_trod hq he hT hall ho hk (by decide) hC' k0
  exact ⟨a, len, cap, a1, a2, a3, rfl, hr, w1, w2, w3⟩
end Go.Proofs.Ytmccimbfkehllaa
namespace Go.Proofs.Ytmccimbfkehllaa
open Go.RowKit
theorem wf_i {x : Int} (h : (Lit.int .i64 x).wf = true) : -9223372036854775808 ≤ x ∧ x ≤ 9223372036854775807 := bounds_i64 h
theorem okI_o {xs : List Pk} (h : okI (flatP xs)) (i : Nat) : -9223372036854775808 ≤ (pkAt xs i).o ∧ (pkAt xs i).o ≤ 9223372036854775807 := by
  have := h (i * 2)
  rwa [flatP_o] at this
theorem fits_at {xs : List Int} (h : Fits xs) (i : Nat) : -9223372036854775808 ≤ xs.getD i 0 ∧ xs.getD i 0 ≤ 9223372036854775807 := by
  rcases Nat.lt_or_ge i xs.length with hi | hi
  · rw [List.getD_eq_getElem?_getD, List.getElem?_eq_getElem hi]
    exact h _ (List.getElem_mem hi)
  · rw [List.getD_eq_getElem?_getD, List.getElem?_eq_none hi]; decide
theorem runTells_walk (w : World) (x y z : Int) (wx : (Lit.int .i64 x).wf = true) (wy : (Lit.int .i64 y).wf = true) (wz : (Lit.int .i64 z).wf = true) (a : Option Addr) (len cap : Nat) (hs : StructRow w 4 a len cap) (a2 : Option Addr) (len2 cap2 : Nat) (hs2 : StructRow w 5 a2 len2 cap2) (a3 : Option Addr) (len3 cap3 : Nat) (hs3 : StructRow w 2 a3 len3 cap3) (x2 y2 z2 : Int) (wx2 : (Lit.int .i64 x2).wf = true) (wy2 : (Lit.int .i64 y2).wf = true) (wz2 : (Lit.int .i64 z2).wf = true) :
    Calls Try.prog 3 #[.agg #[.int .i64 x, .int .i64 y, .int .i64 z, .slice a len cap], .slice a2 len2 cap2, .agg #[.slice a3 len3 cap3, .int .i64 x2, .int .i64 y2, .int .i64 z2]] w fun e w' => e = .returned (.bool true) ∧ Below w.heap.size w w' := by
  obtain ⟨xs, e1, _, r1⟩ := hs.rwsA
  obtain ⟨ys, e2, _, r2⟩ := hs2.opsA
  obtain ⟨zs, e3, o3, r3⟩ := hs3.pksA
  have b1 := hs.2.1; have b2 := hs2.2.1; have b3 := hs3.2.1
  have c1 := hs.1; have c2 := hs2.1; have c3 := hs3.1
  unfold maxLen at b1 b2 b3
  exact law_of (SF.mono (pf_RunTells ⟨x, y, z, xs⟩ ys zs x2 y2 z2 ⟨wf_i wx, wf_i wy, wf_i wz⟩ (by show xs.length ≤ _; omega) (by omega) (by omega) (okI_o o3)) fun r H' h => h.1) w _ (RL.three (RL.obj r1) (.iv _ _ r2) (RL.case' r3))
theorem runFills_walk (w : World) (x y z : Int) (wx : (Lit.int .i64 x).wf = true) (wy : (Lit.int .i64 y).wf = true) (wz : (Lit.int .i64 z).wf = true) (a : Option Addr) (len cap : Nat) (hs : StructRow w 4 a len cap) (a2 : Option Addr) (len2 cap2 : Nat) (hs2 : StructRow w 5 a2 len2 cap2) (a3 : Option Addr) (len3 cap3 : Nat) (m : List Int) (hm : IntRow w a3 len3 m) (hf : Fits m) (hc : len3 ≤ cap3 ∧ cap3 ≤ maxLen ∧ (a3 = none → cap3 = 0)) :
    Calls Try.prog 4 #[.agg #[.int .i64 x, .int .i64 y, .int .i64 z, .slice a len cap], .slice a2 len2 cap2, .slice a3 len3 cap3] w fun e w' => e = .returned (.bool true) ∧ Below w.heap.size w w' := by
  obtain ⟨xs, e1, _, r1⟩ := hs.rwsA
  obtain ⟨ys, e2, _, r2⟩ := hs2.opsA
  have b1 := hs.2.1; have b2 := hs2.2.1; have b3 := hc.2.1
  have c1 := hs.1; have c2 := hs2.1; have c3 := hc.1; have c4 := hm.1
  unfold maxLen at b1 b2 b3
  exact law_of (SF.mono (pf_RunFills ⟨x, y, z, xs⟩ ys m ⟨wf_i wx, wf_i wy, wf_i wz⟩ (by show xs.length ≤ _; omega) (by omega) (by omega) (fits_at hf)) fun r H' h => h.1) w _ (RL.three (RL.obj r1) (.iv _ _ r2) (.iv _ _ (ri_ints hm hc.1 hc.2.1)))
end Go.Proofs.Ytmccimbfkehllaa
