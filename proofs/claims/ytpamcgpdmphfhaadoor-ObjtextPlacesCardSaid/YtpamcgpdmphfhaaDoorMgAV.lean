import Derived.Test.YtpamcgpdmphfhaaDoorMgAU
import Derived.Test.YtpamcgpdmphfhaaDoorMgAA
namespace Go.Proofs.YtpamcgpdmphfhaaDoor
open Go.ChangeShapes Go.WideShapes Go.ChangeAt Go.RowKit
open Go.Deep (oneCellFields)
set_option linter.unusedVariables false
theorem structs_of_trod {P : Program} {H : Type} {enc : TypeId × Value → H} {W : World} {base : Nat} {sp : Nat → Bool} {held : Bool} {t e T : TypeId} {v : Value} {n : Nat} {y : DataW H × List MemPlace} {fs : Array Field} {k : Nat}
    (ht : P.underlying t = some (.slice e)) (he : P.underlying e = some (.struct fs)) (hT : P.underlying T = some (.int .i64)) (hall : fs.toList.all (fun f => f.type == T) = true) (hone : oneCellFields P fs = true) (hk : fs.size = k) (hk0 : 0 < k) (hC : P.cellsOf e = k)
    (h : DataW.trod enc P W base sp held n t [v] = some y) : ∃ a len cap, v = .slice a len cap ∧ StructRow W k a len cap := by
  rcases Go.Deep.open_slice ht h with ⟨hcs, _⟩ | ⟨z, l, c, m, n', D, Pl, hcs, _⟩
  · simp only [List.cons.injEq, and_true] at hcs
    subst hcs
    exact ⟨none, 0, 0, rfl, open_structs ht he hT hall hone hk hk0 hC (x := y.1) (pl := y.2) ⟨n, h⟩⟩
  · simp only [List.cons.injEq, and_true] at hcs
    subst hcs
    exact ⟨some z, l, c, rfl, open_structs ht he hT hall hone hk hk0 hC (x := y.1) (pl := y.2) ⟨n, h⟩⟩
def ObjArg (W : World) (v : Value) : Prop := ∃ (x y z : Int) (a : Option Addr) (len cap : Nat), v = .agg #[.int .i64 x, .int .i64 y, .int .i64 z, .slice a len cap] ∧ (Lit.int .i64 x).wf = true ∧ (Lit.int .i64 y).wf = true ∧ (Lit.int .i64 z).wf = true ∧ StructRow W 4 a len cap
theorem open_object {P : Program} {H : Type} {enc : TypeId × Value → H} {w : World} {base b0 : Nat} {sp : Nat → Bool} {held : Bool} {r : Reach} {t q e T : TypeId} {v : Value} {d : DataW H} {pl : List MemPlace} {f0 f1 f2 f3 : Field} {fs : Array Field}
    (hs : P.underlying t = some (.struct #[f0, f1, f2, f3])) (hq : P.underlying q = some (.slice e)) (he : P.underlying e = some (.struct fs)) (hT : P.underlying T = some (.int .i64)) (hall : fs.toList.all (fun f => f.type == T) = true) (ho : oneCellFields P fs = true) (hk : fs.size = 4) (hC' : P.cellsOf e = 4)
    (hone : (oneCellFields P #[f0, f1, f2, f3] && decide (f0.type = T) && decide (f1.type = T) && decide (f2.type = T) && decide (f3.type = q)) = true) (hC : P.cellsOf t = 4)
    (hv : Value.okWide P w r b0 t v) (h : DataW.Trod enc P w base sp held t v d pl) : ObjArg w v := by
  simp only [Bool.and_eq_true, decide_eq_true_eq] at hone
  obtain ⟨⟨⟨⟨h1, h2⟩, h3⟩, h4⟩, h5⟩ := hone
  obtain ⟨v0, v1, v2, v3, y0, y1, y2, y3, n, rfl, _, _, k0, k1, k2, k3⟩ := Go.Joins.open_agg4 hs h1 hC hv h
  rw [h2] at k0; rw [h3] at k1; rw [h4] at k2; rw [h5] at k3
  obtain ⟨a0, e0, _, w0⟩ := DataW.trod_int hT k0
  obtain ⟨a1, e1, _, w1⟩ := DataW.trod_int hT k1
  obtain ⟨a2, e2, _, w2⟩ := DataW.trod_int hT k2
  simp at e0 e1 e2; subst e0 e1 e2
  obtain ⟨a, len, cap, rfl, hr⟩ := structs_of_trod hq he hT hall ho hk (by decide) hC' k3
  exact ⟨a0, a1, a2, a, len, cap, rfl, w0, w1, w2, hr⟩
def CaseArg (W : World) (v : Value) : Prop := ∃ (a : Option Addr) (len cap : Nat) (x y z : Int), v = .agg #[.slice a len cap, .int .i64 x, .int .i64 y, .int .i64 z] ∧ StructRow W 2 a len cap ∧ (Lit.int .i64 x).wf = true ∧ (Lit.int .i64 y).wf = true ∧ (Lit.int .i64 z).wf = true
end Go.Proofs.YtpamcgpdmphfhaaDoor
namespace Go.Proofs.YtpamcgpdmphfhaaDoor
open Go.ChangeShapes Go.WideShapes Go.ChangeAt Go.RowKit
set_option linter.unusedVariables false
def IntsCell (w : World) (x : Value) : Prop := ∃ (a : Option Addr) (len cap : Nat) (xs : List Int), x = .slice a len cap ∧ IntRow w a len xs ∧ Fits xs ∧ len ≤ cap ∧ cap ≤ maxLen ∧ (a = none → cap = 0)
theorem ints_cell {P : Program} {H : Type} {enc : TypeId × Value → H} {W : World} {base : Nat} {sp : Nat → Bool} {held : Bool} {t e : TypeId} {v : Value} {n : Nat} {d : DataW H × List MemPlace}
    (ht : P.underlying t = some (.slice e)) (he : P.underlying e = some (.int .i64)) (hc : P.cellsOf e = 1) (hf : DataW.trod enc P W base sp held n t [v] = some d) : IntsCell W v := by
  rcases open_ints ht he hc hf with ⟨hcs, _⟩ | ⟨y, l, c, zs, hcs, _, hl, hm, hz, _, hcell, hwz⟩
  · simp at hcs
    exact ⟨none, 0, 0, [], hcs, ⟨rfl, Nat.zero_le _, fun h => by omega⟩, (fun x hx => by cases hx), Nat.le_refl _, Nat.zero_le _, fun _ => rfl⟩
  · simp at hcs
    have hz' : l ≤ zs.length := by rw [hz]; split <;> omega
    refine ⟨some y, l, c, zs.take l, hcs, ⟨by simp; omega, by omega, fun hp => ?_⟩, (fun x hx => bounds_i64 (hwz x (List.mem_of_mem_take hx))), hl, hm, (fun h => by cases h)⟩
    obtain ⟨b, off, spot⟩ := y
    have h0 := hcell 0 (by omega)
    have hspot : spot = none := by simpa [Addr.add] using World.cell?_spot h0
    subst hspot
    refine ⟨b, off, rfl, fun i hi => ?_⟩
    have h1 := hcell i (by omega)
    rw [show (zs.take l).getD i 0 = zs.getD i 0 by simp [List.getD, hi]]
    rw [← h1]
    by_cases h2 : i = 0 <;> simp [Addr.add, h2]
theorem open_ints2 {P : Program} {H : Type} {enc : TypeId × Value → H} {w : World} {base b0 : Nat} {sp : Nat → Bool} {held : Bool} {r : Reach} {t q e : TypeId} {v : Value} {d : DataW H} {pl : List MemPlace}
    (ht : P.underlying t = some (.array 2 q)) (hq : P.underlying q = some (.slice e)) (he : P.underlying e = some (.int .i64)) (hce : P.cellsOf e = 1) (hcq : P.cellsOf q = 1) (hCt : P.cellsOf t = 2)
    (hv : Value.okWide P w r b0 t v) (h : DataW.Trod enc P w base sp held t v d pl) : ∃ x y, v = .agg #[x, y] ∧ IntsCell w x ∧ IntsCell w y := by
  simp only [Value.okWide, ht] at hv
  obtain ⟨cs, rfl, h2, _⟩ := hv
  rw [hCt] at h2
  obtain ⟨c0, c1, rfl⟩ : ∃ c0 c1, cs = #[c0, c1] := by
    obtain ⟨l⟩ := cs
    match l, h2 with
    | [a, b], _ => exact ⟨a, b, rfl⟩
  obtain ⟨fuel, hf⟩ := h
  obtain ⟨ys, n', _, _, _, hyl, hfs⟩ := DataW.trod_array ht hf
  have k0 := hfs 0 (by omega)
  have k1 := hfs 1 (by omega)
  rw [hcq] at k0 k1
  rw [List.getElem?_eq_getElem (by omega : 0 < ys.length)] at k0
  rw [List.getElem?_eq_getElem (by omega : 1 < ys.length)] at k1
  exact ⟨c0, c1, rfl, ints_cell hq he hce k0, ints_cell hq he hce k1⟩
end Go.Proofs.YtpamcgpdmphfhaaDoor
