import Derived.Test.YtpfbcjlgbdbcpaaMgAA
namespace Go.Proofs.Ytpfbcjlgbdbcpaa
open Go.ChangeShapes Go.WideShapes Go.ChangeAt Go.RowKit
set_option linter.unusedVariables false
theorem open_arr2 {P : Program} {H : Type} {enc : TypeId × Value → H} {w : World} {base b0 : Nat} {sp : Nat → Bool} {held : Bool} {r : Reach} {t e : TypeId} {v : Value} {d : DataW H} {pl : List MemPlace}
    (ht : P.underlying t = some (.array 2 e)) (he : P.underlying e = some (.int .i64)) (hc1 : P.cellsOf e = 1) (hC : P.cellsOf t = 2)
    (hv : Value.okWide P w r b0 t v) (h : DataW.Trod enc P w base sp held t v d pl) : ∃ a b, v = .agg #[.int .i64 a, .int .i64 b] ∧ (Lit.int .i64 a).wf = true ∧ (Lit.int .i64 b).wf = true := by
  simp only [Value.okWide, ht] at hv
  obtain ⟨cs, rfl, h2, _⟩ := hv
  rw [hC] at h2
  obtain ⟨fuel, hf⟩ := h
  obtain ⟨ys, n', _, _, _, hyl, hfs⟩ := DataW.trod_array ht hf
  have hcl : ∀ j, j < 2 → ∃ x : Int, cs[j]? = some (.int .i64 x) ∧ (Lit.int .i64 x).wf = true := by
    intro j hj
    have hjc : j < cs.toList.length := by simpa using by omega
    have h1 := hfs j hj
    rw [hc1, Nat.mul_one] at h1
    simp only [Value.cells] at h1
    have h3 : (cs.toList.drop j).take 1 = [cs.toList[j]] := by rw [List.drop_eq_getElem_cons hjc]; rfl
    rw [h3, List.getElem?_eq_getElem (by omega : j < ys.length)] at h1
    obtain ⟨x, hx, _, hw⟩ := DataW.trod_int he h1
    simp only [List.cons.injEq, and_true] at hx
    exact ⟨x, by rw [← Array.getElem?_toList, List.getElem?_eq_getElem hjc, hx], hw⟩
  obtain ⟨a, ha, wa⟩ := hcl 0 (by omega)
  obtain ⟨b, hb, wb⟩ := hcl 1 (by omega)
  refine ⟨a, b, ?_, wa, wb⟩
  congr 1
  apply Array.ext_getElem?
  intro i
  rcases i with _ | _ | i
  · exact ha
  · exact hb
  · rw [Array.getElem?_eq_none (by omega), Array.getElem?_eq_none (by simp)]
end Go.Proofs.Ytpfbcjlgbdbcpaa
