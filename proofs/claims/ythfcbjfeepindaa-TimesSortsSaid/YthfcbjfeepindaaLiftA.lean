/- Arguments that are slices of arrays of numbers, opened. -/
import Derived.Test.YthfcbjfeepindaaLiftS
import Derived.Test.YthfcbjfeepindaaTimP
namespace Go.Proofs.Ythfcbjfeepindaa
open Go.ChangeShapes Go.WideShapes Go.ChangeAt Go.RowKit
set_option linter.unusedVariables false

theorem open_arrays {P : Program} {H : Type} {enc : TypeId × Value → H} {W : World} {base : Nat} {sp : Nat → Bool} {held : Bool} {t e T : TypeId} {a : Option Addr} {len cap : Nat} {x : DataW H} {pl : List MemPlace} {k : Nat}
    (ht : P.underlying t = some (.slice e)) (he : P.underlying e = some (.array k T)) (hT : P.underlying T = some (.int .i64)) (hc1 : P.cellsOf T = 1) (hk0 : 0 < k) (hC : P.cellsOf e = k)
    (h : DataW.Trod enc P W base sp held t (.slice a len cap) x pl) : StructRow W k a len cap := by
  obtain ⟨fuel, hf⟩ := h
  rcases Go.Deep.open_slice ht hf with ⟨hcs, _⟩ | ⟨y, l, c, m, n, D, Pl, hcs, _, hl, hm, hmm, _, hi⟩
  · simp [Value.cells] at hcs
    obtain ⟨rfl, rfl, rfl⟩ := hcs
    exact ⟨Nat.le_refl _, Nat.zero_le _, fun _ => rfl, fun h => by omega⟩
  · simp [Value.cells] at hcs
    obtain ⟨rfl, rfl, rfl⟩ := hcs
    have hz' : len ≤ m := by rw [hmm]; split <;> omega
    have hcell : ∀ i, i < len → ∃ g : Nat → Int, ∀ j, j < k → W.cell? (y.add (i * k + j)) = some (.int .i64 (g j)) ∧ -9223372036854775808 ≤ g j ∧ g j ≤ 9223372036854775807 := by
      intro i hlt
      obtain ⟨cs', hc, htr⟩ := hi i (by omega)
      obtain ⟨_, hlen, hat⟩ := World.cells?_some hc
      obtain ⟨ys, n', _, _, _, hyl, hfs⟩ := DataW.trod_array he htr
      have hone1 : ∀ j, j < k → ∃ v : Int, W.cell? (y.add (i * k + j)) = some (.int .i64 v) ∧ -9223372036854775808 ≤ v ∧ v ≤ 9223372036854775807 := by
        intro j hj
        have hjc : j < cs'.length := by rw [hlen, hC]; exact hj
        have h1 := hfs j hj
        rw [hc1, Nat.mul_one] at h1
        have h2 : (cs'.drop j).take 1 = [cs'[j]] := by rw [List.drop_eq_getElem_cons hjc]; rfl
        rw [h2, List.getElem?_eq_getElem (by omega : j < ys.length)] at h1
        obtain ⟨v, hv, _, hw⟩ := DataW.trod_int hT h1
        simp only [List.cons.injEq, and_true] at hv
        have h3 := hat j (by rw [hC]; exact hj)
        rw [Go.Deep.add_add, hC, List.getElem?_eq_getElem hjc, hv] at h3
        exact ⟨v, h3, bounds_i64 hw⟩
      obtain ⟨g, hg⟩ := Go.Deep.choose_lt hone1
      exact ⟨g, hg⟩
    refine ⟨hl, hm, (fun h => by cases h), fun hp => ?_⟩
    obtain ⟨b, off, spot⟩ := y
    obtain ⟨g0, hg0⟩ := hcell 0 hp
    have hspot : spot = none := by
      have := (hg0 0 hk0).1
      simpa [Addr.add] using World.cell?_spot this
    subst hspot
    refine ⟨b, off, rfl, fun i hi => ?_⟩
    obtain ⟨g, hg⟩ := hcell i hi
    refine ⟨g, fun j hj => ⟨?_, (hg j hj).2⟩⟩
    have hadd : ∀ n, Addr.add ⟨b, off, none⟩ n = ⟨b, off + n, none⟩ := fun n => by by_cases hn : n = 0 <;> simp [Addr.add, hn]
    have h1 := (hg j hj).1
    rw [hadd, ← Nat.add_assoc] at h1
    exact h1

/-- Pairs of numbers that fit. -/
theorem StructRow.pairs {w : World} {a : Option Addr} {len cap : Nat} (h : StructRow w 2 a len cap) : ∃ ps, PairRow w a len ps ∧ ∀ i, i < len → (-9223372036854775808 ≤ (prAt ps i).1 ∧ (prAt ps i).1 ≤ 9223372036854775807) ∧ (-9223372036854775808 ≤ (prAt ps i).2 ∧ (prAt ps i).2 ≤ 9223372036854775807) := by
  have hcm := h.2.1
  have hlc := h.1
  rcases Nat.eq_zero_or_pos len with h0 | h0
  · subst h0
    exact ⟨[], ⟨rfl, Nat.zero_le _, fun h => by omega⟩, fun i hi => by omega⟩
  · obtain ⟨b, off, ha, hc⟩ := h.2.2.2 h0
    have hx : ∀ i, i < len → ∃ x : Int × Int, (w.cell? ⟨b, off + i * 2, none⟩ = some (.int .i64 x.1) ∧ w.cell? ⟨b, off + i * 2 + 1, none⟩ = some (.int .i64 x.2)) ∧ (-9223372036854775808 ≤ x.1 ∧ x.1 ≤ 9223372036854775807) ∧ (-9223372036854775808 ≤ x.2 ∧ x.2 ≤ 9223372036854775807) := fun i hi => by
      obtain ⟨g, hg⟩ := hc i hi
      exact ⟨(g 0, g 1), ⟨(hg 0 (by omega)).1, (hg 1 (by omega)).1⟩, (hg 0 (by omega)).2, (hg 1 (by omega)).2⟩
    obtain ⟨f, hf⟩ := Go.Deep.choose_lt hx
    have hat : ∀ i, i < len → prAt ((List.range len).map f) i = f i := fun i hi => by simp [prAt, List.getD, hi]
    refine ⟨(List.range len).map f, ⟨by simp, by omega, fun _ => ⟨b, off, ha, fun i hi => ?_⟩⟩, fun i hi => ?_⟩
    · rw [hat i hi]; exact (hf i hi).1
    · rw [hat i hi]; exact (hf i hi).2
end Go.Proofs.Ythfcbjfeepindaa
