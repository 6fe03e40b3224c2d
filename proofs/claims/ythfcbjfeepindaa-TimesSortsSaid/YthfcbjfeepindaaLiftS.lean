/- Arguments that are slices of structs of numbers, opened. -/
import Derived.Test.YthfcbjfeepindaaLift
import Derived.Deep.Fields
namespace Go.Proofs.Ythfcbjfeepindaa
open Go.ChangeShapes Go.WideShapes Go.ChangeAt Go.RowKit
open Go.Deep (oneCellFields)
set_option linter.unusedVariables false

/-- What a slice of structs of numbers is: at each place so many numbers that fit. -/
def StructRow (w : World) (k : Nat) (a : Option Addr) (len cap : Nat) : Prop := len ≤ cap ∧ cap ≤ maxLen ∧ (a = none → cap = 0) ∧ (0 < len → ∃ b off, a = some ⟨b, off, none⟩ ∧ ∀ i, i < len → ∃ g : Nat → Int, ∀ j, j < k → w.cell? ⟨b, off + i * k + j, none⟩ = some (.int .i64 (g j)) ∧ -9223372036854775808 ≤ g j ∧ g j ≤ 9223372036854775807)

theorem open_structs {P : Program} {H : Type} {enc : TypeId × Value → H} {W : World} {base : Nat} {sp : Nat → Bool} {held : Bool} {t e T : TypeId} {a : Option Addr} {len cap : Nat} {x : DataW H} {pl : List MemPlace} {fs : Array Field} {k : Nat}
    (ht : P.underlying t = some (.slice e)) (he : P.underlying e = some (.struct fs)) (hT : P.underlying T = some (.int .i64)) (hall : fs.toList.all (fun f => f.type == T) = true) (hone : oneCellFields P fs = true) (hk : fs.size = k) (hk0 : 0 < k) (hC : P.cellsOf e = k)
    (h : DataW.Trod enc P W base sp held t (.slice a len cap) x pl) : StructRow W k a len cap := by
  obtain ⟨fuel, hf⟩ := h
  rcases Go.Deep.open_slice ht hf with ⟨hcs, _⟩ | ⟨y, l, c, m, n, D, Pl, hcs, _, hl, hm, hmm, _, hi⟩
  · simp [Value.cells] at hcs
    obtain ⟨rfl, rfl, rfl⟩ := hcs
    exact ⟨Nat.le_refl _, Nat.zero_le _, fun _ => rfl, fun h => by omega⟩
  · simp [Value.cells] at hcs
    obtain ⟨rfl, rfl, rfl⟩ := hcs
    have hz' : len ≤ m := by rw [hmm]; split <;> omega
    have hcell : ∀ i, i < len → ∃ g : Nat → Int, ∀ j, j < k → W.cell? (y.add (i * k + j)) = some (.int .i64 (g j)) ∧ -9223372036854775808 ≤ g j ∧ g j ≤ 9223372036854775807 := by
      intro i hlt
      obtain ⟨cs', hc, htr⟩ := hi i (by omega)
      obtain ⟨_, hlen, hat⟩ := World.cells?_some hc
      obtain ⟨ys, n', _, _, _, hyl, hfs⟩ := DataW.trod_struct he htr
      have hone1 : ∀ j, j < k → ∃ v : Int, W.cell? (y.add (i * k + j)) = some (.int .i64 v) ∧ -9223372036854775808 ≤ v ∧ v ≤ 9223372036854775807 := by
        intro j hj
        have hjs : j < fs.size := by omega
        have hfj : fs[j]? = some fs[j] := Array.getElem?_eq_getElem hjs
        obtain ⟨ho, hco⟩ := Go.Deep.hone_of hone j _ hfj
        have hty : fs[j].type = T := by
          have := List.all_eq_true.1 hall fs[j] (by simp)
          simpa using this
        have hjc : j < cs'.length := by rw [hlen, hC]; exact hj
        have h1 := hfs j _ hfj
        rw [ho, hco, hty] at h1
        have h2 : (cs'.drop j).take 1 = [cs'[j]] := by rw [List.drop_eq_getElem_cons hjc]; rfl
        rw [h2, List.getElem?_eq_getElem (by omega : j < ys.length)] at h1
        obtain ⟨v, hv, _, hw⟩ := DataW.trod_int hT h1
        simp only [List.cons.injEq, and_true] at hv
        have h3 := hat j (by rw [hC]; exact hj)
        rw [Go.Deep.add_add, hC, List.getElem?_eq_getElem hjc, hv] at h3
        exact ⟨v, h3, bounds_i64 hw⟩
      obtain ⟨g, hg⟩ := Go.Deep.choose_lt hone1
      exact ⟨g, hg⟩
    refine ⟨hl, hm, (fun h => by cases h), fun hp => ?_⟩
    obtain ⟨b, off, spot⟩ := y
    obtain ⟨g0, hg0⟩ := hcell 0 hp
    have hspot : spot = none := by
      have := (hg0 0 hk0).1
      simpa [Addr.add] using World.cell?_spot this
    subst hspot
    refine ⟨b, off, rfl, fun i hi => ?_⟩
    obtain ⟨g, hg⟩ := hcell i hi
    refine ⟨g, fun j hj => ⟨?_, (hg j hj).2⟩⟩
    have hadd : ∀ n, Addr.add ⟨b, off, none⟩ n = ⟨b, off + n, none⟩ := fun n => by by_cases hn : n = 0 <;> simp [Addr.add, hn]
    have h1 := (hg j hj).1
    rw [hadd, ← Nat.add_assoc] at h1
    exact h1
end Go.Proofs.Ythfcbjfeepindaa
