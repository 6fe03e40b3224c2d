import Derived.Test.YtdaenbgjafalcaaDoorMgAA
import Derived.Deep.Fields
namespace Go.Proofs.YtdaenbgjafalcaaDoor
def FChk (big n : Nat) (err : Nat → Int) (a c : Int) : Prop :=
  (big < n ∧ a = 0 ∧ c = 3) ∨ (n ≤ big ∧ ∃ i : Nat, i < n ∧ (∀ j, j < i → err j = 0) ∧ err i ≠ 0 ∧ a = i ∧ c = err i) ∨ (n ≤ big ∧ (∀ j, j < n → err j = 0) ∧ a = n ∧ c = 0)
theorem FChk.uniq {big n : Nat} {err : Nat → Int} {a c a' c' : Int} (h : FChk big n err a c) (h' : FChk big n err a' c') : a = a' ∧ c = c' := by
  rcases h with ⟨h1, h2, h3⟩ | ⟨h1, i, h2, h3, h4, h5, h6⟩ | ⟨h1, h2, h3, h4⟩ <;> rcases h' with ⟨k1, k2, k3⟩ | ⟨k1, j, k2, k3, k4, k5, k6⟩ | ⟨k1, k2, k3, k4⟩
  · omega
  · omega
  · omega
  · omega
  · rcases Nat.lt_trichotomy i j with h | h | h
    · exact absurd (k3 i h) h4
    · subst h; omega
    · exact absurd (h3 j h) k4
  · exact absurd (k2 i h2) h4
  · omega
  · exact absurd (h2 j k2) k4
  · omega
structure Ev3 where
  w : Int
  p : Int
  n : Int
def evAt (xs : List Ev3) (i : Nat) : Ev3 := xs.getD i ⟨0, 0, 0⟩
def eFl (x : Ev3) : List Int := [x.w, x.p, x.n]
def flatE (xs : List Ev3) : List Int := xs.flatMap eFl
def eMay (x : Ev3) : Int := if x.w ≠ 1 ∧ x.w ≠ 2 then 8 else if ¬ (1 ≤ x.p ∧ x.p ≤ 1000) then 2 else if x.w = 1 ∧ ¬ (0 ≤ x.n ∧ x.n ≤ 63) then 31 else if x.w = 2 ∧ ¬ (0 ≤ x.n ∧ x.n ≤ 1000000) then 7 else 0
theorem eMay_zero {x : Ev3} (h : eMay x = 0) : (x.w = 1 ∨ x.w = 2) ∧ 1 ≤ x.p ∧ x.p ≤ 1000 ∧ (x.w = 1 → 0 ≤ x.n ∧ x.n ≤ 63) ∧ (x.w = 2 → 0 ≤ x.n ∧ x.n ≤ 1000000) := by
  unfold eMay at h
  (repeat' split at h) <;> omega
def eLast (xs : List Ev3) : Nat → Int → Int
  | 0, _ => 0
  | k + 1, p => if (evAt xs k).p = p then (evAt xs k).w else eLast xs k p
def eWhere (xs : List Ev3) : Nat → Int → Int
  | 0, _ => -1
  | k + 1, p => if (evAt xs k).p = p then k else eWhere xs k p
theorem eWhere_lt (xs : List Ev3) (p : Int) : ∀ k, -1 ≤ eWhere xs k p ∧ eWhere xs k p < k
  | 0 => by unfold eWhere; omega
  | k + 1 => by
    have := eWhere_lt xs p k
    unfold eWhere
    split <;> omega
theorem eWhere_none {xs : List Ev3} {p : Int} : ∀ {k}, eWhere xs k p < 0 → eLast xs k p = 0
  | 0, _ => rfl
  | k + 1, h => by
    unfold eWhere at h
    unfold eLast
    split at h
    · omega
    · rename_i hp; rw [if_neg hp]; exact eWhere_none h
theorem eWhere_some {xs : List Ev3} {p : Int} : ∀ {k}, 0 ≤ eWhere xs k p → eLast xs k p = (evAt xs (eWhere xs k p).toNat).w
  | 0, h => by unfold eWhere at h; omega
  | k + 1, h => by
    unfold eWhere at h ⊢
    unfold eLast
    split
    · simp
    · rename_i hp; rw [if_neg hp] at h; exact eWhere_some h
def eErr (xs : List Ev3) (k : Nat) : Int := if eMay (evAt xs k) ≠ 0 then eMay (evAt xs k) else if (eLast xs k (evAt xs k).p = 1) ↔ (evAt xs k).w = 2 then 0 else 33
theorem eErr_may {xs : List Ev3} {k : Nat} (h : eMay (evAt xs k) ≠ 0) : eErr xs k = eMay (evAt xs k) := by unfold eErr; rw [if_pos h]
theorem eErr_open {xs : List Ev3} {k : Nat} (h : eMay (evAt xs k) = 0) (h2 : ¬ ((eLast xs k (evAt xs k).p = 1) ↔ (evAt xs k).w = 2)) : eErr xs k = 33 := by unfold eErr; rw [if_neg (by simpa using h), if_neg h2]
theorem eErr_none {xs : List Ev3} {k : Nat} (h : eMay (evAt xs k) = 0) (h2 : (eLast xs k (evAt xs k).p = 1) ↔ (evAt xs k).w = 2) : eErr xs k = 0 := by unfold eErr; rw [if_neg (by simpa using h), if_pos h2]
theorem eErr_zero {xs : List Ev3} {k : Nat} (h : eErr xs k = 0) : eMay (evAt xs k) = 0 ∧ ((eLast xs k (evAt xs k).p = 1) ↔ (evAt xs k).w = 2) := by
  unfold eErr at h
  split at h
  · exact absurd h ‹_›
  · rename_i h1
    split at h
    · exact ⟨by simpa using h1, ‹_›⟩
    · omega
theorem FChk.at {big n : Nat} {err : Nat → Int} {i : Nat} (hn : n ≤ big) (hi : i < n) (hp : ∀ j, j < i → err j = 0) {c : Int} (hc : err i = c) (h0 : c ≠ 0) : FChk big n err i c := .inr (.inl ⟨hn, i, hi, hp, by rw [hc]; exact h0, rfl, hc.symm⟩)
theorem FChk.big' {big n : Nat} {err : Nat → Int} (hn : big < n) : FChk big n err 0 3 := .inl ⟨hn, rfl, rfl⟩
theorem FChk.all {big n : Nat} {err : Nat → Int} (hn : n ≤ big) (hp : ∀ j, j < n → err j = 0) : FChk big n err n 0 := .inr (.inr ⟨hn, hp, rfl, rfl⟩)
theorem below_succ {err : Nat → Int} {i : Nat} (hp : ∀ j, j < i → err j = 0) (h : err i = 0) : ∀ j, j < i + 1 → err j = 0 := fun j hj => by
  rcases Nat.lt_or_ge j i with h1 | h1
  · exact hp j h1
  · rw [show j = i by omega]; exact h
def EChk (xs : List Ev3) (a c : Int) : Prop := FChk 10000 xs.length (eErr xs) a c
end Go.Proofs.YtdaenbgjafalcaaDoor
namespace Go.Proofs.YtdaenbgjafalcaaDoor
open Go.ChangeShapes Go.WideShapes Go.ChangeAt Go.RowKit
open Go.Deep (oneCellFields)
set_option linter.unusedVariables false
def StructRow (w : World) (k : Nat) (a : Option Addr) (len cap : Nat) : Prop := len ≤ cap ∧ cap ≤ maxLen ∧ (a = none → cap = 0) ∧ (0 < len → ∃ b off, a = some ⟨b, off, none⟩ ∧ ∀ i, i < len → ∃ g : Nat → Int, ∀ j, j < k → w.cell? ⟨b, off + i * k + j, none⟩ = some (.int .i64 (g j)) ∧ -9223372036854775808 ≤ g j ∧ g j ≤ 9223372036854775807)
theorem open_structs {P : Program} {H : Type} {enc : TypeId × Value → H} {W : World} {base : Nat} {sp : Nat → Bool} {held : Bool} {t e T : TypeId} {a : Option Addr} {len cap : Nat} {x : DataW H} {pl : List MemPlace} {fs : Array Field} {k : Nat}
    (ht : P.underlying t = some (.slice e)) (he : P.underlying e = some (.struct fs)) (hT : P.underlying T = some (.int .i64)) (hall : fs.toList.all (fun f => f.type == T) = true) (hone : oneCellFields P fs = true) (hk : fs.size = k) (hk0 : 0 < k) (hC : P.cellsOf e = k)
    (h : DataW.Trod enc P W base sp held t (.slice a len cap) x pl) : StructRow W k a len cap := by
  obtain ⟨fuel, hf⟩ := h
  rcases Go.Deep.open_slice ht hf with ⟨hcs, _⟩ | ⟨y, l, c, m, n, D, Pl, hcs, _, hl, hm, hmm, _, hi⟩
  · simp [Value.cells] at hcs
    obtain ⟨rfl, rfl, rfl⟩ := hcs
    exact ⟨Nat.le_refl _, Nat.zero_le _, fun _ => rfl, fun h => by omega⟩
  · simp [Value.cells] at hcs
    obtain ⟨rfl, rfl, rfl⟩ := hcs
    have hz' : len ≤ m := by rw [hmm]; split <;> omega
    have hcell : ∀ i, i < len → ∃ g : Nat → Int, ∀ j, j < k → W.cell? (y.add (i * k + j)) = some (.int .i64 (g j)) ∧ -9223372036854775808 ≤ g j ∧ g j ≤ 9223372036854775807 := by
      intro i hlt
      obtain ⟨cs', hc, htr⟩ := hi i (by omega)
      obtain ⟨_, hlen, hat⟩ := World.cells?_some hc
      obtain ⟨ys, n', _, _, _, hyl, hfs⟩ := DataW.trod_struct he htr
      have hone1 : ∀ j, j < k → ∃ v : Int, W.cell? (y.add (i * k + j)) = some (.int .i64 v) ∧ -9223372036854775808 ≤ v ∧ v ≤ 9223372036854775807 := by
        intro j hj
        have hjs : j < fs.size := by omega
        have hfj : fs[j]? = some fs[j] := Array.getElem?_eq_getElem hjs
        obtain ⟨ho, hco⟩ := Go.Deep.hone_of hone j _ hfj
        have hty : fs[j].type = T := by
          have := List.all_eq_true.1 hall fs[j] (by simp)
          simpa using this
        have hjc : j < cs'.length := by rw [hlen, hC]; exact hj
        have h1 := hfs j _ hfj
        rw [ho, hco, hty] at h1
        have h2 : (cs'.drop j).take 1 = [cs'[j]] := by rw [List.drop_eq_getElem_cons hjc]; rfl
        rw [h2, List.getElem?_eq_getElem (by omega : j < ys.length)] at h1
        obtain ⟨v, hv, _, hw⟩ := DataW.trod_int hT h1
        simp only [List.cons.injEq, and_true] at hv
        have h3 := hat j (by rw [hC]; exact hj)
        rw [Go.Deep.add_add, hC, List.getElem?_eq_getElem hjc, hv] at h3
        exact ⟨v, h3, bounds_i64 hw⟩
      obtain ⟨g, hg⟩ := Go.Deep.choose_lt hone1
      exact ⟨g, hg⟩
    refine ⟨hl, hm, (fun h => by cases h), fun hp => ?_⟩
    obtain ⟨b, off, spot⟩ := y
    obtain ⟨g0, hg0⟩ := hcell 0 hp
    have hspot : spot = none := by
      have := (hg0 0 hk0).1
      simpa [Addr.add] using World.cell?_spot this
    subst hspot
    refine ⟨b, off, rfl, fun i hi => ?_⟩
    obtain ⟨g, hg⟩ := hcell i hi
    refine ⟨g, fun j hj => ⟨?_, (hg j hj).2⟩⟩
    have hadd : ∀ n, Addr.add ⟨b, off, none⟩ n = ⟨b, off + n, none⟩ := fun n => by by_cases hn : n = 0 <;> simp [Addr.add, hn]
    have h1 := (hg j hj).1
    rw [hadd, ← Nat.add_assoc] at h1
    exact h1
end Go.Proofs.YtdaenbgjafalcaaDoor
namespace Go.Proofs.YtdaenbgjafalcaaDoor
open Go.ChangeShapes Go.WideShapes Go.ChangeAt Go.RowKit
open Go.Deep (oneCellFields)
set_option linter.unusedVariables false
theorem structs_of_trod {P : Program} {H : Type} {enc : TypeId × Value → H} {W : World} {base : Nat} {sp : Nat → Bool} {held : Bool} {t e T : TypeId} {v : Value} {n : Nat} {y : DataW H × List MemPlace} {fs : Array Field} {k : Nat}
    (ht : P.underlying t = some (.slice e)) (he : P.underlying e = some (.struct fs)) (hT : P.underlying T = some (.int .i64)) (hall : fs.toList.all (fun f => f.type == T) = true) (hone : oneCellFields P fs = true) (hk : fs.size = k) (hk0 : 0 < k) (hC : P.cellsOf e = k)
    (h : DataW.trod enc P W base sp held n t [v] = some y) : ∃ a len cap, v = .slice a len cap ∧ StructRow W k a len cap := by
  rcases Go.Deep.open_slice ht h with ⟨hcs, _⟩ | ⟨z, l, c, m, n', D, Pl, hcs, _⟩
  · simp only [List.cons.injEq, and_true] at hcs
    subst hcs
    exact ⟨none, 0, 0, rfl, open_structs ht he hT hall hone hk hk0 hC (x := y.1) (pl := y.2) ⟨n, h⟩⟩
  · simp only [List.cons.injEq, and_true] at hcs
    subst hcs
    exact ⟨some z, l, c, rfl, open_structs ht he hT hall hone hk hk0 hC (x := y.1) (pl := y.2) ⟨n, h⟩⟩
def ObjArg (W : World) (v : Value) : Prop := ∃ (x y z : Int) (a : Option Addr) (len cap : Nat), v = .agg #[.int .i64 x, .int .i64 y, .int .i64 z, .slice a len cap] ∧ (Lit.int .i64 x).wf = true ∧ (Lit.int .i64 y).wf = true ∧ (Lit.int .i64 z).wf = true ∧ StructRow W 4 a len cap
theorem open_object {P : Program} {H : Type} {enc : TypeId × Value → H} {w : World} {base b0 : Nat} {sp : Nat → Bool} {held : Bool} {r : Reach} {t q e T : TypeId} {v : Value} {d : DataW H} {pl : List MemPlace} {f0 f1 f2 f3 : Field} {fs : Array Field}
    (hs : P.underlying t = some (.struct #[f0, f1, f2, f3])) (hq : P.underlying q = some (.slice e)) (he : P.underlying e = some (.struct fs)) (hT : P.underlying T = some (.int .i64)) (hall : fs.toList.all (fun f => f.type == T) = true) (ho : oneCellFields P fs = true) (hk : fs.size = 4) (hC' : P.cellsOf e = 4)
    (hone : (oneCellFields P #[f0, f1, f2, f3] && decide (f0.type = T) && decide (f1.type = T) && decide (f2.type = T) && decide (f3.type = q)) = true) (hC : P.cellsOf t = 4)
    (hv : Value.okWide P w r b0 t v) (h : DataW.Trod enc P w base sp held t v d pl) : ObjArg w v := by
  simp only [Bool.and_eq_true, decide_eq_true_eq] at hone
  obtain ⟨⟨⟨⟨h1, h2⟩, h3⟩, h4⟩, h5⟩ := hone
  obtain ⟨v0, v1, v2, v3, y0, y1, y2, y3, n, rfl, _, _, k0, k1, k2, k3⟩ := Go.Joins.open_agg4 hs h1 hC hv h
  rw [h2] at k0; rw [h3] at k1; rw [h4] at k2; rw [h5] at k3
  obtain ⟨a0, e0, _, w0⟩ := DataW.trod_int hT k0
  obtain ⟨a1, e1, _, w1⟩ := DataW.trod_int hT k1
  obtain ⟨a2, e2, _, w2⟩ := DataW.trod_int hT k2
  simp at e0 e1 e2; subst e0 e1 e2
  obtain ⟨a, len, cap, rfl, hr⟩ := structs_of_trod hq he hT hall ho hk (by decide) hC' k3
  exact ⟨a0, a1, a2, a, len, cap, rfl, w0, w1, w2, hr⟩
def CaseArg (W : World) (v : Value) : Prop := ∃ (a : Option Addr) (len cap : Nat) (x y z : Int), v = .agg #[.slice a len cap, .int .i64 x, .int .i64 y, .int .i64 z] ∧ StructRow W 2 a len cap ∧ (Lit.int .i64 x).wf = true ∧ (Lit.int .i64 y).wf = true ∧ (Lit.int .i64 z).wf = true
end Go.Proofs.YtdaenbgjafalcaaDoor
