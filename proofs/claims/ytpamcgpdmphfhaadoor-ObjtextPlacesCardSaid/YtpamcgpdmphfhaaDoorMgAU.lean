import Derived.Test.YtpamcgpdmphfhaaDoorMgAB
import Derived.Test.YtpamcgpdmphfhaaDoorRows
import Derived.Lib.LaidTab
import Derived.OpenShut
import Derived.LaidMore
import Derived.Test.YtpamcgpdmphfhaaDoorMgAQ
import Derived.Test.YtpamcgpdmphfhaaDoorMgAA
import Derived.Deep.Fields
namespace Go.Proofs.YtpamcgpdmphfhaaDoor
open Go.RowKit
set_option linter.unusedVariables false
section
variable {P : Program} {w : World}
theorem laidVars_at : ∀ {laid : List (String × DataW Unit)} {ps : List MemPlace}, DataW.LaidVars P w laid ps → ∀ {n : String} {d : DataW Unit}, (n, d) ∈ laid → ∃ g t cs fuel p, P.globalNamed n = some g ∧ (P.globals[g]?).map (·.type) = some t ∧ w.var? P n = some cs ∧ DataW.trod (fun _ => ()) P w 0 (fun _ => true) false fuel t cs.toList = some (d, p)
  | [], ps, h, n, d, hm => by cases hm
  | (n', d') :: r, ps, h, n, d, hm => by
    obtain ⟨g, t, cs, fuel, p, q, h1, h2, h3, h4, h5, _⟩ := h
    rcases List.mem_cons.1 hm with e | hm
    · cases e; exact ⟨g, t, cs, fuel, p, h1, h2, h3, h4⟩
    · exact laidVars_at h5 hm
theorem laidH_at {laid : List (String × DataW Unit)} (h : laidMetH P laid w) {n : String} {d : DataW Unit} (hm : (n, d) ∈ laid) (hn : d.handleName?.isNone = true) : ∃ g t cs fuel p, P.globalNamed n = some g ∧ (P.globals[g]?).map (·.type) = some t ∧ w.var? P n = some cs ∧ DataW.trod (fun _ => ()) P w 0 (fun _ => true) false fuel t cs.toList = some (d, p) := by
  unfold laidMetH at h
  split at h
  · obtain ⟨ps, h, _⟩ := h; exact laidVars_at h hm
  · obtain ⟨⟨ps, h, _⟩, _⟩ := h; exact laidVars_at h (List.mem_filter.2 ⟨hm, hn⟩)
theorem var_heap {n : String} {g : Nat} {cs : Array Value} (hg : P.globalNamed n = some g) (h : w.var? P n = some cs) : ∃ t fr, w.heap[g]? = some (.cells cs t fr) := by
  unfold World.var? at h
  rw [hg] at h
  simp only [Option.bind_some] at h
  split at h
  · rename_i c t fr e; cases h; exact ⟨t, fr, e⟩
  · cases h
theorem tab_at {laid : List (String × DataW Unit)} (h : laidMetH P laid w) {n : String} {k : IntKind} {zs : List Int} (hm : (n, Lib.tabData k zs) ∈ laid) {g : Nat} {t e : TypeId} {m : Nat} (hg : P.globalNamed n = some g) (hty : (P.globals[g]?).map (·.type) = some t) (ht : P.underlying t = some (.array m e)) (he : P.underlying e = some (.int k)) (hce : P.cellsOf e = 1) (hct : P.cellsOf t = m) : ∃ x, w.heap[g]? = some x ∧ tabObj k zs x := by
  obtain ⟨g', t', cs, fuel, p, h1, h2, h3, h4⟩ := laidH_at h hm rfl
  obtain rfl := Option.some.inj (hg.symm.trans h1)
  obtain rfl := Option.some.inj (hty.symm.trans h2)
  obtain ⟨ty, fr, hx⟩ := var_heap hg h3
  have hcs := Lib.cells_of_tab ht he hce hct h4
  refine ⟨_, hx, ty, fr, ?_⟩
  congr 1
  apply Array.toList_inj.1
  rw [hcs]
theorem trod_iface {H : Type} {enc : TypeId × Value → H} {base : Nat} {sp : Nat → Bool} {held : Bool} {fuel : Nat} {t : TypeId} {ms : Array (String × TypeId)} {cs : List Value} {nm : String} {d : DataW H} {p : List MemPlace} (ht : P.underlying t = some (.interface ms)) (h : DataW.trod enc P w base sp held fuel t cs = some (.iface nm d, p)) : ∃ te pe, cs = [.iface te pe] := by
  cases fuel with
  | zero => simp [DataW.trod] at h
  | succ fuel =>
    cases cs with
    | nil => simp [DataW.trod, ht] at h
    | cons c r =>
      cases r with
      | cons c2 r => simp [DataW.trod, ht] at h
      | nil => cases c <;> first | exact ⟨_, _, rfl⟩ | simp [DataW.trod, ht] at h
theorem err_at {laid : List (String × DataW Unit)} (h : laidMetH P laid w) {n nm : String} {d : DataW Unit} (hm : (n, DataW.iface nm d) ∈ laid) (hn : (DataW.iface nm d).handleName?.isNone = true) {g : Nat} {t : TypeId} {ms : Array (String × TypeId)} (hg : P.globalNamed n = some g) (hty : (P.globals[g]?).map (·.type) = some t) (ht : P.underlying t = some (.interface ms)) : ∃ x, w.heap[g]? = some x ∧ errObj x := by
  obtain ⟨g', t', cs, fuel, p, h1, h2, h3, h4⟩ := laidH_at h hm hn
  obtain rfl := Option.some.inj (hg.symm.trans h1)
  obtain rfl := Option.some.inj (hty.symm.trans h2)
  obtain ⟨ty, fr, hx⟩ := var_heap hg h3
  obtain ⟨te, pe, hcs⟩ := trod_iface ht h4
  refine ⟨_, hx, te, pe, ty, fr, ?_⟩
  congr 1
  apply Array.toList_inj.1
  rw [hcs]
end
end Go.Proofs.YtpamcgpdmphfhaaDoor
namespace Go.Proofs.YtpamcgpdmphfhaaDoor
set_option linter.unusedVariables false
def nbL (D : List Bool) : Nat → List Int
  | 0 => []
  | k + 1 => if D.getD k false = true then nbL D k ++ [(k : Int)] else nbL D k
def cF (D : List Bool) : Nat → Nat
  | 0 => 0
  | k + 1 => cF D k + (if D.getD k false = true then 0 else 1)
inductive obRe (o : Ob) : Int → Prop
  | init : obRe o o.I
  | step (i : Nat) : i < o.R.length → obRe o (rwAt o.R i).s → obRe o (rwAt o.R i).n
theorem obErr_zero {o : Ob} {i : Nat} (h : obErr o i = 0) : (0 ≤ (rwAt o.R i).s ∧ (rwAt o.R i).s < o.S) ∧ (0 ≤ (rwAt o.R i).n ∧ (rwAt o.R i).n < o.S) ∧ (0 ≤ (rwAt o.R i).k ∧ (rwAt o.R i).k < o.K) ∧ (0 ≤ (rwAt o.R i).r ∧ (rwAt o.R i).r ≤ 1000000) ∧ (0 < i → rises (rwAt o.R (i - 1)) (rwAt o.R i)) := by
  unfold obErr at h
  split at h
  · omega
  · rename_i h1
    split at h
    · omega
    · split at h
      · omega
      · rename_i h2 h3
        refine ⟨by omega, by omega, by omega, by omega, fun hi => ?_⟩
        split at h
        · omega
        · rename_i h4
          by_cases h5 : rises (rwAt o.R (i - 1)) (rwAt o.R i)
          · exact h5
          · exact absurd ⟨hi, h5⟩ h4
open Classical in
noncomputable def reD (o : Ob) : List Bool := (List.range o.S.toNat).map fun (s : Nat) => decide (obRe o (s : Int))
noncomputable def reL (o : Ob) : List Int := if obE o = 0 then nbL (reD o) o.S.toNat else []
def obDd (o : Ob) (l : List Int) (k : Int) : Prop := ∀ i, i < o.R.length → ¬ ((rwAt o.R i).k = k ∧ (rwAt o.R i).s ∈ l)
instance (o : Ob) (l : List Int) (k : Int) : Decidable (obDd o l k) := by unfold obDd; infer_instance
def deD (o : Ob) (l : List Int) : List Bool := (List.range o.K.toNat).map fun (k : Nat) => decide (obDd o l (k : Int))
noncomputable def deL (o : Ob) : List Int := if obE o = 0 then nbL (deD o (reL o)) o.K.toNat else []
end Go.Proofs.YtpamcgpdmphfhaaDoor
namespace Go.Proofs.YtpamcgpdmphfhaaDoor
open Go.ChangeShapes Go.WideShapes Go.ChangeAt Go.RowKit
open Go.Deep (oneCellFields)
set_option linter.unusedVariables false
def StructRow (w : World) (k : Nat) (a : Option Addr) (len cap : Nat) : Prop := len ≤ cap ∧ cap ≤ maxLen ∧ (a = none → cap = 0) ∧ (0 < len → ∃ b off, a = some ⟨b, off, none⟩ ∧ ∀ i, i < len → ∃ g : Nat → Int, ∀ j, j < k → w.cell? ⟨b, off + i * k + j, none⟩ = some (.int .i64 (g j)) ∧ -9223372036854775808 ≤ g j ∧ g j ≤ 9223372036854775807)
theorem open_structs {P : Program} {H : Type} {enc : TypeId × Value → H} {W : World} {base : Nat} {sp : Nat → Bool} {held : Bool} {t e T : TypeId} {a : Option Addr} {len cap : Nat} {x : DataW H} {pl : List MemPlace} {fs : Array Field} {k : Nat}
    (ht : P.underlying t = some (.slice e)) (he : P.underlying e = some (.struct fs)) (hT : P.underlying T = some (.int .i64)) (hall : fs.toList.all (fun f => f.type == T) = true) (hone : oneCellFields P fs = true) (hk : fs.size = k) (hk0 : 0 < k) (hC : P.cellsOf e = k)
    (h : DataW.Trod enc P W base sp held t (.slice a len cap) x pl) : StructRow W k a len cap := by
  obtain ⟨fuel, hf⟩ := h
  rcases Go.Deep.open_slice ht hf with ⟨hcs, _⟩ | ⟨y, l, c, m, n, D, Pl, hcs, _, hl, hm, hmm, _, hi⟩
  · simp [Value.cells] at hcs
    obtain ⟨rfl, rfl, rfl⟩ := hcs
    exact ⟨Nat.le_refl _, Nat.zero_le _, fun _ => rfl, fun h => by omega⟩
  · simp [Value.cells] at hcs
    obtain ⟨rfl, rfl, rfl⟩ := hcs
    have hz' : len ≤ m := by rw [hmm]; split <;> omega
    have hcell : ∀ i, i < len → ∃ g : Nat → Int, ∀ j, j < k → W.cell? (y.add (i * k + j)) = some (.int .i64 (g j)) ∧ -9223372036854775808 ≤ g j ∧ g j ≤ 9223372036854775807 := by
      intro i hlt
      obtain ⟨cs', hc, htr⟩ := hi i (by omega)
      obtain ⟨_, hlen, hat⟩ := World.cells?_some hc
      obtain ⟨ys, n', _, _, _, hyl, hfs⟩ := DataW.trod_struct he htr
      have hone1 : ∀ j, j < k → ∃ v : Int, W.cell? (y.add (i * k + j)) = some (.int .i64 v) ∧ -9223372036854775808 ≤ v ∧ v ≤ 9223372036854775807 := by
        intro j hj
        have hjs : j < fs.size := by omega
        have hfj : fs[j]? = some fs[j] := Array.getElem?_eq_getElem hjs
        obtain ⟨ho, hco⟩ := Go.Deep.hone_of hone j _ hfj
        have hty : fs[j].type = T := by
          have := List.all_eq_true.1 hall fs[j] (by simp)
          simpa using this
        have hjc : j < cs'.length := by rw [hlen, hC]; exact hj
        have h1 := hfs j _ hfj
        rw [ho, hco, hty] at h1
        have h2 : (cs'.drop j).take 1 = [cs'[j]] := by rw [List.drop_eq_getElem_cons hjc]; rfl
        rw [h2, List.getElem?_eq_getElem (by omega : j < ys.length)] at h1
        obtain ⟨v, hv, _, hw⟩ := DataW.trod_int hT h1
        simp only [List.cons.injEq, and_true] at hv
        have h3 := hat j (by rw [hC]; exact hj)
        rw [Go.Deep.add_add, hC, List.getElem?_eq_getElem hjc, hv] at h3
        exact ⟨v, h3, bounds_i64 hw⟩
      obtain ⟨g, hg⟩ := Go.Deep.choose_lt hone1
      exact ⟨g, hg⟩
    refine ⟨hl, hm, (fun h => by cases h), fun hp => ?_⟩
    obtain ⟨b, off, spot⟩ := y
    obtain ⟨g0, hg0⟩ := hcell 0 hp
    have hspot : spot = none := by
      have := (hg0 0 hk0).1
      simpa [Addr.add] using World.cell?_spot this
    subst hspot
    refine ⟨b, off, rfl, fun i hi => ?_⟩
    obtain ⟨g, hg⟩ := hcell i hi
    refine ⟨g, fun j hj => ⟨?_, (hg j hj).2⟩⟩
    have hadd : ∀ n, Addr.add ⟨b, off, none⟩ n = ⟨b, off + n, none⟩ := fun n => by by_cases hn : n = 0 <;> simp [Addr.add, hn]
    have h1 := (hg j hj).1
    rw [hadd, ← Nat.add_assoc] at h1
    exact h1
end Go.Proofs.YtpamcgpdmphfhaaDoor
