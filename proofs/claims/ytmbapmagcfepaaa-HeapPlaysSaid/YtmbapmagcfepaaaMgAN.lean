import Derived.Test.YtmbapmagcfepaaaMgAM
import Derived.Test.YtmbapmagcfepaaaMgAL
import Derived.Test.YtmbapmagcfepaaaMgAK
namespace Go.Proofs.Ytmbapmagcfepaaa
set_option linter.unusedVariables false
structure HpS (n : Nat) (sc R pl : List Int) : Prop where
  sl : sc.length = n + 1
  sb : ∀ v : Nat, 0 ≤ sc.getD v 0 ∧ sc.getD v 0 ≤ 1000000000000
  c : HpC n R pl
  h : HpH sc R 0
  out : ∀ v : Int, 1 ≤ v → v ≤ n → v ∉ R → pl.getD v.toNat 0 = -1
theorem HpC.bd {n : Nat} {R pl : List Int} (h : HpC n R pl) {v : Int} (hv : v ∈ R) : 1 ≤ v ∧ v ≤ n ∧ 0 ≤ pl.getD v.toNat 0 ∧ (pl.getD v.toNat 0).toNat < R.length ∧ R.getD (pl.getD v.toNat 0).toNat 0 = v := by
  obtain ⟨i, hi, e⟩ := mem_getD.1 hv
  have := h.row i hi
  rw [e] at this
  refine ⟨this.1, this.2.1, by omega, by omega, ?_⟩
  rw [this.2.2, Int.toNat_natCast]; exact e
theorem hp_has {n : Nat} {R pl : List Int} (hc : HpC n R pl) (ho : ∀ v : Int, 1 ≤ v → v ≤ n → v ∉ R → pl.getD v.toNat 0 = -1) {v : Int} (h1 : 1 ≤ v) (h2 : v ≤ n) : (0 ≤ pl.getD v.toNat 0) ↔ v ∈ R := by
  by_cases hv : v ∈ R
  · exact ⟨fun _ => hv, fun _ => (hc.bd hv).2.2.1⟩
  · have := ho v h1 h2 hv
    exact ⟨fun hh => by omega, fun hh => absurd hh hv⟩
theorem nodup_le : ∀ (l m : List Int), l.Nodup → (∀ x ∈ l, x ∈ m) → l.length ≤ m.length
  | [], m, _, _ => Nat.zero_le _
  | a :: l, m, h, hs => by
    have ha := hs a (List.mem_cons_self ..)
    have hn := List.nodup_cons.1 h
    have h2 := nodup_le l (m.erase a) hn.2 fun x hx => by
      have hne : x ≠ a := fun e => hn.1 (by rw [← e]; exact hx)
      exact (List.mem_erase_of_ne hne).2 (hs x (List.mem_cons_of_mem _ hx))
    rw [List.length_erase_of_mem ha] at h2
    have : 0 < m.length := List.length_pos_of_mem ha
    rw [List.length_cons]; omega
theorem HpC.nodup {n : Nat} {R pl : List Int} (h : HpC n R pl) : R.Nodup := by
  rw [List.Nodup, List.pairwise_iff_getElem]
  intro i j hi hj hij e
  have := h.inj hi hj (by rw [List.getD_eq_getElem?_getD, List.getD_eq_getElem?_getD, List.getElem?_eq_getElem hi, List.getElem?_eq_getElem hj, e])
  omega
theorem HpC.len_le {n : Nat} {R pl : List Int} (h : HpC n R pl) : R.length ≤ n := by
  have h1 := nodup_le R ((List.range n).map fun i : Nat => (i : Int) + 1) h.nodup fun x hx => by
    have := h.bd hx
    rw [List.mem_map]
    exact ⟨(x - 1).toNat, List.mem_range.2 (by omega), by omega⟩
  simpa using h1
def hfK (xs : List Int) (k : Nat) : List Int := (List.range xs.length).map fun i => if i < k then (xs.getD i 0).tdiv 2 else xs.getD i 0
def hfL (xs : List Int) : List Int := xs.map fun x => x.tdiv 2
theorem hfK_len (xs : List Int) (k : Nat) : (hfK xs k).length = xs.length := by unfold hfK; simp
theorem hfK_at (xs : List Int) (k i : Nat) (h : i < xs.length) : (hfK xs k).getD i 0 = if i < k then (xs.getD i 0).tdiv 2 else xs.getD i 0 := by
  unfold hfK
  rw [List.getD_eq_getElem?_getD, List.getElem?_map, List.getElem?_range h]; rfl
theorem ext_getD {a b : List Int} (hl : a.length = b.length) (h : ∀ i, i < a.length → a.getD i 0 = b.getD i 0) : a = b := by
  apply List.ext_getElem hl
  intro i h1 h2
  have := h i h1
  rw [List.getD_eq_getElem?_getD, List.getD_eq_getElem?_getD, List.getElem?_eq_getElem h1, List.getElem?_eq_getElem h2] at this
  exact this
theorem hfK_zero (xs : List Int) : hfK xs 0 = xs := ext_getD (hfK_len _ _) fun i hi => by rw [hfK_len] at hi; rw [hfK_at _ _ _ hi, if_neg (by omega)]
theorem hfL_at (xs : List Int) (i : Nat) : (hfL xs).getD i 0 = (xs.getD i 0).tdiv 2 := by
  unfold hfL
  rw [List.getD_eq_getElem?_getD, List.getElem?_map, List.getD_eq_getElem?_getD]
  cases xs[i]? <;> rfl
theorem hfL_len (xs : List Int) : (hfL xs).length = xs.length := by unfold hfL; simp
theorem hfK_all (xs : List Int) : hfK xs xs.length = hfL xs := ext_getD (by rw [hfK_len, hfL_len]) fun i hi => by rw [hfK_len] at hi; rw [hfK_at _ _ _ hi, if_pos hi, hfL_at]
theorem hfK_next (xs : List Int) (k : Nat) (hk : k < xs.length) : (hfK xs k).set k (((hfK xs k).getD k 0).tdiv 2) = hfK xs (k + 1) := ext_getD (by rw [List.length_set, hfK_len, hfK_len]) fun i hi => by
  rw [List.length_set, hfK_len] at hi
  rw [getD_setI, hfK_at _ _ _ hi, hfK_at _ _ _ hi, hfK_at _ _ _ hk, hfK_len, if_neg (by omega : ¬ k < k)]
  by_cases e : k = i
  · subst e; rw [if_pos ⟨rfl, hk⟩, if_pos (by omega)]
  · rw [if_neg (fun h => e h.1)]
    by_cases e2 : i < k
    · rw [if_pos e2, if_pos (by omega)]
    · rw [if_neg e2, if_neg (by omega)]
theorem tdiv2 {x : Int} (h : 0 ≤ x) : x.tdiv 2 = x / 2 := Int.tdiv_eq_ediv_of_nonneg h
theorem hfL_sb {xs : List Int} {t : Int} (h : ∀ v : Nat, 0 ≤ xs.getD v 0 ∧ xs.getD v 0 ≤ 2 * t) (v : Nat) : 0 ≤ (hfL xs).getD v 0 ∧ (hfL xs).getD v 0 ≤ t := by
  have := h v
  rw [hfL_at, tdiv2 this.1]; omega
theorem up_bump {sc R : List Int} {v by' : Int} {i : Nat} (h : HpH sc R 0) (hi : i < R.length) (he : R.getD i 0 = v) (hinj : ∀ j, j < R.length → R.getD j 0 = v → j = i) (hp : ∀ j, j < R.length → 1 ≤ R.getD j 0) (hb : 0 ≤ by') : UpH (sc.set v.toNat (sc.getD v.toNat 0 + by')) R i := by
  have hat : ∀ w : Int, 1 ≤ w → (sc.set v.toNat (sc.getD v.toNat 0 + by')).getD w.toNat 0 = if v = w ∧ v.toNat < sc.length then sc.getD v.toNat 0 + by' else sc.getD w.toNat 0 := fun w hw => by
    rw [getD_setI]
    have h1 := hp i hi
    have : (v.toNat = w.toNat ∧ v.toNat < sc.length) ↔ (v = w ∧ v.toNat < sc.length) := by omega
    simp only [this]
  have keep : ∀ w : Int, 1 ≤ w → w ≠ v → (sc.set v.toNat (sc.getD v.toNat 0 + by')).getD w.toNat 0 = sc.getD w.toNat 0 := fun w hw hne => by
    rw [hat w hw, if_neg (fun hh => hne hh.1.symm)]
  have more : (sc.set v.toNat (sc.getD v.toNat 0 + by')).getD v.toNat 0 ≥ sc.getD v.toNat 0 := by
    rw [hat v (he ▸ hp i hi)]; split <;> omega
  have up : ∀ a b : Int, 1 ≤ a → 1 ≤ b → b ≠ v → hbt sc a b → hbt (sc.set v.toNat (sc.getD v.toNat 0 + by')) a b := fun a b ha hb1 hbv hh => by
    by_cases e : a = v
    · subst e
      unfold hbt at hh ⊢
      rw [keep b hb1 hbv]
      omega
    · unfold hbt at hh ⊢
      rw [keep b hb1 hbv, keep a ha e]; exact hh
  refine ⟨hi, fun j hj hl hne => ?_, fun j hj hl hpj h1 => ?_⟩
  · exact up _ _ (hp _ (by omega)) (hp _ hl) (fun e => hne (hinj j hl e)) (h j hj hl (Nat.zero_le _))
  · have a1 := h j hj hl (Nat.zero_le _)
    have a2 := h i h1 hi (Nat.zero_le _)
    rw [hpj] at a1
    exact up _ _ (hp _ (by omega)) (hp _ hl) (fun e => by have := hinj j hl e; omega) (hbt_tr a2 a1)
theorem hp_keep {sc sc' R : List Int} {k : Nat} (h : HpH sc R k) (he : ∀ j, j < R.length → sc'.getD (R.getD j 0).toNat 0 = sc.getD (R.getD j 0).toNat 0) : HpH sc' R k := fun j hj hl hk => by
  have := h j hj hl hk
  unfold hbt at this ⊢
  rw [he j hl, he _ (by omega)]; exact this
theorem mv_out {n : Nat} {R pl R' pl' : List Int} (h : Mv n R pl R' pl') (ho : ∀ v : Int, 1 ≤ v → v ≤ n → v ∉ R → pl.getD v.toNat 0 = -1) : ∀ v : Int, 1 ≤ v → v ≤ n → v ∉ R' → pl'.getD v.toNat 0 = -1 := fun v h1 h2 hv => by
  have hn : v ∉ R := fun hh => hv ((h.mem v).2 hh)
  rw [h.out v hn]; exact ho v h1 h2 hn
theorem push_c {n : Nat} {R pl : List Int} {v : Int} (h : HpC n R pl) (h1 : 1 ≤ v) (h2 : v ≤ n) (hv : v ∉ R) : HpC n (R ++ [v]) (pl.set v.toNat R.length) := by
  refine ⟨by rw [List.length_set]; exact h.len, fun i hi => ?_⟩
  rw [List.length_append, List.length_singleton] at hi
  have hl := h.len
  by_cases e : i < R.length
  · have := h.row i e
    have e1 : (R ++ [v]).getD i 0 = R.getD i 0 := by rw [List.getD_eq_getElem?_getD, List.getElem?_append_left e, List.getD_eq_getElem?_getD]
    rw [e1, getD_setI, if_neg]
    · exact this
    · rintro ⟨hh, _⟩
      exact hv (mem_getD.2 ⟨i, e, by omega⟩)
  · obtain rfl : i = R.length := by omega
    have e1 : (R ++ [v]).getD R.length 0 = v := by rw [List.getD_eq_getElem?_getD, List.getElem?_append_right (Nat.le_refl _)]; simp
    rw [e1, getD_setI, if_pos ⟨rfl, by omega⟩]
    exact ⟨h1, h2, rfl⟩
theorem push_up {sc R : List Int} {v : Int} (h : HpH sc R 0) : UpH sc (R ++ [v]) R.length := by
  have hl : (R ++ [v]).length = R.length + 1 := by simp
  have e1 : ∀ i, i < R.length → (R ++ [v]).getD i 0 = R.getD i 0 := fun i e => by rw [List.getD_eq_getElem?_getD, List.getElem?_append_left e, List.getD_eq_getElem?_getD]
  refine ⟨by omega, fun j hj hjl hne => ?_, fun j hj hjl hpj h1 => by omega⟩
  rw [e1 j (by omega), e1 _ (by omega)]
  exact h j hj (by omega) (Nat.zero_le _)
theorem take_c {n : Nat} {R pl : List Int} (h : HpC n R pl) (hl : 0 < R.length) : HpC n ((swR R 0 (R.length - 1)).take (R.length - 1)) ((swP pl R 0 (R.length - 1)).set (R.getD 0 0).toNat (-1)) ∧ (∀ w, w ∈ (swR R 0 (R.length - 1)).take (R.length - 1) ↔ w ∈ R ∧ w ≠ R.getD 0 0) ∧ (∀ w : Int, w ∉ R → ((swP pl R 0 (R.length - 1)).set (R.getD 0 0).toNat (-1)).getD w.toNat 0 = pl.getD w.toNat 0) ∧ ((swP pl R 0 (R.length - 1)).set (R.getD 0 0).toNat (-1)).getD (R.getD 0 0).toNat 0 = -1 := by
  have m := swap_mv h hl (by omega : R.length - 1 < R.length)
  have hat := swR_at hl (by omega : R.length - 1 < R.length)
  have hlast : (swR R 0 (R.length - 1)).getD (R.length - 1) 0 = R.getD 0 0 := by rw [hat, if_pos rfl]
  have h0 := h.row 0 hl
  have hlen := h.len
  have htk : ∀ i, i < R.length - 1 → ((swR R 0 (R.length - 1)).take (R.length - 1)).getD i 0 = (swR R 0 (R.length - 1)).getD i 0 := fun i hi => by
    rw [List.getD_eq_getElem?_getD, List.getElem?_take, if_pos hi, List.getD_eq_getElem?_getD]
  have htl : ((swR R 0 (R.length - 1)).take (R.length - 1)).length = R.length - 1 := by rw [List.length_take, swR_len]; omega
  refine ⟨⟨by rw [List.length_set, swP_len]; exact h.len, fun i hi => ?_⟩, fun w => ?_, fun w hw => ?_, ?_⟩
  · rw [htl] at hi
    rw [htk i hi]
    have := m.ok.row i (by rw [swR_len]; omega)
    rw [getD_setI, if_neg]
    · exact this
    · rintro ⟨hh, _⟩
      have := m.ok.inj (i := i) (j := R.length - 1) (by rw [swR_len]; omega) (by rw [swR_len]; omega) (by rw [hlast]; omega)
      omega
  · rw [← m.mem w, mem_getD, mem_getD, htl, swR_len]
    constructor
    · rintro ⟨i, hi, e⟩
      rw [htk i hi] at e
      refine ⟨⟨i, by omega, e⟩, fun hh => ?_⟩
      have := m.ok.inj (i := i) (j := R.length - 1) (by rw [swR_len]; omega) (by rw [swR_len]; omega) (by rw [hlast, e, hh])
      omega
    · rintro ⟨⟨i, hi, e⟩, hne⟩
      by_cases e1 : i = R.length - 1
      · rw [e1, hlast] at e; exact absurd e.symm hne
      · exact ⟨i, by omega, by rw [htk i (by omega)]; exact e⟩
  · rw [getD_setI, if_neg, m.out w hw]
    rintro ⟨hh, _⟩
    exact hw (mem_getD.2 ⟨0, hl, by omega⟩)
  · rw [getD_setI, if_pos ⟨rfl, by rw [swP_len]; omega⟩]
theorem take_dn {sc R : List Int} (h : HpH sc R 0) (hl : 1 < R.length) : DnH sc ((swR R 0 (R.length - 1)).take (R.length - 1)) 0 0 := by
  have hat := swR_at (by omega : 0 < R.length) (by omega : R.length - 1 < R.length)
  have htl : ((swR R 0 (R.length - 1)).take (R.length - 1)).length = R.length - 1 := by rw [List.length_take, swR_len]; omega
  have htk : ∀ i, i < R.length - 1 → ((swR R 0 (R.length - 1)).take (R.length - 1)).getD i 0 = (swR R 0 (R.length - 1)).getD i 0 := fun i hi => by
    rw [List.getD_eq_getElem?_getD, List.getElem?_take, if_pos hi, List.getD_eq_getElem?_getD]
  refine ⟨by omega, Nat.le_refl _, fun j hj hjl _ hne => ?_, fun j hj hjl hpj h1 => by omega⟩
  rw [htl] at hjl
  rw [htk j hjl, htk _ (by omega), hat, hat, if_neg (by omega), if_neg (by omega), if_neg (by omega), if_neg (by omega)]
  exact h j hj (by omega) (Nat.zero_le _)
end Go.Proofs.Ytmbapmagcfepaaa
namespace Go.Proofs.Ytmbapmagcfepaaa
open Go.RowKit
set_option linter.unusedVariables false
set_option linter.unusedSimpArgs false
section
variable {P : Program} {tt : TT} {m : Nat} {Q : Exit → XS → Prop} {fr : List AV} {H : AHeap} {M : MS} {l : List Oper} {o : Oper} {n0 : Nat} {us : List Nat} {H0 Hc : AHeap} {K : List AV → AHeap → Prop} {al : List Kd}
theorem ADR_free0 (hT : TyOK P tt) (hr : roOp o.op = true) (hw : wantedS fr o = some true) (h : match aop tt ⟨fr, []⟩ o with | some (x, _) => ADR P n0 us H0 K Hc (l, al, putL fr o.dst x) | none => False) : ADR P n0 us H0 K Hc (o :: l, .free :: al, fr) := fun n hn => by
  cases hx : aop tt ⟨fr, []⟩ o with
  | none => rw [hx] at h; exact h.elim
  | some p =>
    obtain ⟨x, H'⟩ := p
    rw [hx] at h
    have := aop_ro hr hx
    subst this
    exact ⟨x, Hc, none, .free x (wanted_iff hn hw) fun H => does_aop hT (aop_mono (H0 := []) ⟨Nat.zero_le _, fun o x e => by simp at e⟩ hr hx), h n (by show (putL _ _ _).length ≤ n; rw [putL_len]; exact hn)⟩
def kdOf2 (c : Bool) (op : Op) : Kd := match op with
  | .load _ _ => .free
  | op => kdOf c op
def alD2 (ops : List Oper) : List Kd := ops.map fun o => kdOf2 (ops.any fun o => isApp o.op) o.op
end
end Go.Proofs.Ytmbapmagcfepaaa
namespace Go.Proofs.Ytmbapmagcfepaaa
variable {P : Program} {m : Nat} {Q : Exit → XS → Prop}
theorem Inv.recell {G : Gh} {H : AHeap} {w : World} (h : Inv G H w) {o : Nat} {x : AObj} (ho : H[o]? = some (some x)) (hne : x.cells ≠ []) (xs : List AV) (hl : xs.length = x.cells.length) (h1 : xs.all AV.one = true) (hx : ∀ vs, RL H.length G x.cells vs → RL H.length G xs vs) : Inv G (H.set o (some ⟨x.t, xs⟩)) w := by
  have holt : o < H.length := (List.getElem?_eq_some_iff.1 ho).1
  have hlen : (H.set o (some ⟨x.t, xs⟩)).length = H.length := List.length_set
  have back : ∀ q z, (H.set o (some ⟨x.t, xs⟩))[q]? = some (some z) → ∃ z', H[q]? = some (some z') := fun q z hq => by
    by_cases hq2 : q = o
    · subst hq2; exact ⟨x, ho⟩
    · rw [List.getElem?_set_ne (Ne.symm hq2)] at hq; exact ⟨z, hq⟩
  refine ⟨h.os, h.tape, h.output, h.fz, h.kp, fun q hq => by rw [hlen]; exact h.dom q hq, fun q z e => by obtain ⟨z', hz'⟩ := back q z e; exact h.live q z' hz', fun o' y e => ?_, fun o1 o2 y y' e e' hne' => by
    obtain ⟨z, hz⟩ := back o1 y e
    obtain ⟨z', hz'⟩ := back o2 y' e'
    exact h.inj o1 o2 z z' hz hz' hne'⟩
  rw [hlen]
  by_cases hoo : o' = o
  · subst hoo
    rw [List.getElem?_set_self holt] at e
    simp only [Option.some.injEq] at e; subst e
    obtain ⟨k0, cs, k1, k2, k3, k4, k5, k6⟩ := h.real ho hne
    exact .inr ⟨k0, cs, k1, k2, by rw [hl]; exact hx _ k3, h1, k5, k6⟩
  · rw [List.getElem?_set_ne (Ne.symm hoo)] at e
    exact h.obj o' y e
end Go.Proofs.Ytmbapmagcfepaaa
