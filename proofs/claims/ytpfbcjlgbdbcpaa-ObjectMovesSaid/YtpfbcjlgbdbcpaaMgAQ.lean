import Derived.Test.YtpfbcjlgbdbcpaaMgAP
import Derived.Test.YtpfbcjlgbdbcpaaMgAA
namespace Go.Proofs.Ytpfbcjlgbdbcpaa
set_option linter.unusedVariables false
def cnR (xs : List Rw) (p : Rw → Bool) : Nat → Nat
  | 0 => 0
  | k + 1 => cnR xs p k + (if p (rwAt xs k) = true then 1 else 0)
theorem cnR_le (xs : List Rw) (p : Rw → Bool) : ∀ k, cnR xs p k ≤ k
  | 0 => Nat.le_refl _
  | k + 1 => by have := cnR_le xs p k; unfold cnR; split <;> omega
theorem cnR_take (xs : List Rw) (p : Rw → Bool) : ∀ k, k ≤ xs.length → cnR xs p k = (xs.take k).countP p
  | 0, _ => rfl
  | k + 1, h => by
    unfold cnR
    rw [cnR_take xs p k (by omega), List.take_succ_eq_append_getElem (by omega : k < xs.length), List.countP_append, rwAt_get (by omega : k < xs.length)]
    simp [List.countP_cons]
theorem cnR_all (xs : List Rw) (p : Rw → Bool) : cnR xs p xs.length = xs.countP p := by rw [cnR_take xs p _ (Nat.le_refl _), List.take_length]
theorem cnR_srt (xs : List Rw) (p : Rw → Bool) : cnR (srtR xs) p xs.length = cnR xs p xs.length := by
  have h := cnR_all (srtR xs) p
  rw [srtR_len] at h
  rw [h, cnR_all]
  exact (srtR_perm xs).countP_eq p
theorem cnR_pos {xs : List Rw} {p : Rw → Bool} : ∀ {k : Nat}, 0 < cnR xs p k ↔ ∃ i, i < k ∧ p (rwAt xs i) = true
  | 0 => ⟨fun h => by simp [cnR] at h, fun ⟨i, h, _⟩ => by omega⟩
  | k + 1 => by
    have ih := cnR_pos (xs := xs) (p := p) (k := k)
    unfold cnR
    by_cases h : p (rwAt xs k) = true
    · rw [if_pos h]; exact ⟨fun _ => ⟨k, by omega, h⟩, fun _ => by omega⟩
    · rw [if_neg h, Nat.add_zero, ih]
      constructor
      · rintro ⟨i, h1, h2⟩; exact ⟨i, by omega, h2⟩
      · rintro ⟨i, h1, h2⟩
        rcases Nat.lt_or_ge i k with h3 | h3
        · exact ⟨i, h3, h2⟩
        · rw [show i = k by omega] at h2; exact absurd h2 h
theorem cnR_one {xs : List Rw} {p : Rw → Bool} (h : ∀ i j, i < j → j < xs.length → ¬ (p (rwAt xs i) = true ∧ p (rwAt xs j) = true)) : ∀ k, k ≤ xs.length → cnR xs p k ≤ 1
  | 0, _ => Nat.zero_le _
  | k + 1, hk => by
    have ih := cnR_one h k (by omega)
    unfold cnR
    by_cases e : p (rwAt xs k) = true
    · rw [if_pos e]
      rcases Nat.eq_zero_or_pos (cnR xs p k) with h0 | h0
      · omega
      · obtain ⟨i, h1, h2⟩ := cnR_pos.1 h0
        exact absurd ⟨h2, e⟩ (h i k h1 (by omega))
    · rw [if_neg e]; omega
def hitR (st kd : Int) (r : Rw) : Bool := decide (r.s = st ∧ r.k = kd)
theorem hit_one {o : Ob} (h : obE o = 0) (st kd : Int) (i j : Nat) (hij : i < j) (hj : j < o.R.length) : ¬ (hitR st kd (rwAt o.R i) = true ∧ hitR st kd (rwAt o.R j) = true) := by
  obtain ⟨_, h2⟩ := obE_zero.1 h
  have hp := rises_pw (fun i h0 hi => (obErr_zero (h2 i hi)).2.2.2.2 h0) i j hij hj
  rintro ⟨a, b⟩
  unfold hitR at a b
  have a := of_decide_eq_true a
  have b := of_decide_eq_true b
  unfold rises at hp; omega
theorem mvOk_cn (o : Ob) (st kd : Int) : mvOk o st kd = decide (0 < cnR o.R (hitR st kd) o.R.length) := by
  rw [Bool.eq_iff_iff, decide_eq_true_iff, cnR_pos]
  unfold mvOk
  rw [decide_eq_true_iff]
  constructor
  · intro h; exact ⟨_, h, mvI_is h⟩
  · rintro ⟨i, hi, hp⟩
    rcases Nat.lt_or_ge (mvI o st kd) o.R.length with h | h
    · exact h
    · have h1 : mvI o st kd = o.R.length := Nat.le_antisymm (fb_le _ _) h
      have h3 := fb_eq.1 h1 i hi
      have h4 : mvAt o st kd i = true := hp
      rw [mvErr, if_pos h4] at h3; omega
theorem mv_hit1 {o : Ob} (h : obE o = 0) {st kd : Int} {i : Nat} (hi : i < o.R.length) (hp : hitR st kd (rwAt o.R i) = true) : mvN o st kd = (rwAt o.R i).n ∧ mvR o st kd = (rwAt o.R i).r := by
  have hI : mvI o st kd = i := mvI_at (fun j hj => by
    cases e : mvAt o st kd j with
    | false => rfl
    | true => exact absurd ⟨e, hp⟩ (hit_one h st kd j i hj hi)) hp hi
  unfold mvN mvR
  rw [hI, if_pos hi, if_pos hi]; exact ⟨rfl, rfl⟩
end Go.Proofs.Ytpfbcjlgbdbcpaa
namespace Go.Proofs.Ytpfbcjlgbdbcpaa
open Go.ChangeShapes Go.WideShapes Go.ChangeAt Go.RowKit
set_option linter.unusedVariables false
theorem open_arr2 {P : Program} {H : Type} {enc : TypeId × Value → H} {w : World} {base b0 : Nat} {sp : Nat → Bool} {held : Bool} {r : Reach} {t e : TypeId} {v : Value} {d : DataW H} {pl : List MemPlace}
    (ht : P.underlying t = some (.array 2 e)) (he : P.underlying e = some (.int .i64)) (hc1 : P.cellsOf e = 1) (hC : P.cellsOf t = 2)
    (hv : Value.okWide P w r b0 t v) (h : DataW.Trod enc P w base sp held t v d pl) : ∃ a b, v = .agg #[.int .i64 a, .int .i64 b] ∧ (Lit.int .i64 a).wf = true ∧ (Lit.int .i64 b).wf = true := by
  simp only [Value.okWide, ht] at hv
  obtain ⟨cs, rfl, h2, _⟩ := hv
  rw [hC] at h2
  obtain ⟨fuel, hf⟩ := h
  obtain ⟨ys, n', _, _, _, hyl, hfs⟩ := DataW.trod_array ht hf
  have hcl : ∀ j, j < 2 → ∃ x : Int, cs[j]? = some (.int .i64 x) ∧ (Lit.int .i64 x).wf = true := by
    intro j hj
    have hjc : j < cs.toList.length := by simpa using by omega
    have h1 := hfs j hj
    rw [hc1, Nat.mul_one] at h1
    simp only [Value.cells] at h1
    have h3 : (cs.toList.drop j).take 1 = [cs.toList[j]] := by rw [List.drop_eq_getElem_cons hjc]; rfl
    rw [h3, List.getElem?_eq_getElem (by omega : j < ys.length)] at h1
    obtain ⟨x, hx, _, hw⟩ := DataW.trod_int he h1
    simp only [List.cons.injEq, and_true] at hx
    exact ⟨x, by rw [← Array.getElem?_toList, List.getElem?_eq_getElem hjc, hx], hw⟩
  obtain ⟨a, ha, wa⟩ := hcl 0 (by omega)
  obtain ⟨b, hb, wb⟩ := hcl 1 (by omega)
  refine ⟨a, b, ?_, wa, wb⟩
  congr 1
  apply Array.ext_getElem?
  intro i
  rcases i with _ | _ | i
  · exact ha
  · exact hb
  · rw [Array.getElem?_eq_none (by omega), Array.getElem?_eq_none (by simp)]
end Go.Proofs.Ytpfbcjlgbdbcpaa
