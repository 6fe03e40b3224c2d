/- Package count's sums, and the reference's, whatever the numbers. -/
import Derived.Test.YthfcbjfeepindaaCntM
namespace Go.Proofs.Ythfcbjfeepindaa
open Go.RowKit
set_option linter.unusedVariables false
set_option linter.unusedSimpArgs false

instance (o s p : Int) : Decidable (tmOk o s p) := by unfold tmOk; infer_instance
instance (o s e : Int) : Decidable (mvOk o s e) := by unfold mvOk; infer_instance
def kP (o s : Int) : Int := if nOk o s then cP o.toNat else 0
def kT (o s p : Int) : Int := if tmOk o s p then ((tri o.toNat * p.toNat : Nat) : Int) else 0
def kS (o s : Int) : Int := if nOk o s then cSt o.toNat s.toNat else 0
def kM (o s e : Int) : Int := if mvOk o s e then cMv o.toNat s.toNat e.toNat else 0
theorem nOk_nats {o s : Int} (h : nOk o s) : ∃ n m : Nat, o = n ∧ s = m := ⟨o.toNat, s.toNat, by unfold nOk at h; omega, by unfold nOk at h; omega⟩

theorem cnt_P (o s : Int) (w : World) : Calls Try.prog 60 #[.agg #[.int .i64 o, .int .i64 s]] w fun e w' => e = .returned (.int .i64 (kP o s)) ∧ Below w.heap.size w w' := by
  by_cases h : nOk o s
  · obtain ⟨n, m, rfl, rfl⟩ := nOk_nats h
    have e : kP n m = cP n := by unfold kP; rw [if_pos h, Int.toNat_natCast]
    rw [e]; exact cnt_Places n m h w
  · have e : kP o s = 0 := by unfold kP; rw [if_neg h]
    rw [e]; exact cnt_Places_no o s h w
theorem rcnt_P (o s : Int) (w : World) : Calls Try.prog 61 #[.int .i64 o, .int .i64 s] w fun e w' => e = .returned (.int .i64 (kP o s)) ∧ w = w' := by
  by_cases h : nOk o s
  · obtain ⟨n, m, rfl, rfl⟩ := nOk_nats h
    have e : kP n m = cP n := by unfold kP; rw [if_pos h, Int.toNat_natCast]
    rw [e]; exact rcnt_Places n m h w
  · have e : kP o s = 0 := by unfold kP; rw [if_neg h]
    rw [e]; exact rcnt_Places_no o s h w
theorem cnt_T (o s p : Int) (w : World) : Calls Try.prog 62 #[.agg #[.int .i64 o, .int .i64 s], .int .i64 p] w fun e w' => e = .returned (.int .i64 (kT o s p)) ∧ Below w.heap.size w w' := by
  by_cases h : tmOk o s p
  · obtain ⟨n, m, rfl, rfl⟩ := nOk_nats h.1
    obtain ⟨q, rfl⟩ : ∃ q : Nat, p = q := ⟨p.toNat, by have := h.2.1; omega⟩
    have e : kT n m q = ((tri n * q : Nat) : Int) := by unfold kT; rw [if_pos h, Int.toNat_natCast, Int.toNat_natCast]
    rw [e]; exact cnt_Times n m q h w
  · have e : kT o s p = 0 := by unfold kT; rw [if_neg h]
    rw [e]; exact cnt_Times_no o s p h w
theorem rcnt_T (o s p : Int) (w : World) : Calls Try.prog 63 #[.int .i64 o, .int .i64 s, .int .i64 p] w fun e w' => e = .returned (.int .i64 (kT o s p)) ∧ w = w' := by
  by_cases h : tmOk o s p
  · obtain ⟨n, m, rfl, rfl⟩ := nOk_nats h.1
    obtain ⟨q, rfl⟩ : ∃ q : Nat, p = q := ⟨p.toNat, by have := h.2.1; omega⟩
    have e : kT n m q = ((tri n * q : Nat) : Int) := by unfold kT; rw [if_pos h, Int.toNat_natCast, Int.toNat_natCast]
    rw [e]; exact rcnt_Times n m q h w
  · have e : kT o s p = 0 := by unfold kT; rw [if_neg h]
    rw [e]; exact rcnt_Times_no o s p h w
theorem cnt_S (o s : Int) (w : World) : Calls Try.prog 64 #[.agg #[.int .i64 o, .int .i64 s]] w fun e w' => e = .returned (.int .i64 (kS o s)) ∧ Below w.heap.size w w' := by
  by_cases h : nOk o s
  · obtain ⟨n, m, rfl, rfl⟩ := nOk_nats h
    have e : kS n m = cSt n m := by unfold kS; rw [if_pos h, Int.toNat_natCast, Int.toNat_natCast]
    rw [e]; exact cnt_States n m h w
  · have e : kS o s = 0 := by unfold kS; rw [if_neg h]
    rw [e]; exact cnt_States_no o s h w
theorem rcnt_S (o s : Int) (w : World) : Calls Try.prog 65 #[.int .i64 o, .int .i64 s] w fun e w' => e = .returned (.int .i64 (kS o s)) ∧ w = w' := by
  by_cases h : nOk o s
  · obtain ⟨n, m, rfl, rfl⟩ := nOk_nats h
    have e : kS n m = cSt n m := by unfold kS; rw [if_pos h, Int.toNat_natCast, Int.toNat_natCast]
    rw [e]; exact rcnt_States n m h w
  · have e : kS o s = 0 := by unfold kS; rw [if_neg h]
    rw [e]; exact rcnt_States_no o s h w
theorem cnt_M (o s p : Int) (w : World) : Calls Try.prog 66 #[.agg #[.int .i64 o, .int .i64 s], .int .i64 p] w fun e w' => e = .returned (.int .i64 (kM o s p)) ∧ Below w.heap.size w w' := by
  by_cases h : mvOk o s p
  · obtain ⟨n, m, rfl, rfl⟩ := nOk_nats h.1
    obtain ⟨q, rfl⟩ : ∃ q : Nat, p = q := ⟨p.toNat, by have := h.2.1; omega⟩
    have e : kM n m q = cMv n m q := by unfold kM; rw [if_pos h, Int.toNat_natCast, Int.toNat_natCast, Int.toNat_natCast]
    rw [e]; exact cnt_Moves n m q h w
  · have e : kM o s p = 0 := by unfold kM; rw [if_neg h]
    rw [e]; exact cnt_Moves_no o s p h w
theorem rcnt_M (o s p : Int) (w : World) : Calls Try.prog 67 #[.int .i64 o, .int .i64 s, .int .i64 p] w fun e w' => e = .returned (.int .i64 (kM o s p)) ∧ w = w' := by
  by_cases h : mvOk o s p
  · obtain ⟨n, m, rfl, rfl⟩ := nOk_nats h.1
    obtain ⟨q, rfl⟩ : ∃ q : Nat, p = q := ⟨p.toNat, by have := h.2.1; omega⟩
    have e : kM n m q = cMv n m q := by unfold kM; rw [if_pos h, Int.toNat_natCast, Int.toNat_natCast, Int.toNat_natCast]
    rw [e]; exact rcnt_Moves n m q h w
  · have e : kM o s p = 0 := by unfold kM; rw [if_neg h]
    rw [e]; exact rcnt_Moves_no o s p h w
/-- All four are small. -/
theorem kAll_bd (o s p e : Int) : 0 ≤ kP o s ∧ kP o s ≤ 300000 ∧ 0 ≤ kT o s p ∧ kT o s p ≤ 5000000 ∧ 0 ≤ kS o s ∧ kS o s ≤ 40000 ∧ 0 ≤ kM o s e ∧ kM o s e ≤ 400000 := by
  refine ⟨?_, ?_, ?_, ?_, ?_, ?_, ?_, ?_⟩
  · unfold kP; split
    · unfold cP; omega
    · omega
  · unfold kP; split
    · rename_i h
      obtain ⟨n, m, rfl, rfl⟩ := nOk_nats h
      have := n_tri (n := n) (by unfold nOk at h; omega)
      unfold nOk at h
      unfold cP; rw [Int.toNat_natCast]; omega
    · omega
  · unfold kT; split <;> omega
  · unfold kT; split
    · rename_i h
      obtain ⟨n, m, rfl, rfl⟩ := nOk_nats h.1
      have := tri_mul (n := n) (p := p.toNat) (by have := h.1; unfold nOk at this; omega) (by have := h.2; omega)
      rw [Int.toNat_natCast]; omega
    · omega
  · unfold kS; split
    · unfold cSt; omega
    · omega
  · unfold kS; split
    · rename_i h
      obtain ⟨n, m, rfl, rfl⟩ := nOk_nats h
      have := st_le (n := n) (m := m) (by unfold nOk at h; omega) (by unfold nOk at h; omega)
      unfold cSt; rw [Int.toNat_natCast, Int.toNat_natCast]; omega
    · omega
  · unfold kM; split
    · unfold cMv; omega
    · omega
  · unfold kM; split
    · rename_i h
      obtain ⟨n, m, rfl, rfl⟩ := nOk_nats h.1
      obtain ⟨q, rfl⟩ : ∃ q : Nat, e = q := ⟨e.toNat, by have := h.2.1; omega⟩
      have := mv_le (n := n) (m := m) (e := q) (by have := h.1; unfold nOk at this; omega) (by have := h.1; unfold nOk at this; omega) (by have := h.2; omega)
      unfold cMv; rw [Int.toNat_natCast, Int.toNat_natCast, Int.toNat_natCast]; omega
    · omega
end Go.Proofs.Ythfcbjfeepindaa
