/- The contracts of the reference's Place and Against. -/
import Derived.Test.YthfcbjfeepindaaTimP
namespace Go.Proofs.Ythfcbjfeepindaa
open Go.RowKit
set_option linter.unusedVariables false
set_option linter.unusedSimpArgs false

/-- The first place of a number: -1 where there is none. -/
def pI (l : List Int) (x : Int) : Int := if tPl l x < l.length then (tPl l x : Int) else -1
theorem pI_hit {l : List Int} {x : Int} {k : Nat} (hk : k < l.length) (h : ∀ i, i < k → l.getD i 0 ≠ x) (he : l.getD k 0 = x) : pI l x = k := by
  have h1 := tPl_le l k hk
  rw [he] at h1
  have h2 : tPl l x = k := by
    by_cases hlt : tPl l x < k
    · exact absurd (tPl_at l x (by omega)) (h _ hlt)
    · omega
  unfold pI; rw [h2, if_pos hk]
theorem pI_none {l : List Int} {x : Int} (h : ∀ i, i < l.length → l.getD i 0 ≠ x) : pI l x = -1 := by
  unfold pI
  by_cases hlt : tPl l x < l.length
  · exact absurd (tPl_at l x hlt) (h _ hlt)
  · rw [if_neg hlt]
theorem pI_bd (l : List Int) (x : Int) : -1 ≤ pI l x ∧ pI l x < l.length := by unfold pI; split <;> omega
theorem tBad_pI (l : List Int) (p : Int × Int) : tBad l p = (decide (0 ≤ pI l p.2) && decide (pI l p.2 < pI l p.1)) := by
  unfold tBad pI
  rw [Bool.eq_iff_iff]
  simp only [Bool.and_eq_true, decide_eq_true_eq]
  have h1 := tPl_len l p.1
  have h2 := tPl_len l p.2
  constructor
  · intro h
    rw [if_pos (by omega), if_pos (by omega)]; omega
  · intro h
    by_cases c2 : tPl l p.2 < l.length
    · by_cases c1 : tPl l p.1 < l.length
      · rw [if_pos c2, if_pos c1] at h; omega
      · rw [if_pos c2, if_neg c1] at h; omega
    · rw [if_neg c2] at h; omega

set_option maxRecDepth 100000 in
theorem ref_Place33 (a : Option Addr) (len cap : Nat) (l : List Int) (x : Int) (w : World) (hr : IntRow w a len l) :
    Calls Try.prog 50 #[.slice a len cap, .int .i64 x] w fun e w' => e = .returned (.int .i64 (pI l x)) ∧ Below w.heap.size w w' := by
  have hm := hr.2.1; unfold maxLen at hm
  have HLL := Lib.hid hr.1
  have HR := Lib.hid hr
  clear hr
  go_enter Try.func50, Try.ntmps50
  go_wp2_with fail
  go_loopw [5] (fun i wr => ∃ k : Nat, k ≤ len ∧ i = .int .i64 k ∧ (∀ i, i < k → l.getD i 0 ≠ x) ∧ Below w.heap.size w wr) (fun i _ => len - (intOf i).toNat)
  case atStart => exact ⟨0, Nat.zero_le _, rfl, fun i hi => by omega, Below.refl _ _⟩
  case round =>
    obtain ⟨k, hk, rfl, hno, hb⟩ := hrel
    have HNO := Lib.hid hno
    have t1 : (0 : Int) ≤ (k : Int) := by omega
    clear hno
    by_cases hlt : k < len
    · have hra := HR.out.later hb
      obtain ⟨b, off, rfl, hc⟩ := hra.2.2 (by omega)
      have hck := hc k hlt
      have t2 : (k : Int) < (len : Int) := by omega
      clear hc hra
      by_cases he : l.getD k 0 = x
      · have HP := Lib.hid (pI_hit (by rw [HLL.out]; exact hlt) HNO.out he)
        have d1 : (l.getD k 0 == x) = true := by simpa using he
        generalize l.getD k 0 = z at *
        clear he
        go_wp2_with fail
        go_ret
        exact ⟨by rw [HP.out]; rfl, by (repeat (first | (with_reducible exact Below.refl _ _) | (with_reducible assumption) | (with_reducible refine below_alloc ?_ _) | (with_reducible refine below_drew ?_) | (with_reducible refine below_drewN ?_ _) | (with_reducible refine below_step ?_ (by with_reducible assumption))))⟩
      · have HP : Hid (∀ i, i < k + 1 → l.getD i 0 ≠ x) := Lib.hid (fun i hi => by
          by_cases hik : i = k
          · rw [hik]; exact he
          · exact HNO.out i (by omega))
        have d1 : (l.getD k 0 == x) = false := by simpa using he
        generalize hz : l.getD k 0 = z at *
        clear he hz
        go_wp2_with fail
        go_roundw
        case rel => exact ⟨k + 1, by omega, by go_num, HP.out, by (repeat (first | (with_reducible exact Below.refl _ _) | (with_reducible assumption) | (with_reducible refine below_alloc ?_ _) | (with_reducible refine below_drew ?_) | (with_reducible refine below_drewN ?_ _) | (with_reducible refine below_step ?_ (by with_reducible assumption))))⟩
        case measure => simp [intOf]; omega
    · have HK : Hid (k = len) := Lib.hid (by omega)
      go_wp2_with fail
      go_ret
      exact ⟨by rw [pI_none (fun i hi => HNO.out i (by rw [HLL.out] at hi; rw [HK.out]; exact hi))]; rfl, by (repeat (first | (with_reducible exact Below.refl _ _) | (with_reducible assumption) | (with_reducible refine below_alloc ?_ _) | (with_reducible refine below_drew ?_) | (with_reducible refine below_drewN ?_ _) | (with_reducible refine below_step ?_ (by with_reducible assumption))))⟩

set_option maxRecDepth 100000 in
set_option maxHeartbeats 2000000 in
theorem ref_Against33 (a : Option Addr) (len cap : Nat) (l : List Int) (a2 : Option Addr) (m cap2 : Nat) (ps : List (Int × Int)) (w : World) (hr : IntRow w a len l) (hr2 : PairRow w a2 m ps) :
    Calls Try.prog 45 #[.slice a len cap, .slice a2 m cap2] w fun e w' => e = .returned (.tuple #[.int .i64 (tAg l ps), .bool (tAgOk l ps)]) ∧ Below w.heap.size w w' := by
  have hm := hr2.2.1; unfold maxLen at hm
  have HR := Lib.hid hr; have HR2 := Lib.hid hr2
  have HML := Lib.hid hr2.1
  clear hr hr2
  go_enter Try.func45, Try.ntmps45
  go_wp2_with fail
  go_loopw [6] (fun i wr => ∃ j : Nat, j ≤ m ∧ i = .int .i64 j ∧ (∀ i, i < j → tBad l (prAt ps i) = false) ∧ Below w.heap.size w wr) (fun i _ => m - (intOf i).toNat)
  case atStart => exact ⟨0, Nat.zero_le _, rfl, fun i hi => by omega, Below.refl _ _⟩
  case round =>
    obtain ⟨j, hj, rfl, hno, hb⟩ := hrel
    have HNO := Lib.hid hno
    clear hno
    have t1 : (0 : Int) ≤ (j : Int) := by omega
    by_cases hlt : j < m
    · have hra := HR2.out.later hb
      obtain ⟨b, off, rfl, hc⟩ := hra.2.2 (by omega)
      obtain ⟨q0, q1⟩ := hc j hlt
      have t2 : (j : Int) < (m : Int) := by omega
      have hbad := tBad_pI l (prAt ps j)
      clear hc hra
      generalize hp1 : (prAt ps j).1 = p1 at *
      generalize hp2 : (prAt ps j).2 = p2 at *
      clear hp1 hp2
      cases hc1 : decide (0 ≤ pI l p2)
      all_goals
        rw [hc1] at hbad
        cases hc2 : decide (pI l p2 < pI l p1)
        all_goals
          rw [hc2] at hbad
          have HB := Lib.hid hbad
          have hlb := World.block_lt_of_cell? wr _ q0
          dsimp only at hlb
          have HC1 := Lib.hid hc1; have HC2 := Lib.hid hc2
          clear hbad hc1 hc2
          go_wp2_with fail
          go_region_held3 (fun wx => Below wr.heap.size wr wx ∧ wx.cell? ⟨b, off + j * 2, none⟩ = some (.int .i64 p1) ∧ wx.cell? ⟨b, off + j * 2 + 1, none⟩ = some (.int .i64 p2)) ((refine ⟨?_, ?_, ?_⟩; (repeat (first | (with_reducible exact Below.refl _ _) | (with_reducible assumption) | (with_reducible refine below_alloc ?_ _) | (with_reducible refine below_drew ?_) | (with_reducible refine below_drewN ?_ _) | (with_reducible refine below_step ?_ (by with_reducible assumption)))); all_goals (refine cell_later (w := wr) ?_ ?_ <;> (repeat (first | (with_reducible exact Below.refl _ _) | (with_reducible assumption) | (with_reducible refine below_alloc ?_ _) | (with_reducible refine below_drew ?_) | (with_reducible refine below_drewN ?_ _) | (with_reducible refine below_step ?_ (by with_reducible assumption))))))) (first | (go_at_call 50; refine (ref_Place33 _ _ _ _ _ _ (HR.out.later (by (repeat (first | (with_reducible exact Below.refl _ _) | (with_reducible assumption) | (with_reducible refine below_alloc ?_ _) | (with_reducible refine below_drew ?_) | (with_reducible refine below_drewN ?_ _) | (with_reducible refine below_step ?_ (by with_reducible assumption))))))).mono ?_; rintro e w' ⟨rfl, hbA⟩))
          have d1 := HC1.out; have d2 := HC2.out
          go_wp2_with fail
          first
          | go_roundw
            case rel => exact ⟨j + 1, by omega, by go_num, (fun i hi => by
              by_cases hij : i = j
              · rw [hij]; exact HB.out
              · exact HNO.out i (by omega)), by (repeat (first | (with_reducible exact Below.refl _ _) | (with_reducible assumption) | (with_reducible refine below_alloc ?_ _) | (with_reducible refine below_drew ?_) | (with_reducible refine below_drewN ?_ _) | (with_reducible refine below_step ?_ (by with_reducible assumption))))⟩
            case measure => simp [intOf]; omega
          | go_ret2
            have e1 := tAg_hit (l := l) (ps := ps) (k := j) (by rw [HML.out]; exact hlt) HNO.out HB.out
            refine ⟨ret_intb (by rw [e1]) ?_, by (repeat (first | (with_reducible exact Below.refl _ _) | (with_reducible assumption) | (with_reducible refine below_alloc ?_ _) | (with_reducible refine below_drew ?_) | (with_reducible refine below_drewN ?_ _) | (with_reducible refine below_step ?_ (by with_reducible assumption))))⟩
            unfold tAgOk
            exact (decide_eq_false (by rw [e1, HML.out]; omega)).symm
    · have hjn : j = m := by omega
      have HJ := Lib.hid hjn
      clear hjn
      go_wp2_with fail
      go_ret2
      have e1 := tAg_none (l := l) (ps := ps) (fun i hi => HNO.out i (by rw [HML.out] at hi; rw [HJ.out]; exact hi))
      refine ⟨ret_intb (by rw [e1, HML.out]) ?_, by (repeat (first | (with_reducible exact Below.refl _ _) | (with_reducible assumption) | (with_reducible refine below_alloc ?_ _) | (with_reducible refine below_drew ?_) | (with_reducible refine below_drewN ?_ _) | (with_reducible refine below_step ?_ (by with_reducible assumption))))⟩
      unfold tAgOk
      exact (decide_eq_true e1).symm
end Go.Proofs.Ythfcbjfeepindaa
