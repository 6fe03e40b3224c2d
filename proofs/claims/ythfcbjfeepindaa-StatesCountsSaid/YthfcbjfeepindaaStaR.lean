/- The contracts of states.Row and of the function that tells the state of a place. -/
import Derived.Test.YthfcbjfeepindaaStaA
import Derived.Test.YthfcbjfeepindaaStaP
namespace Go.Proofs.Ythfcbjfeepindaa
open Go.RowKit
set_option linter.unusedVariables false
set_option linter.unusedSimpArgs false

/-- The function of the state at a place. -/
theorem sta_row1 (n m place : Nat) (hok : nOk n m) (hp : place < n + 1) (b1 b2 : Nat) (ma : Option Addr) (ml mc : Nat) (bs : List Bool) (w : World) (hml : (ml : Int) = nVars n m)
    (c0 : w.cell? ⟨b1, 0, none⟩ = some (.int .i64 n)) (c1 : w.cell? ⟨b1, 1, none⟩ = some (.int .i64 m)) (c2 : w.cell? ⟨b2, 0, none⟩ = some (.slice ma ml mc)) (hm : BoolRow w ma ml bs) :
    Calls Try.prog 90 #[.int .i64 place, .pointer (some ⟨b1, 0, none⟩), .pointer (some ⟨b2, 0, none⟩)] w fun e w' => e = .returned (.tuple #[.int .i64 (lastT (stB n m bs place) m), .bool (((cntT (stB n m bs place) m : Nat) : Int) == 1)]) ∧ Below w.heap.size w w' := by
  have hm32 : m ≤ 32 := by unfold nOk at hok; omega
  have HOK := Lib.hid hok
  have hvs := stVars hok
  have hmlN : ml = n * n + n + (n + 1) * m := by omega
  have HML := Lib.hid hmlN
  have hb6 := stVars_le hok
  have hml6 : ml ≤ 6240 := by omega
  have HM := Lib.hid hm
  clear hvs hmlN hml hb6 hok hm
  go_enter Try.func90, Try.ntmps90
  go_wp2_with fail
  refine (sta_at n m place HOK.out _).mono ?_
  rintro e w1 ⟨v, rfl, hv, hb1⟩
  obtain ⟨a, len, cap, rfl, _, _, hr⟩ := hv.ints
  have hlen : len = m := by rw [← hr.1]; simp
  subst hlen
  have HR := Lib.hid hr
  clear hr hv
  have d2 := cell_later hb1 c2
  have d2l := World.block_lt_of_cell? _ _ d2
  dsimp only at d2l
  clear c0 c1 c2
  go_wp2_with fail
  go_loopw [4, 6, 7, 8, 13] (fun st cn a b i wr => ∃ k : Nat, k ≤ len ∧ i = .int .i64 k ∧ cn = .int .i64 (cntT (stB n len bs place) k) ∧ st = .int .i64 (lastT (stB n len bs place) k) ∧ Below w1.heap.size w1 wr) (fun _ _ _ _ i _ => len - (intOf i).toNat)
  case atStart => exact ⟨0, Nat.zero_le _, rfl, rfl, rfl, Below.refl _ _⟩
  case round =>
    obtain ⟨k, hk, rfl, rfl, rfl, hbr⟩ := hrel
    have hcl := cntT_le (stB n len bs place) k
    have hll := lastT_le (stB n len bs place) k
    by_cases hlt : k < len
    · obtain ⟨xb, xo, rfl, hxc⟩ := (HR.out.later hbr).2.2 (by omega)
      have hx := hxc k hlt
      clear hxc
      have hq := stVar HOK.out hp hlt
      have hql : n * n + n + place * len + k < ml := by rw [HML.out]; exact stAt_lt hp hlt
      have hB : stB n len bs place k = bs.getD (n * n + n + place * len + k) false := by unfold stB; rw [hq]; congr 1
      rw [show (List.map (fun i : Nat => nVar n len 3 place i) (List.range (len : Int).toNat)).getD k 0 = ((n * n + n + place * len + k : Nat) : Int) + 1 by simp [List.getD, hlt, hq]] at hx
      obtain ⟨mb, mo, rfl, hmc⟩ := (HM.out.later (below_step hb1 hbr)).2.2 (by omega)
      have hmk := hmc _ hql
      clear hmc hq
      have d3 := cell_later hbr d2
      rw [← hB] at hmk
      have HS1 : Hid (cntT (stB n len bs place) (k + 1) = if stB n len bs place k = true then cntT (stB n len bs place) k + 1 else cntT (stB n len bs place) k) := Lib.hid rfl
      have HS2 : Hid (lastT (stB n len bs place) (k + 1) = if stB n len bs place k = true then k else lastT (stB n len bs place) k) := Lib.hid rfl
      generalize n * n + n + place * len + k = q at *
      generalize cntT (stB n len bs place) k = c at *
      generalize lastT (stB n len bs place) k = l at *
      clear hB
      cases hBk : stB n len bs place k
      · rw [hBk] at hmk
        have HBK := Lib.hid hBk; clear hBk
        go_wp2_with fail
        go_roundw
        case rel => exact ⟨k + 1, by omega, by go_num, by rw [HS1.out, HBK.out]; rfl, by rw [HS2.out, HBK.out]; rfl, by (repeat (first | (with_reducible exact Below.refl _ _) | (with_reducible assumption) | (with_reducible refine below_alloc ?_ _) | (with_reducible refine below_drew ?_) | (with_reducible refine below_drewN ?_ _) | (with_reducible refine below_step ?_ (by with_reducible assumption))))⟩
        case measure => simp [intOf]; omega
      · rw [hBk] at hmk
        have HBK := Lib.hid hBk; clear hBk
        go_wp2_with fail
        go_roundw
        case rel => exact ⟨k + 1, by omega, by go_num, by rw [HS1.out, HBK.out]; go_num, by rw [HS2.out, HBK.out]; rfl, by (repeat (first | (with_reducible exact Below.refl _ _) | (with_reducible assumption) | (with_reducible refine below_alloc ?_ _) | (with_reducible refine below_drew ?_) | (with_reducible refine below_drewN ?_ _) | (with_reducible refine below_step ?_ (by with_reducible assumption))))⟩
        case measure => simp [intOf]; omega
    · have hkc : k = len := by omega
      have HKC := Lib.hid hkc; clear hkc
      go_wp2_with fail
      go_ret2
      rw [HKC.out]
      exact ⟨rfl, by (repeat (first | (with_reducible exact Below.refl _ _) | (with_reducible assumption) | (with_reducible refine below_alloc ?_ _) | (with_reducible refine below_drew ?_) | (with_reducible refine below_drewN ?_ _) | (with_reducible refine below_step ?_ (by with_reducible assumption))))⟩
end Go.Proofs.Ythfcbjfeepindaa
