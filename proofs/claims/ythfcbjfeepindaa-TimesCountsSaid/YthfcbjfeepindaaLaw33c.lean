/- Layer 33: TimesCounts. -/
import Derived.Test.YthfcbjfeepindaaLaw33b
import Derived.Test.YthfcbjfeepindaaTimY
namespace Go.Proofs.Ythfcbjfeepindaa
open Go.RowKit
set_option linter.unusedVariables false
set_option linter.unusedSimpArgs false

theorem tim_Clauses_len (o s : Int) (a : Option Addr) (m cap : Nat) (ps : List (Int × Int)) (w : World) (L : Nat) (hL : (tC o s ps).length = L) (hr : PairRow w a m ps) (hm : m ≤ 100000) :
    Calls Try.prog 48 #[.agg #[.int .i64 o, .int .i64 s], .slice a m cap] w fun e w' => ∃ ca cc, e = .returned (.slice ca L cc) ∧ Below w.heap.size w w' := by
  refine (tim_Clauses o s a m cap ps w hr hm).mono ?_
  rintro e w' ⟨v, rfl, h, hb⟩
  obtain ⟨ca, cl, cc, rfl, _, _, hCr⟩ := h.rows
  exact ⟨ca, cc, by rw [← hCr.1, hL], hb⟩
theorem tCounts_ways (n x y : Int) : (tCounts n x y = true ∧ (x != y) = true ∧ decide (0 ≤ x) = true ∧ decide (0 ≤ y) = true ∧ decide (x < n) = true ∧ decide (y < n) = true) ∨
    (tCounts n x y = false ∧ ((x != y) = false ∨ ((x != y) = true ∧ (decide (0 ≤ x) = false ∨ (decide (0 ≤ x) = true ∧ (decide (0 ≤ y) = false ∨ (decide (0 ≤ y) = true ∧ (decide (x < n) = false ∨ (decide (x < n) = true ∧ decide (y < n) = false))))))))) := by
  unfold tCounts
  simp only [decide_eq_true_eq, decide_eq_false_iff_not, bne_iff_ne, ne_eq, bne_eq_false_iff_eq]
  omega

set_option maxRecDepth 100000 in
set_option maxHeartbeats 8000000 in
theorem timesCounts_walk (w : World) (o s : Int) (wo : (Lit.int .i64 o).wf = true) (ws : (Lit.int .i64 s).wf = true) (a : Option Addr) (len cap : Nat) (hS : StructRow w 2 a len cap) :
    Calls Try.prog 12 #[.agg #[.int .i64 o, .int .i64 s], .slice a len cap] w fun e w' => e = .returned (.bool true) ∧ Below w.heap.size w w' := by
  clear wo ws
  have hb1 : Below w.heap.size w (w.alloc (.cells #[.int .i64 o, .int .i64 s] 23)) := by (repeat (first | (with_reducible exact Below.refl _ _) | (with_reducible assumption) | (with_reducible refine below_alloc ?_ _) | (with_reducible refine below_drew ?_) | (with_reducible refine below_drewN ?_ _) | (with_reducible refine below_step ?_ (by with_reducible assumption))))
  obtain ⟨ps, hpr, hpb⟩ := hS.pairs
  have HR := Lib.hid (hpr.later hb1)
  have HPB := Lib.hid hpb
  have HLL := Lib.hid hpr.1
  have hs1 := Blk.made w #[.int .i64 o, .int .i64 s] 23
  generalize hw1 : w.alloc (.cells #[.int .i64 o, .int .i64 s] 23) = W1 at *
  have HW1 := Lib.hid hw1; clear hw1
  have c0 := hs1.cell 0; have c1 := hs1.cell 1
  simp at c0 c1
  have d5 : decide (40 < (len : Int)) = decide (40 < len) := by rw [Bool.eq_iff_iff]; simp; omega
  clear hs1 hS hpr hpb
  by_cases hG : o ≤ 10 ∧ nOk o s ∧ len ≤ 40
  rotate_left
  · rcases guard33 o s len hG with d1 | ⟨d1, d2⟩ | ⟨d1, d2, d3⟩
    all_goals
      clear hG
      first | rw [d3] at d5 | clear d5
      go_enter Try.func12, Try.ntmps12
      go_wp2_with fail
      try rw [HW1.out]
      go_wp2_with (first | (go_at_call 25; refine (num_Check _ _ _).mono ?_; rintro e w' ⟨rfl, hbC⟩; have c0 := cell_later hbC c0; have c1 := cell_later hbC c1) | (go_at_call 43; refine (law33_awake _).mono ?_; rintro e w' ⟨rfl, hbAw⟩))
      go_returns
      exact ⟨rfl, by first | (repeat (first | (with_reducible exact Below.refl _ _) | (with_reducible assumption) | (with_reducible refine below_alloc ?_ _) | (with_reducible refine below_drew ?_) | (with_reducible refine below_drewN ?_ _) | (with_reducible refine below_step ?_ (by with_reducible assumption)))) | (rw [HW1.out]; (repeat (first | (with_reducible exact Below.refl _ _) | (with_reducible assumption) | (with_reducible refine below_alloc ?_ _) | (with_reducible refine below_drew ?_) | (with_reducible refine below_drewN ?_ _) | (with_reducible refine below_step ?_ (by with_reducible assumption)))))⟩
  · obtain ⟨h10, hok, h40⟩ := hG
    have d1 : decide (10 < o) = false := decide_eq_false (by omega)
    have d2 : (nCheck o s != 0) = false := by rw [nCheck_yes hok]; rfl
    have d3 : decide (40 < len) = false := decide_eq_false (by omega)
    rw [d3] at d5
    obtain ⟨n, rfl⟩ : ∃ n : Nat, o = n := ⟨o.toNat, by have := hok.1; omega⟩
    have hn10 : n ≤ 10 := by omega
    have hlen := tC_len hok ps
    rw [HLL.out] at hlen
    have hcl := tCnt_le n ps len
    have HTW := fun (h : tSortUp n ps n = none) => tSort_two h
    rw [HLL.out] at HTW
    have HTW := Lib.hid HTW
    have HCS := Lib.hid (fun k => tCnt_succ n ps k)
    have HC0 : Hid (tCnt n ps 0 = 0) := Lib.hid rfl
    have HLN := Lib.hid hlen
    have HOK := Lib.hid hok
    clear hlen hok h10
    go_enter Try.func12, Try.ntmps12
    go_wp2_with fail
    rw [HW1.out]
    go_wp2_with (go_at_call 25; refine (num_Check _ _ _).mono ?_; rintro e w' ⟨rfl, hbC⟩; have c0 := cell_later hbC c0; have c1 := cell_later hbC c1)
    clear d1 d2 d3 d5
    have hB1 : Below w.heap.size w w' := by (repeat (first | (with_reducible exact Below.refl _ _) | (with_reducible assumption) | (with_reducible refine below_alloc ?_ _) | (with_reducible refine below_drew ?_) | (with_reducible refine below_drewN ?_ _) | (with_reducible refine below_step ?_ (by with_reducible assumption))))
    have HR := Lib.hid (HR.out.later hbC)
    clear hbC hb1 HW1
    go_loopw [5, 6] (fun c i wr => ∃ k : Nat, k ≤ len ∧ i = .int .i64 k ∧ c = .int .i64 (tCnt n ps k : Int) ∧ Below w'.heap.size w' wr) (fun _ i _ => len - (intOf i).toNat)
    case atStart => exact ⟨0, Nat.zero_le _, rfl, by rw [HC0.out]; rfl, Below.refl _ _⟩
    case round =>
      obtain ⟨k, hk, rfl, rfl, hbr⟩ := hrel
      have t1 : (0 : Int) ≤ (k : Int) := by omega
      have e0 := cell_later hbr c0; have e1 := cell_later hbr c1
      have hl0 := World.block_lt_of_cell? wr _ e0
      dsimp only at hl0
      by_cases hlt : k < len
      · have hra := HR.out.later hbr
        obtain ⟨b, off, rfl, hc⟩ := hra.2.2 (by omega)
        obtain ⟨q0, q1⟩ := hc k hlt
        have t2 : (k : Int) < (len : Int) := by omega
        have hways := tCounts_ways n (prAt ps k).1 (prAt ps k).2
        have hS := HCS.out k
        have hck := tCnt_le n ps k
        have hk40 : tCnt n ps k ≤ 40 := by omega
        generalize hth : tCounts n (prAt ps k).1 (prAt ps k).2 = th at *
        generalize tCnt n ps k = ck at *
        clear hra hc hth
        generalize hp1 : (prAt ps k).1 = p1 at *
        generalize hp2 : (prAt ps k).2 = p2 at *
        clear hp1 hp2
        rcases hways with ⟨rfl, g1, g2, g3, g4, g5⟩ | ⟨rfl, g1 | ⟨g1, g2 | ⟨g2, g3 | ⟨g3, g4 | ⟨g4, g5⟩⟩⟩⟩⟩
        all_goals
          have HS := Lib.hid hS
          clear hS
          go_wp2_with fail
          go_roundw
          case rel => exact ⟨k + 1, by omega, by go_num, by rw [HS.out]; first | rfl | go_num, by (repeat (first | (with_reducible exact Below.refl _ _) | (with_reducible assumption) | (with_reducible refine below_alloc ?_ _) | (with_reducible refine below_drew ?_) | (with_reducible refine below_drewN ?_ _) | (with_reducible refine below_step ?_ (by with_reducible assumption))))⟩
          case measure => simp [intOf]; omega
      · have hkn : k = len := by omega
        subst hkn
        clear hlt hk
        have hc40 : tCnt n ps k ≤ 40 := by omega
        have hLN := HLN.out
        generalize hC : tCnt n ps k = C at *
        generalize hL : (tC (n : Int) s ps).length = L at *
        have HL := Lib.hid hL
        clear hC hL HC0
        have hnn : C * n ≤ 40 * 10 := Nat.mul_le_mul (by omega) (by omega)
        have hnn2 : (C * n) * n ≤ 400 * 10 := Nat.mul_le_mul hnn hn10
        have e3 : C * (n * n) = (C * n) * n := by rw [Nat.mul_assoc]
        rw [e3] at hLN
        have w1 : IntKind.i64.wrap ((C : Int) * (n : Int)) = ((C * n : Nat) : Int) := by rw [← Int.natCast_mul]; exact IntWalk.i64_in _ (by omega)
        have w2 : IntKind.i64.wrap ((n : Int) - 1) = (n : Int) - 1 := IntWalk.i64_in _ (by omega)
        have w3' : ((C * n : Nat) : Int) * ((n : Int) - 1) = 2 * (L : Int) := by
          rw [Int.mul_sub, Int.mul_one, ← Int.natCast_mul]
          omega
        have w3 : IntKind.i64.wrap (((C * n : Nat) : Int) * ((n : Int) - 1)) = 2 * (L : Int) := by rw [w3']; exact IntWalk.i64_in _ (by omega)
        have w4 : Int.tdiv (2 * (L : Int)) 2 = (L : Int) := by rw [Int.mul_comm, Int.mul_tdiv_cancel _ (by decide)]
        have w5 : IntKind.i64.wrap (L : Int) = (L : Int) := IntWalk.i64_in _ (by omega)
        generalize C * n = CN at *
        clear w3' hnn hnn2 e3 hLN HLN HCS
        go_wp2_with fail
        go_region_held3 (fun wx => Below wr.heap.size wr wx ∧ wx.cell? ⟨w.heap.size, 0, none⟩ = some (.int .i64 n) ∧ wx.cell? ⟨w.heap.size, 1, none⟩ = some (.int .i64 s)) ((refine ⟨?_, ?_, ?_⟩; (repeat (first | (with_reducible exact Below.refl _ _) | (with_reducible assumption) | (with_reducible refine below_alloc ?_ _) | (with_reducible refine below_drew ?_) | (with_reducible refine below_drewN ?_ _) | (with_reducible refine below_step ?_ (by with_reducible assumption)))); all_goals (first | (refine cell_later (w := wr) ?_ e0; (repeat (first | (with_reducible exact Below.refl _ _) | (with_reducible assumption) | (with_reducible refine below_alloc ?_ _) | (with_reducible refine below_drew ?_) | (with_reducible refine below_drewN ?_ _) | (with_reducible refine below_step ?_ (by with_reducible assumption)))); done) | (refine cell_later (w := wr) ?_ e1; (repeat (first | (with_reducible exact Below.refl _ _) | (with_reducible assumption) | (with_reducible refine below_alloc ?_ _) | (with_reducible refine below_drew ?_) | (with_reducible refine below_drewN ?_ _) | (with_reducible refine below_step ?_ (by with_reducible assumption)))); done))))
          (first | (go_at_call 48; refine (tim_Clauses_len _ _ _ _ _ ps _ L HL.out (HR.out.later (by (repeat (first | (with_reducible exact Below.refl _ _) | (with_reducible assumption) | (with_reducible refine below_alloc ?_ _) | (with_reducible refine below_drew ?_) | (with_reducible refine below_drewN ?_ _) | (with_reducible refine below_step ?_ (by with_reducible assumption)))))) (by omega)).mono ?_; rintro e w' ⟨ca, cc, rfl, hbA⟩))
        all_goals
          rename_i hHeld
          obtain ⟨hBx, e0, e1⟩ := hHeld
          go_wp2_with fail
          clear w1 w2 w3 w4 w5
          refine (tim_Sort _ _ _ _ ps _ (HR.out.later (by (repeat (first | (with_reducible exact Below.refl _ _) | (with_reducible assumption) | (with_reducible refine below_alloc ?_ _) | (with_reducible refine below_drew ?_) | (with_reducible refine below_drewN ?_ _) | (with_reducible refine below_step ?_ (by with_reducible assumption))))))).mono ?_
          rintro e w6 ⟨v6, rfl, hv6, hb6⟩
          have eT : tSort n ps = tSortUp n ps n := by unfold tSort; rw [if_pos (by omega), Int.toNat_natCast]
          rw [eT] at hv6 ⊢
          have f0 := cell_later hb6 e0; have f1 := cell_later hb6 e1
          cases hT : tSortUp n ps n with
          | none =>
            have h1C := HTW.out hT
            have g1 : decide (1 < (C : Int)) = true := by simp; omega
            have g2 : decide (1 < C) = true := by simpa using h1C
            clear hT hv6 h1C
            simp only [Option.isSome_none, Option.getD_none]
            go_wp2_with (go_at_call 43; refine (law33_awake _).mono ?_; rintro e w' ⟨rfl, hbAw⟩)
            go_returns
            exact ⟨rfl, by (repeat (first | (with_reducible exact Below.refl _ _) | (with_reducible assumption) | (with_reducible refine below_alloc ?_ _) | (with_reducible refine below_drew ?_) | (with_reducible refine below_drewN ?_ _) | (with_reducible refine below_step ?_ (by with_reducible assumption))))⟩
          | some out =>
            rw [hT] at hv6
            simp only [Option.isSome_some, Option.getD_some] at hv6 ⊢
            obtain ⟨o1, o2, o3⟩ := tSortUp_len hT
            have hag := sorted_ok hT
            have HPL := Lib.hid (fun x (hx : x < n) => sorted_place hT hx)
            obtain ⟨a7, l7, c7, rfl, _, _, hr7⟩ := hv6.ints
            have hl7 : l7 = n := by rw [← hr7.1, outI_len, o1]
            subst hl7
            have hob : ∀ i, i < l7 → -9223372036854775808 ≤ (outI out).getD i 0 ∧ (outI out).getD i 0 ≤ 9223372036854775807 := fun i hi => by
              have hi2 : i < out.length := by omega
              have : (outI out).getD i 0 = (out[i] : Int) := by simp [outI, List.getD, hi2]
              have := o2 _ (List.getElem_mem hi2)
              omega
            have HOB := Lib.hid hob
            have HAG := Lib.hid hag
            have HR7 := Lib.hid hr7
            clear hT hob o1 o2 o3 hag hv6 hr7
            go_wp2_with fail
            refine (tim_Against _ _ _ (outI out) _ _ _ ps _ HR7.out (by omega) (HR.out.later (by (repeat (first | (with_reducible exact Below.refl _ _) | (with_reducible assumption) | (with_reducible refine below_alloc ?_ _) | (with_reducible refine below_drew ?_) | (with_reducible refine below_drewN ?_ _) | (with_reducible refine below_step ?_ (by with_reducible assumption)))))) HOB.out HPB.out).mono ?_
            rintro e w8 ⟨rfl, hb8⟩
            rw [HAG.out]
            have p0 := cell_later hb8 f0; have p1 := cell_later hb8 f1
            go_wp2_with fail
            clear f0 f1 e0 e1
            go_loopw [12] (fun i wz => ∃ t : Nat, t ≤ l7 ∧ i = .int .i64 t ∧ Below w8.heap.size w8 wz) (fun i _ => l7 - (intOf i).toNat)
            case atStart => exact ⟨0, Nat.zero_le _, rfl, Below.refl _ _⟩
            case round =>
              obtain ⟨t, ht, rfl, hbz⟩ := hrel
              have z0 := cell_later hbz p0; have z1 := cell_later hbz p1
              by_cases hltt : t < l7
              · have e9 := HPL.out t hltt
                go_wp2_with (go_at_call 50; refine (ref_Place33 _ _ _ _ _ _ (HR7.out.later (by (repeat (first | (with_reducible exact Below.refl _ _) | (with_reducible assumption) | (with_reducible refine below_alloc ?_ _) | (with_reducible refine below_drew ?_) | (with_reducible refine below_drewN ?_ _) | (with_reducible refine below_step ?_ (by with_reducible assumption))))))).mono ?_; rintro e w' ⟨rfl, hbP⟩)
                go_roundw
                case rel => exact ⟨t + 1, by omega, by go_num, by (repeat (first | (with_reducible exact Below.refl _ _) | (with_reducible assumption) | (with_reducible refine below_alloc ?_ _) | (with_reducible refine below_drew ?_) | (with_reducible refine below_drewN ?_ _) | (with_reducible refine below_step ?_ (by with_reducible assumption))))⟩
                case measure => simp [intOf]; omega
              · have htl : t = l7 := by omega
                subst htl
                go_wp2_with (go_at_call 43; refine (law33_awake _).mono ?_; rintro e w' ⟨rfl, hbAw⟩)
                go_returns
                exact ⟨rfl, by (repeat (first | (with_reducible exact Below.refl _ _) | (with_reducible assumption) | (with_reducible refine below_alloc ?_ _) | (with_reducible refine below_drew ?_) | (with_reducible refine below_drewN ?_ _) | (with_reducible refine below_step ?_ (by with_reducible assumption))))⟩
end Go.Proofs.Ythfcbjfeepindaa
