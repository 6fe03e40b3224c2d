/- The contract of the reference's Sort. -/
import Derived.Test.YthfcbjfeepindaaTimR
import Derived.Test.YthfcbjfeepindaaApp
import Derived.Test.YthfcbjfeepindaaTimU
namespace Go.Proofs.Ythfcbjfeepindaa
open Go.RowKit
set_option linter.unusedVariables false
set_option linter.unusedSimpArgs false

theorem tHolds_cases (n : Nat) (out : List Nat) (x : Nat) (p q : Int) (hx : x < n) : (tHolds n out x (p, q) = false ∧ ((q == (x : Int)) = false ∨ ((q == (x : Int)) = true ∧ ((p != (x : Int)) = false ∨ ((p != (x : Int)) = true ∧ (decide (0 ≤ p) = false ∨ (decide (0 ≤ p) = true ∧ (decide (p < n) = false ∨ (decide (p < n) = true ∧ decide (pI (outI out) p < 0) = false)))))))))
    ∨ (tHolds n out x (p, q) = true ∧ (q == (x : Int)) = true ∧ (p != (x : Int)) = true ∧ decide (0 ≤ p) = true ∧ decide (p < n) = true ∧ decide (pI (outI out) p < 0) = true) := by
  unfold tHolds
  by_cases h1 : q = (x : Int)
  · by_cases h2 : p = (x : Int)
    · left; subst h1; subst h2; simp [tCounts]
    · by_cases h3 : 0 ≤ p
      · by_cases h4 : p < n
        · have hc : tCounts n p q = true := by unfold tCounts; simp; omega
          have hp := pI_out out p h3
          rw [hp]
          cases h5 : out.contains p.toNat
          · right; simp [h1, h2, h3, h4]; rw [← h1]; simpa using hc
          · left; simp [h1, h2, h3, h4]
        · left; refine ⟨?_, by simp [h1, h2, h3, h4]⟩
          have hc : tCounts n p q = false := by unfold tCounts; simp; omega
          simp [hc]
      · left; refine ⟨?_, by simp [h1, h2, h3]⟩
        have hc : tCounts n p q = false := by unfold tCounts; simp; omega
        simp [hc]
  · left; simp [h1]
/-- q is the least free one from x on: -1 where there is none. -/
def NX (n : Nat) (ps : List (Int × Int)) (out : List Nat) (x : Nat) (q : Int) : Prop :=
  (q = -1 ∧ ∀ z, x ≤ z → z < n → tFree n ps out z = false) ∨ (∃ z : Nat, q = z ∧ x ≤ z ∧ z < n ∧ tFree n ps out z = true ∧ ∀ y, x ≤ y → y < z → tFree n ps out y = false)
theorem NX.start (n : Nat) (ps : List (Int × Int)) (out : List Nat) : NX n ps out n (-1) := Or.inl ⟨rfl, fun z h1 h2 => by omega⟩
theorem NX.hit {n : Nat} {ps : List (Int × Int)} {out : List Nat} {x : Nat} (hx : x < n) (h : tFree n ps out x = true) : NX n ps out x (x : Int) := Or.inr ⟨x, rfl, Nat.le_refl _, hx, h, fun y h1 h2 => by omega⟩
theorem NX.miss {n : Nat} {ps : List (Int × Int)} {out : List Nat} {x : Nat} {q : Int} (h : NX n ps out (x + 1) q) (hf : tFree n ps out x = false) : NX n ps out x q := by
  have hz : ∀ z, x ≤ z → z = x ∨ x + 1 ≤ z := fun z h => by omega
  rcases h with ⟨h1, h2⟩ | ⟨z, h1, h2, h3, h4, h5⟩
  · exact Or.inl ⟨h1, fun z k1 k2 => by
      rcases hz z k1 with e | e
      · rw [e]; exact hf
      · exact h2 z e k2⟩
  · exact Or.inr ⟨z, h1, by omega, h3, h4, fun y k1 k2 => by
      rcases hz y k1 with e | e
      · rw [e]; exact hf
      · exact h5 y e k2⟩
theorem NX.end0 {n : Nat} {ps : List (Int × Int)} {out : List Nat} {q : Int} (h : NX n ps out 0 q) : (q = -1 ∧ tLeast n ps out = n) ∨ (∃ z : Nat, q = z ∧ z < n ∧ tLeast n ps out = z) := by
  rcases h with ⟨h1, h2⟩ | ⟨z, h1, h2, h3, h4, h5⟩
  · exact Or.inl ⟨h1, tLeast_none fun y hy => h2 y (Nat.zero_le _) hy⟩
  · exact Or.inr ⟨z, h1, h3, tLeast_eq h3 (fun y hy => h5 y (Nat.zero_le _) hy) h4⟩

set_option maxRecDepth 100000 in
set_option maxHeartbeats 4000000 in
theorem ref_Sort_in (n : Nat) (a : Option Addr) (len cap : Nat) (ps : List (Int × Int)) (w : World) (hn : n ≤ 64) (hr : PairRow w a len ps) :
    Calls Try.prog 47 #[.int .i64 n, .slice a len cap] w (SortPost n ps w) := by
  have hm := hr.2.1; unfold maxLen at hm
  have HR := Lib.hid hr
  have HLL := Lib.hid hr.1
  clear hr
  have d1 : decide ((n : Int) < 0) = false := decide_eq_false (by omega)
  have d2 : decide (64 < (n : Int)) = false := decide_eq_false (by omega)
  go_enter Try.func47, Try.ntmps47
  go_wp2_with fail
  clear d1 d2
  go_loopw [6, 7, 8, 9, 10, 11] (fun v i _ _ _ _ wx => ∃ (j : Nat) (out : List Nat), j ≤ n ∧ i = .int .i64 j ∧ tSortUp n ps j = some out ∧ OwnInts wx w.heap.size v (outI out) ∧ Below w.heap.size w wx) (fun _ i _ _ _ _ _ => n - (intOf i).toNat)
  case atStart => exact ⟨0, [], Nat.zero_le _, rfl, rfl, OwnInts.nil _ _, Below.refl _ _⟩
  case round =>
    obtain ⟨j, out, hj, rfl, hup, hown, hBx⟩ := hrel
    by_cases hltj : j < n
    · obtain ⟨ho1, ho2, ho3⟩ := tSortUp_len hup
      have HUP := Lib.hid hup
      have HOL : Hid ((outI out).length = j) := Lib.hid (by rw [outI_len]; exact ho1)
      obtain ⟨a2, len2, cap2, rfl, _, _, hrow⟩ := hown.ints
      have hl2 : len2 = j := by rw [← hrow.1]; exact HOL.out
      subst hl2
      have HO := Lib.hid hown; have HW := Lib.hid hrow
      clear hup ho2 ho3 ho1 hown hrow
      go_wp2_with fail
      go_loopw [8, 9, 10, 11] (fun q x _ _ wy => ∃ (m : Nat) (qq : Int), m ≤ n ∧ x = .int .i64 ((m : Int) - 1) ∧ q = .int .i64 qq ∧ NX n ps out m qq ∧ OwnInts wy w.heap.size (.slice a2 len2 cap2) (outI out) ∧ IntRow wy a2 len2 (outI out) ∧ Below w.heap.size w wy) (fun _ x _ _ _ => (intOf x + 1).toNat)
      case atStart => exact ⟨n, -1, Nat.le_refl _, rfl, rfl, NX.start n ps out, HO.out, HW.out, hBx⟩
      case round =>
        clear HO HW hBx
        obtain ⟨m, qq, hmn, rfl, rfl, hnx, hown, hrow, hBx⟩ := hrel
        have HNX := Lib.hid hnx
        have HO := Lib.hid hown; have HW := Lib.hid hrow
        clear hnx hown hrow
        by_cases hm0 : m = 0
        · subst hm0
          have hst := tSortUp_step HUP.out
          have e0 : (((0 : Nat) : Int) - 1) = -1 := rfl
          rw [e0]
          rcases HNX.out.end0 with ⟨rfl, hl⟩ | ⟨z, rfl, hz, hl⟩
          · rw [if_pos hl] at hst
            have HST := Lib.hid (tSortUp_none (m := n) hst (by omega))
            clear hl hst e0
            go_wp2_with fail
            go_ret2
            exact Or.inr ⟨HST.out, rfl, hBx⟩
          · rw [hl, if_neg (by omega)] at hst
            have HST := Lib.hid hst
            have HOI := Lib.hid (outI_push out z)
            have ho6 := HO.out
            have d4 : decide ((z : Int) < 0) = false := decide_eq_false (by omega)
            clear hl hst e0
            generalize hX : outI out = X at *
            have HX := Lib.hid hX
            clear hX
            unfold OwnInts at ho6
            rw [HOL.out] at ho6
            have hsz := hBx.size
            go_wp2_with (at_builtin; refine wpList_app rfl _ _ 41 rfl w.heap.size 3 (.int .i64 0) 1 8 Try.underlying41 info_int rfl (by decide) _ _ _ rfl (ho6.alloc _) (some ⟨wr.heap.size, 0, none⟩) 1 1 [.int .i64 ((z : Int))] rfl ?c0 rfl ?c1 ?c2 ?c3 ?c4 ?c5 ?_)
            (case c0 => exact fun h => by cases h); (case c1 => exact CellRow.made wr _ _); (case c2 => intro u hu; simp at hu; subst hu; rfl); (case c3 => unfold maxLen; omega); (case c4 => omega); (case c5 => simp; omega)
            intro v' w1 hown1 hgr
            obtain ⟨hnew, hbw⟩ := OwnInts.push HOL.out hBx ho6 _ hown1 hgr
            have HN2 := Lib.hid hnew
            clear hown1 hgr hnew ho6
            go_wp2_with fail
            go_roundw
            case rel => exact ⟨len2 + 1, out ++ [z], by omega, by go_num, HST.out, by rw [HOI.out]; exact HN2.out, hbw⟩
            case measure => simp [intOf]; omega
        · obtain ⟨x, rfl⟩ : ∃ x, m = x + 1 := ⟨m - 1, by omega⟩
          clear hm0
          have hxn : x < n := by omega
          have ex : ((x + 1 : Nat) : Int) - 1 = (x : Int) := by omega
          rw [ex]
          have d3 : decide (0 ≤ (x : Int)) = true := decide_eq_true (by omega)
          go_wp2_with (go_at_call 50; refine (ref_Place33 _ _ _ _ _ _ HW.out).mono ?_; rintro e w' ⟨rfl, hbA⟩)
          have hf0 : decide (pI (outI out) x < 0) = tFreeK n ps out x 0 := by rw [tFreeK_zero, pI_out out x (by omega), Int.toNat_natCast]
          rw [hf0]
          clear hf0 ex d3
          go_loopw [10, 11] (fun f i wz => ∃ t : Nat, t ≤ len ∧ i = .int .i64 t ∧ f = .bool (tFreeK n ps out x t) ∧ OwnInts wz w.heap.size (.slice a2 len2 cap2) (outI out) ∧ IntRow wz a2 len2 (outI out) ∧ Below w.heap.size w wz) (fun _ i _ => len - (intOf i).toNat)
          case atStart => exact ⟨0, Nat.zero_le _, rfl, rfl, HO.out.later hbA, HW.out.later hbA, below_step hBx hbA⟩
          case round =>
            clear HO HW hBx hbA
            obtain ⟨t, ht, rfl, rfl, hown, hrow, hBx⟩ := hrel
            have HO := Lib.hid hown; have HW := Lib.hid hrow
            clear hown hrow
            by_cases hltt : t < len
            · have hra := HR.out.later hBx
              obtain ⟨b, off, rfl, hc⟩ := hra.2.2 (by omega)
              obtain ⟨q0, q1⟩ := hc t hltt
              have t1 : (0 : Int) ≤ (t : Int) := by omega
              have t2 : (t : Int) < (len : Int) := by omega
              have hS := tFreeK_succ n ps out x t
              have hways := tHolds_cases n out x (prAt ps t).1 (prAt ps t).2 hxn
              have he : ((prAt ps t).1, (prAt ps t).2) = prAt ps t := rfl
              rw [he] at hways
              generalize hth : tHolds n out x (prAt ps t) = th at *
              generalize tFreeK n ps out x t = fk at *
              have HS := Lib.hid hS
              clear hra hc hS he hth
              generalize hp1 : (prAt ps t).1 = p1 at *
              generalize hp2 : (prAt ps t).2 = p2 at *
              clear hp1 hp2
              rcases hways with ⟨rfl, g1 | ⟨g1, g2 | ⟨g2, g3 | ⟨g3, g4 | ⟨g4, g5⟩⟩⟩⟩⟩ | ⟨rfl, g1, g2, g3, g4, g5⟩
              all_goals
                go_wp2_with (go_at_call 50; refine (ref_Place33 _ _ _ _ _ _ (HW.out.later (by (repeat (first | (with_reducible exact Below.refl _ _) | (with_reducible assumption) | (with_reducible refine below_alloc ?_ _) | (with_reducible refine below_drew ?_) | (with_reducible refine below_drewN ?_ _) | (with_reducible refine below_step ?_ (by with_reducible assumption))))))).mono ?_; rintro e w' ⟨rfl, hbP⟩)
                go_roundw
                case rel => exact ⟨t + 1, by omega, by go_num, by rw [HS.out]; simp, HO.out.later (by (repeat (first | (with_reducible exact Below.refl _ _) | (with_reducible assumption) | (with_reducible refine below_alloc ?_ _) | (with_reducible refine below_drew ?_) | (with_reducible refine below_drewN ?_ _) | (with_reducible refine below_step ?_ (by with_reducible assumption))))), HW.out.later (by (repeat (first | (with_reducible exact Below.refl _ _) | (with_reducible assumption) | (with_reducible refine below_alloc ?_ _) | (with_reducible refine below_drew ?_) | (with_reducible refine below_drewN ?_ _) | (with_reducible refine below_step ?_ (by with_reducible assumption))))), by (repeat (first | (with_reducible exact Below.refl _ _) | (with_reducible assumption) | (with_reducible refine below_alloc ?_ _) | (with_reducible refine below_drew ?_) | (with_reducible refine below_drewN ?_ _) | (with_reducible refine below_step ?_ (by with_reducible assumption))))⟩
                case measure => simp [intOf]; omega
            · have htl : t = len := by omega
              subst htl
              have hfa : tFreeK n ps out x t = tFree n ps out x := by rw [← HLL.out]; exact tFreeK_all n ps out x
              rw [hfa]
              clear hfa
              cases hfr : tFree n ps out x
              · have HE := Lib.hid (HNX.out.miss hfr)
                clear hfr
                go_wp2_with fail
                go_roundw
                case rel => exact ⟨x, qq, by omega, by go_num, rfl, HE.out, HO.out, HW.out, hBx⟩
                case measure => simp [intOf] <;> omega
              · have HE := Lib.hid (NX.hit hxn hfr)
                clear hfr
                go_wp2_with fail
                go_roundw
                case rel => exact ⟨x, x, by omega, by go_num, rfl, HE.out, HO.out, HW.out, hBx⟩
                case measure => simp [intOf] <;> omega
    · have hjn : j = n := by omega
      subst hjn
      go_wp2_with fail
      go_ret2
      exact Or.inl ⟨out, _, hup, rfl, hown, hBx⟩
theorem ref_Sort_no (n : Int) (a : Option Addr) (len cap : Nat) (w : World) (hn : n < 0 ∨ 64 < n) :
    Calls Try.prog 47 #[.int .i64 n, .slice a len cap] w fun e w' => e = .returned (.tuple #[.slice none 0 0, .bool false]) ∧ Below w.heap.size w w' := by
  rcases hn with hn | hn
  · have d1 : decide (n < 0) = true := decide_eq_true hn
    go_enter Try.func47, Try.ntmps47
    go_wp2_with fail
    go_ret2
    exact ⟨rfl, Below.refl _ _⟩
  · have d1 : decide (n < 0) = false := decide_eq_false (by omega)
    have d2 : decide (64 < n) = true := decide_eq_true hn
    go_enter Try.func47, Try.ntmps47
    go_wp2_with fail
    go_ret2
    exact ⟨rfl, Below.refl _ _⟩
theorem ref_Sort33 (n : Int) (a : Option Addr) (len cap : Nat) (ps : List (Int × Int)) (w : World) (hr : PairRow w a len ps) :
    Calls Try.prog 47 #[.int .i64 n, .slice a len cap] w (SortAny n ps w) := by
  by_cases hn : n < 0 ∨ 64 < n
  · refine (ref_Sort_no n a len cap w hn).mono ?_
    rintro e w' ⟨rfl, hb⟩
    exact SortAny.no hn hb
  · obtain ⟨m, rfl⟩ : ∃ m : Nat, n = m := ⟨n.toNat, by omega⟩
    exact (ref_Sort_in m a len cap ps w (by omega) hr).mono fun e w' h => h.any (by omega)
end Go.Proofs.Ythfcbjfeepindaa
