/- The contract of times.Sort. -/
import Derived.Test.YthfcbjfeepindaaTimT
import Derived.Test.YthfcbjfeepindaaApp
import Derived.Test.YthfcbjfeepindaaBlk
import Derived.Laws.BitsAllLaws
import Derived.Laws.BitsLemmas
import Derived.StillTailTactics
import Derived.BigRegion
namespace Go.Proofs.Ythfcbjfeepindaa
open Go.RowKit
set_option linter.unusedVariables false
set_option linter.unusedSimpArgs false

/-- Numbers of 64 bits in a block of their own. -/
def uCells (n : Nat) (f : Nat → Nat) : Array Value := ((List.range n).map fun x => Value.int .u64 (f x : Int)).toArray
theorem uCells_get {n x : Nat} (f : Nat → Nat) (h : x < n) : (uCells n f)[x]? = some (.int .u64 (f x : Int)) := by simp [uCells, h]
theorem uCells_size (n : Nat) (f : Nat → Nat) : (uCells n f).size = n := by simp [uCells]
theorem uCells_set (n : Nat) (f : Nat → Nat) (q y : Nat) : (uCells n f).setIfInBounds q (.int .u64 (y : Int)) = uCells n (fun x => if x = q then y else f x) := by
  apply Array.ext
  · simp [uCells]
  · intro i h1 h2
    simp only [uCells, Array.size_setIfInBounds, List.size_toArray, List.length_map, List.length_range] at h1
    rw [Array.getElem_setIfInBounds (by simpa [uCells] using h1)]
    by_cases e : q = i
    · subst e; simp [uCells]
    · rw [if_neg e]; simp [uCells]; rw [if_neg (fun h => e h.symm)]
theorem bit_and_one (D i : Nat) (hD : D < 18446744073709551616) (hi : i < 64) : (bits .and .u64 ((D : Int) / 2 ^ i) 1 == 0) = !D.testBit i := by
  have e2 : ((D : Int) / 2 ^ i) = ((D / 2 ^ i : Nat) : Int) := by push_cast; rfl
  have hlt : D / 2 ^ i < 18446744073709551616 := Nat.lt_of_le_of_lt (Nat.div_le_self _ _) hD
  rw [e2, show (1 : Int) = ((1 : Nat) : Int) from rfl, u64_and_nat _ _ hlt (by decide), Nat.and_one_is_mod, Nat.testBit_eq_decide_div_mod_eq]
  rcases Nat.mod_two_eq_zero_or_one (D / 2 ^ i) with h | h <;> rw [h] <;> rfl

set_option maxRecDepth 100000 in
theorem tim_may (b9 b6 bh n i : Nat) (D : Nat) (f : Nat → Nat) (w : World) (hn : n ≤ 64) (hi : i < n) (hD : D < 18446744073709551616) (hf : f i < 18446744073709551616)
    (h9 : Blk w b9 #[.int .u64 (D : Int)] 106) (h6 : Blk w b6 #[.slice (some ⟨bh, 0, none⟩) n n] 104) (hh : Blk w bh (uCells n f) 106) :
    Calls Try.prog 85 #[.int .i64 i, .pointer (some ⟨b9, 0, none⟩), .pointer (some ⟨b6, 0, none⟩)] w fun e w' => e = .returned (.bool (!D.testBit i && decide (f i &&& (18446744073709551615 - D) = 0))) ∧ Below w.heap.size w w' := by
  have q9 := h9.cell 0; have q6 := h6.cell 0; have qh := hh.cell i
  rw [uCells_get f hi] at qh
  simp at q9 q6
  have t1 : (0 : Int) ≤ (i : Int) := by omega
  have t2 : (i : Int) < (n : Int) := by omega
  have hb := bit_and_one D i hD (by omega)
  have ha := u64_andNot_nat (f i) D hf hD
  have hz : (((f i &&& (18446744073709551615 - D) : Nat) : Int) == 0) = decide (f i &&& (18446744073709551615 - D) = 0) := by rw [Bool.eq_iff_iff]; simp
  rw [← ha] at hz
  generalize D.testBit i = tb at *
  generalize decide (f i &&& (18446744073709551615 - D) = 0) = tz at *
  clear h9 h6 hh ha
  cases tb
  all_goals
    cases tz
    all_goals
      simp only [Bool.not_false, Bool.not_true] at hb
      go_enter Try.func85, Try.ntmps85
      go_wp2_with fail
      go_quiet (fail)
      go_wp2_with fail
      go_ret
      exact ⟨rfl, by (repeat (first | (with_reducible exact Below.refl _ _) | (with_reducible assumption) | (with_reducible refine below_alloc ?_ _) | (with_reducible refine below_drew ?_) | (with_reducible refine below_drewN ?_ _) | (with_reducible refine below_step ?_ (by with_reducible assumption))))⟩
theorem info_u64 : (Try.prog.info? 106).map (fun i => (i.zero, i.size, i.bytes)) = some (some (.int .u64 0), 1, 8) := by kernel_rfl
theorem madeU64 (n : Nat) : madeCells #[Value.int .u64 0] n = uCells n (fun _ => 0) := by
  apply Array.ext_getElem?; intro i
  by_cases hi : i < n <;> simp [madeCells, uCells, hi, Nat.mod_one]
def SortPost (n : Nat) (ps : List (Int × Int)) (w : World) (e : Ending) (w' : World) : Prop :=
  (∃ out v, tSortUp n ps n = some out ∧ e = .returned (.tuple #[v, .bool true]) ∧ OwnInts w' w.heap.size v (outI out) ∧ Below w.heap.size w w') ∨ (tSortUp n ps n = none ∧ e = .returned (.tuple #[.slice none 0 0, .bool false]) ∧ Below w.heap.size w w')

theorem or_pow (t x : Nat) (ht : t < 18446744073709551616) (hx : x < 64) : bits .or .u64 (t : Int) (IntKind.u64.wrap (2 ^ x)) = ((t ||| 2 ^ x : Nat) : Int) := by
  have h1 : 2 ^ x < 18446744073709551616 := (show 2 ^ x < 2 ^ 64 from Nat.pow_lt_pow_right (by decide) hx)
  have e1 : ((2 : Int) ^ x) = ((2 ^ x : Nat) : Int) := by push_cast; rfl
  have e2 : IntKind.u64.wrap ((2 ^ x : Nat) : Int) = ((2 ^ x : Nat) : Int) := by
    generalize 2 ^ x = y at *
    simp [IntKind.wrap, IntKind.bits, IntKind.signed]
    omega
  rw [e1, e2]
  generalize 2 ^ x = y at *
  rw [u64_or _ _ (by omega) (by omega) (by omega) (by omega), Int.toNat_natCast, Int.toNat_natCast]
theorem set_one (x u : Value) : (#[x].setIfInBounds 0 u) = #[u] := rfl
theorem own_setOther {w : World} {B : Nat} {e t : TypeId} {k n : Nat} {v : Value} {xs : List Value} {b : Nat} {vs : Array Value} (h : w.ownsRow B e k v n xs) (hb : Blk w b vs t) (ht : t ≠ e) (i : Nat) (u : Value) : (w.setCell ⟨b, i, none⟩ u).ownsRow B e k v n xs := by
  obtain ⟨h1, h2⟩ := h
  refine ⟨h1, ?_⟩
  rcases h2 with h2 | ⟨g, cap, cur, hv, hg, hh, r⟩
  · exact Or.inl h2
  · refine Or.inr ⟨g, cap, cur, hv, hg, ?_, r⟩
    refine (Below.heap_setCell w ⟨b, i, none⟩ u g (fun e' => ?_)).trans hh
    have e2 : g = b := e'
    subst e2
    have h3 : w.heap[g]? = some (.cells vs t (0, 0)) := hb
    rw [hh] at h3
    simp only [Option.some.injEq, Obj.cells.injEq] at h3
    exact ht h3.2.1.symm
set_option maxRecDepth 100000 in
set_option maxHeartbeats 2000000 in
theorem tim_Sort_in (n : Nat) (a : Option Addr) (len cap : Nat) (ps : List (Int × Int)) (w : World) (hn : n ≤ 64) (hr : PairRow w a len ps) :
    Calls Try.prog 46 #[.int .i64 n, .slice a len cap] w (SortPost n ps w) := by
  have hm := hr.2.1; unfold maxLen at hm
  have HR := Lib.hid hr
  have HLL := Lib.hid hr.1
  clear hr
  have hmk := run_make_row' (P := Try.prog) 104 106 (.int .u64 0) 8 Try.underlying104 info_u64 rfl .i64 .i64 n (by omega) (by omega)
  have d1 : decide ((n : Int) < 0) = false := decide_eq_false (by omega)
  have d2 : decide (64 < (n : Int)) = false := decide_eq_false (by omega)
  have hb2 : Below w.heap.size w ((w.alloc (.cells (madeCells #[.int .u64 0] n) 106)).alloc (.cells #[.slice (some ⟨w.heap.size, 0, none⟩) n n] 104)) := by (repeat (first | (with_reducible exact Below.refl _ _) | (with_reducible assumption) | (with_reducible refine below_alloc ?_ _) | (with_reducible refine below_drew ?_) | (with_reducible refine below_drewN ?_ _) | (with_reducible refine below_step ?_ (by with_reducible assumption))))
  have hh2 : Blk ((w.alloc (.cells (madeCells #[.int .u64 0] n) 106)).alloc (.cells #[.slice (some ⟨w.heap.size, 0, none⟩) n n] 104)) w.heap.size (madeCells #[.int .u64 0] n) 106 := (Blk.made w _ _).later (below_alloc (Below.refl _ _) _)
  have h62 : Blk ((w.alloc (.cells (madeCells #[.int .u64 0] n) 106)).alloc (.cells #[.slice (some ⟨w.heap.size, 0, none⟩) n n] 104)) (w.heap.size + 1) #[.slice (some ⟨w.heap.size, 0, none⟩) n n] 104 := by
    have := Blk.made (w.alloc (.cells (madeCells #[.int .u64 0] n) 106)) #[.slice (some ⟨w.heap.size, 0, none⟩) n n] 104
    simpa using this
  go_enter Try.func46, Try.ntmps46
  go_wp2_with fail
  clear d1 d2 hmk
  generalize ((w.alloc (.cells (madeCells #[.int .u64 0] n) 106)).alloc (.cells #[.slice (some ⟨w.heap.size, 0, none⟩) n n] 104)) = w2 at *
  rw [madeU64] at hh2
  go_loopw [23] (fun i wr => ∃ k : Nat, k ≤ len ∧ i = .int .i64 k ∧ Blk wr w.heap.size (uCells n (fun x => tA n ps x k)) 106 ∧ Blk wr (w.heap.size + 1) #[.slice (some ⟨w.heap.size, 0, none⟩) n n] 104 ∧ Below w.heap.size w wr) (fun i _ => len - (intOf i).toNat)
  case atStart => exact ⟨0, Nat.zero_le _, rfl, hh2, h62, hb2⟩
  case round =>
    obtain ⟨k, hk, rfl, hh, h6, hbr⟩ := hrel
    have t1 : (0 : Int) ≤ (k : Int) := by omega
    by_cases hlt : k < len
    · have hra := HR.out.later hbr
      obtain ⟨b, off, rfl, hc⟩ := hra.2.2 (by omega)
      obtain ⟨q0, q1⟩ := hc k hlt
      have t2 : (k : Int) < (len : Int) := by omega
      have HH := Lib.hid hh; have H6 := Lib.hid h6
      clear hc hra hh h6
      have HA : Hid (∀ x, tA n ps x (k + 1) = if tCounts n (prAt ps k).1 (prAt ps k).2 ∧ (prAt ps k).2 = (x : Int) then tA n ps x k ||| 2 ^ (prAt ps k).1.toNat else tA n ps x k) := Lib.hid (fun x => rfl)
      have hlA := fun x => tA_lt n ps x k
      have HLA := Lib.hid hlA
      clear hlA
      generalize hp1 : (prAt ps k).1 = p1 at *
      generalize hp2 : (prAt ps k).2 = p2 at *
      clear hp1 hp2
      have hb8 := Blk.made wr #[.int .i64 p1, .int .i64 p2] 70
      have hbw8 : Below wr.heap.size wr (wr.alloc (.cells #[.int .i64 p1, .int .i64 p2] 70)) := by (repeat (first | (with_reducible exact Below.refl _ _) | (with_reducible assumption) | (with_reducible refine below_alloc ?_ _) | (with_reducible refine below_drew ?_) | (with_reducible refine below_drewN ?_ _) | (with_reducible refine below_step ?_ (by with_reducible assumption))))
      go_wp2_with fail
      refine (tim_counts _ _ _ _).mono ?_
      rintro e w3 ⟨rfl, hb3⟩
      have hb83 := hb8.later hb3
      have hbw3 : Below wr.heap.size wr w3 := below_step hbw8 hb3
      have hh3 := HH.out.later hbw3
      have h63 := H6.out.later hbw3
      have hB3 : Below w.heap.size w w3 := below_step hbr hbw3
      clear hb8 hbw8 hb3 q0 q1
      cases hc : tCounts n p1 p2
      · have HC := Lib.hid hc
        clear hc
        have HN : Hid ((fun x => tA n ps x (k + 1)) = fun x => tA n ps x k) := Lib.hid (by
          funext x; rw [HA.out, if_neg (by rw [HC.out]; simp)])
        go_wp2_with fail
        go_roundw
        case rel => exact ⟨k + 1, by omega, by go_num, by rw [HN.out]; exact hh3, h63, hB3⟩
        case measure => simp [intOf]; omega
      · have hx : (0 ≤ p1 ∧ p1 < n) ∧ (0 ≤ p2 ∧ p2 < n) := by unfold tCounts at hc; simp at hc; omega
        have HC := Lib.hid hc
        clear hc
        obtain ⟨x1, rfl⟩ : ∃ x1 : Nat, p1 = x1 := ⟨p1.toNat, by omega⟩
        obtain ⟨x2, rfl⟩ : ∃ x2 : Nat, p2 = x2 := ⟨p2.toNat, by omega⟩
        have b1 : x1 < n := by omega
        have b2 : x2 < n := by omega
        have qa := hb83.cell 0; have qb := hb83.cell 1
        simp at qa qb
        have q6 := h63.cell 0
        simp at q6
        have qh := hh3.cell x2
        rw [uCells_get _ b2] at qh
        have fh := hh3.free x2
        have t3 : (0 : Int) ≤ (x2 : Int) := by omega
        have t4 : (x2 : Int) < (n : Int) := by omega
        have t5 : (0 : Int) ≤ (x1 : Int) := by omega
        generalize hT : tA n ps x2 k = tx at *
        have HT := Lib.hid hT
        clear hT hx
        go_wp2_with fail
        go_still_tail 9, (by kernel_rfl)
        go_wp2_with fail
        go_roundw
        case rel =>
          rw [or_pow _ _ (by rw [← HT.out]; exact Nat.lt_of_lt_of_le (HLA.out x2) (Nat.pow_le_pow_right (by decide) hn)) (by omega)]
          refine ⟨k + 1, by omega, by go_num, ?_, (h63.other (a := ⟨w.heap.size, x2, none⟩) (by show w.heap.size ≠ _; omega) _).drew, (below_set hB3 (Nat.le_refl _) _ _).drew⟩
          have := (hh3.set x2 (.int .u64 ((tx ||| 2 ^ x1 : Nat) : Int))).drew
          rw [uCells_set] at this
          rwa [show (fun x => tA n ps x (k + 1)) = fun x => if x = x2 then tx ||| 2 ^ x1 else tA n ps x k from (by
            funext x
            rw [HA.out]
            by_cases e : x = x2
            · subst e; rw [if_pos ⟨HC.out, rfl⟩, if_pos rfl, HT.out]; rfl
            · rw [if_neg (fun h => e (by have := h.2; omega)), if_neg e])]
        case measure => simp [intOf]; omega
    · have hkn : k = len := by omega
      subst hkn
      obtain ⟨f, hf⟩ : ∃ f : Nat → Nat, f = fun x => tA n ps x k := ⟨_, rfl⟩
      rw [← hf] at hh
      have HF : Hid (∀ out x, (∀ y ∈ out, y < n) → tFree n ps out x = (!(sBits out).testBit x && decide (f x &&& (18446744073709551615 - sBits out) = 0))) := Lib.hid (fun out x ho => by rw [hf]; exact tFree_code n k ps out x HLL.out.symm hn ho)
      have HLA : Hid (∀ x, f x < 18446744073709551616) := Lib.hid (fun x => by rw [hf]; exact Nat.lt_of_lt_of_le (tA_lt n ps x k) (Nat.pow_le_pow_right (n := 2) (by decide) hn))
      have h9 := Blk.made wr #[.int .u64 0] 106
      have hb9 : Below wr.heap.size wr (wr.alloc (.cells #[.int .u64 0] 106)) := by (repeat (first | (with_reducible exact Below.refl _ _) | (with_reducible assumption) | (with_reducible refine below_alloc ?_ _) | (with_reducible refine below_drew ?_) | (with_reducible refine below_drewN ?_ _) | (with_reducible refine below_step ?_ (by with_reducible assumption))))
      have hhz := hh.lt
      have h6z := h6.lt
      have hh9 := hh.later hb9
      have h69 := h6.later hb9
      have hB9 : Below w.heap.size w (wr.alloc (.cells #[.int .u64 0] 106)) := below_step hbr hb9
      clear hf hh h6 hb9 hh2 h62 hb2 HR hk hlt
      go_wp2_with fail
      generalize hW9 : wr.alloc (.cells #[.int .u64 0] 106) = w9 at *
      generalize hb9e : wr.heap.size = b9 at *
      clear hW9 hb9e hbr
      go_loopw [11, 12, 43] (fun v _ i wx => ∃ (j : Nat) (out : List Nat), j ≤ n ∧ i = .int .i64 j ∧ tSortUp n ps j = some out ∧ OwnInts wx w.heap.size v (outI out) ∧ Blk wx b9 #[.int .u64 (sBits out : Int)] 106 ∧ Blk wx w.heap.size (uCells n f) 106 ∧ Blk wx (w.heap.size + 1) #[.slice (some ⟨w.heap.size, 0, none⟩) n n] 104 ∧ Below w.heap.size w wx) (fun _ _ i _ => n - (intOf i).toNat)
      case atStart => exact ⟨0, [], Nat.zero_le _, rfl, rfl, OwnInts.nil _ _, h9, hh9, h69, hB9⟩
      case round =>
        obtain ⟨j, out, hj, rfl, hup, hown, h9x, hhx, h6x, hBx⟩ := hrel
        clear h9 hh9 h69 hB9
        by_cases hltj : j < n
        · obtain ⟨ho1, ho2, ho3⟩ := tSortUp_len hup
          have HUP := Lib.hid hup; have HO2 := Lib.hid ho2
          have HO := Lib.hid hown; have H9 := Lib.hid h9x; have HH := Lib.hid hhx; have H6 := Lib.hid h6x
          clear hup ho2 ho3 hown h9x hhx h6x
          go_wp2_with fail
          go_loopw [12] (fun l wy => ∃ y : Nat, y ≤ n ∧ l = .int .i64 y ∧ (∀ z, z < y → tFree n ps out z = false) ∧ OwnInts wy w.heap.size u11 (outI out) ∧ Blk wy b9 #[.int .u64 (sBits out : Int)] 106 ∧ Blk wy w.heap.size (uCells n f) 106 ∧ Blk wy (w.heap.size + 1) #[.slice (some ⟨w.heap.size, 0, none⟩) n n] 104 ∧ Below w.heap.size w wy) (fun l _ => n - (intOf l).toNat)
          case atStart => exact ⟨0, Nat.zero_le _, rfl, (fun z hz => by omega), HO.out, H9.out, HH.out, H6.out, hBx⟩
          case round =>
            clear HO H9 HH H6 hBx
            obtain ⟨y, hy, rfl, hno, hown, h9x, hhx, h6x, hBx⟩ := hrel
            have HNO := Lib.hid hno
            have HO := Lib.hid hown; have H9 := Lib.hid h9x; have HH := Lib.hid hhx; have H6 := Lib.hid h6x
            clear hno hown h9x hhx h6x
            by_cases hlty : y < n
            · have e1 := HF.out out y HO2.out
              have hmay := tim_may b9 (w.heap.size + 1) w.heap.size n y (sBits out) f wr hn hlty (Nat.lt_of_lt_of_le (sBits_lt out n HO2.out) (Nat.pow_le_pow_right (n := 2) (by decide) hn)) (HLA.out y) H9.out H6.out HH.out
              rw [← e1] at hmay
              clear e1
              cases hfr : tFree n ps out y
              · rw [hfr] at hmay
                have HE := Lib.hid hfr
                have HM := Lib.hid hmay
                clear hfr hmay
                go_wp2_with (refine HM.out.mono ?_; rintro e w' ⟨rfl, hbm⟩)
                go_roundw
                case rel =>
                  exact ⟨y + 1, by omega, by go_num, (fun z hz => by
                    rcases Nat.lt_or_ge z y with h | h
                    · exact HNO.out z h
                    · rw [show z = y by omega]; exact HE.out), HO.out.later hbm, H9.out.later hbm, HH.out.later hbm, H6.out.later hbm, below_step hBx hbm⟩
                case measure => simp [intOf]; omega
              · rw [hfr] at hmay
                have hl := tLeast_eq hlty HNO.out hfr
                have hst := tSortUp_step HUP.out
                rw [hl, if_neg (by omega)] at hst
                have HST := Lib.hid hst
                have HM := Lib.hid hmay
                clear hfr hmay hst hl
                have d5 : (y == n) = false := by simp; omega
                have d6 : ((y : Int) == (n : Int)) = false := by simp; omega
                go_wp2_with (refine HM.out.mono ?_; rintro e w5 ⟨rfl, hbm⟩)
                have hd64 : sBits out < 18446744073709551616 := Nat.lt_of_lt_of_le (sBits_lt out n HO2.out) (Nat.pow_le_pow_right (n := 2) (by decide) hn)
                have HOP := Lib.hid (or_pow (sBits out) y hd64 (by omega))
                have HSP := Lib.hid (sBits_push out y)
                have HOI := Lib.hid (outI_push out y)
                have HOL : Hid ((outI out).length = j) := Lib.hid (by rw [outI_len]; exact ho1)
                have hbd : Below w5.heap.size w5 w5.drew := (Below.refl _ _).drew
                have h96 := (H9.out.later hbm).later hbd
                have hh6 := (HH.out.later hbm).later hbd
                have h66 := (H6.out.later hbm).later hbd
                have ho6 := (HO.out.later hbm).later hbd
                have hB6 := below_step (below_step hBx hbm) hbd
                generalize hX : outI out = X at *
                have HX := Lib.hid hX
                clear hX hd64 d5 d6
                generalize hD : sBits out = D at *
                have HD := Lib.hid hD
                clear hD
                have t6 : (0 : Int) ≤ (y : Int) := by omega
                have q95 := (H9.out.later hbm).cell 0
                simp at q95
                go_still_tail 4, (by kernel_rfl)
                clear q95
                change wpList _ _ _ _ _ w5.drew
                generalize w5.drew = w6 at *
                have q9 := h96.cell 0
                simp at q9
                have f9 := h96.free 0
                unfold OwnInts at ho6
                rw [HOL.out] at ho6
                have ho7 := own_setOther ho6 h96 (by decide) 0 (.int .u64 (bits .or .u64 (D : Int) (IntKind.u64.wrap (2 ^ y))))
                have h97 := h96.set 0 (.int .u64 (bits .or .u64 (D : Int) (IntKind.u64.wrap (2 ^ y))))
                have hh7 := hh6.other (a := ⟨b9, 0, none⟩) (by show b9 ≠ _; omega) (.int .u64 (bits .or .u64 (D : Int) (IntKind.u64.wrap (2 ^ y))))
                have h67 := h66.other (a := ⟨b9, 0, none⟩) (by show b9 ≠ _; omega) (.int .u64 (bits .or .u64 (D : Int) (IntKind.u64.wrap (2 ^ y))))
                have hB7 := below_set hB6 (b := b9) (by omega) 0 (.int .u64 (bits .or .u64 (D : Int) (IntKind.u64.wrap (2 ^ y))))
                have hsz7 := hB7.size
                clear hh6 h66 ho6 hB6 h96 hbm hBx
                go_wp2_with (at_builtin; refine wpList_app rfl _ _ 41 rfl w.heap.size 3 (.int .i64 0) 1 8 Try.underlying41 info_int rfl (by decide) _ _ _ rfl (ho7.alloc _) (some ⟨w6.heap.size, 0, none⟩) 1 1 [.int .i64 (y : Int)] rfl ?c0 rfl ?c1 ?c2 ?c3 ?c4 ?c5 ?_)
                (case c0 => exact fun h => by cases h); (case c1 => (have hcr := CellRow.made (w6.setCell ⟨b9, 0, none⟩ (.int .u64 (bits .or .u64 (D : Int) (IntKind.u64.wrap (2 ^ y))))) [.int .i64 (y : Int)] 3; simpa using hcr)); (case c2 => intro u hu; simp at hu; subst hu; rfl); (case c3 => unfold maxLen; omega); (case c4 => omega); (case c5 => simp at hsz7 ⊢; omega)
                intro v' w1 hown1 hgr
                obtain ⟨hnew, hbw⟩ := OwnInts.push HOL.out hB7 ho7 _ hown1 hgr
                have hgt := GrownT.of_own (ho7.alloc _) hgr
                have h98 := (h97.later (below_alloc (Below.refl _ _) _)).grownT (by decide) hgt
                have hh8 := (hh7.later (below_alloc (Below.refl _ _) _)).grownT (by decide) hgt
                have h68 := (h67.later (below_alloc (Below.refl _ _) _)).grownT (by decide) hgt
                have HN2 := Lib.hid hnew; have H98 := Lib.hid h98; have HH8 := Lib.hid hh8; have H68 := Lib.hid h68
                clear hown1 hgr hnew h98 hh8 h68 h97 hh7 h67 ho7 hgt
                go_wp2_with fail
                go_roundw
                case rel =>
                  refine ⟨j + 1, out ++ [y], by omega, by go_num, HST.out, by rw [HOI.out]; exact HN2.out, ?_, HH8.out, H68.out, hbw⟩
                  have h99 := H98.out
                  rw [set_one, HOP.out, ← HSP.out] at h99
                  exact h99
                case measure => simp [intOf]; omega
            · have hyn : y = n := by omega
              subst hyn
              have hl := tLeast_none HNO.out
              have hst := tSortUp_step HUP.out
              rw [if_pos hl] at hst
              have HST := Lib.hid (tSortUp_none (m := y) hst (by omega))
              clear hl hst
              go_wp2_with fail
              go_ret2
              exact Or.inr ⟨HST.out, rfl, hBx⟩
        · have hjn : j = n := by omega
          subst hjn
          go_wp2_with fail
          go_ret2
          exact Or.inl ⟨out, _, hup, rfl, hown, hBx⟩
theorem tim_Sort_no (n : Int) (a : Option Addr) (len cap : Nat) (w : World) (hn : n < 0 ∨ 64 < n) :
    Calls Try.prog 46 #[.int .i64 n, .slice a len cap] w fun e w' => e = .returned (.tuple #[.slice none 0 0, .bool false]) ∧ Below w.heap.size w w' := by
  rcases hn with hn | hn
  · have d1 : decide (n < 0) = true := decide_eq_true hn
    go_enter Try.func46, Try.ntmps46
    go_wp2_with fail
    go_ret2
    exact ⟨rfl, Below.refl _ _⟩
  · have d1 : decide (n < 0) = false := decide_eq_false (by omega)
    have d2 : decide (64 < n) = true := decide_eq_true hn
    go_enter Try.func46, Try.ntmps46
    go_wp2_with fail
    go_ret2
    exact ⟨rfl, Below.refl _ _⟩
/-- What times.Sort, or its reference, answers. -/
def SortAny (n : Int) (ps : List (Int × Int)) (w : World) (e : Ending) (w' : World) : Prop :=
  ∃ v, e = .returned (.tuple #[v, .bool (tSort n ps).isSome]) ∧ OwnInts w' w.heap.size v (outI ((tSort n ps).getD [])) ∧ Below w.heap.size w w'
theorem SortPost.any {n : Nat} {ps : List (Int × Int)} {w : World} {e : Ending} {w' : World} (hn : n ≤ 64) (h : SortPost n ps w e w') : SortAny n ps w e w' := by
  have e1 : tSort n ps = tSortUp n ps n := by unfold tSort; rw [if_pos (by omega), Int.toNat_natCast]
  unfold SortAny
  rw [e1]
  rcases h with ⟨out, v, h1, rfl, h2, h3⟩ | ⟨h1, rfl, h3⟩
  · rw [h1]; exact ⟨v, rfl, h2, h3⟩
  · rw [h1]; exact ⟨_, rfl, OwnInts.nil _ _, h3⟩
theorem SortAny.no {n : Int} {ps : List (Int × Int)} {w w' : World} (hn : n < 0 ∨ 64 < n) (hb : Below w.heap.size w w') : SortAny n ps w (.returned (.tuple #[.slice none 0 0, .bool false])) w' := by
  have e1 : tSort n ps = none := by unfold tSort; rw [if_neg (by omega)]
  unfold SortAny
  rw [e1]
  exact ⟨_, rfl, OwnInts.nil _ _, hb⟩
theorem tim_Sort (n : Int) (a : Option Addr) (len cap : Nat) (ps : List (Int × Int)) (w : World) (hr : PairRow w a len ps) :
    Calls Try.prog 46 #[.int .i64 n, .slice a len cap] w (SortAny n ps w) := by
  by_cases hn : n < 0 ∨ 64 < n
  · refine (tim_Sort_no n a len cap w hn).mono ?_
    rintro e w' ⟨rfl, hb⟩
    exact SortAny.no hn hb
  · obtain ⟨m, rfl⟩ : ∃ m : Nat, n = m := ⟨n.toNat, by omega⟩
    exact (tim_Sort_in m a len cap ps w (by omega) hr).mono fun e w' h => h.any (by omega)
end Go.Proofs.Ythfcbjfeepindaa
