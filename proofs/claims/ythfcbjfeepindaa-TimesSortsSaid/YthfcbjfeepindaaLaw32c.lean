/- Layer 32: PlacesOrders is true for every input. -/
import Derived.Test.YthfcbjfeepindaaLaw32b
import Derived.Test.YthfcbjfeepindaaHolds
namespace Go.Proofs.Ythfcbjfeepindaa
open Go.RowKit
set_option linter.unusedVariables false
set_option linter.unusedSimpArgs false

/-- What First answers. -/
def FirstPost (bs : List Bool) (xss : List (List Int)) (w : World) (e : Ending) (w' : World) : Prop := ∃ i : Int, e = .returned (.int .i64 i) ∧ (i < 0 ↔ ∀ c ∈ xss, holdsC bs c = true) ∧ Below w.heap.size w w'

set_option maxHeartbeats 1000000 in
theorem ref_First (v : Int) (ca : Option Addr) (cl cc : Nat) (xss : List (List Int)) (ma : Option Addr) (ml mc : Nat) (bs : List Bool) (w : World) (hc : Rows2 w ca cl xss) (hm : BoolRow w ma ml bs) :
    Calls Try.prog 42 #[.agg #[.int .i64 v, .slice ca cl cc], .slice ma ml mc] w (FirstPost bs xss w) := by
  have m1 := hc.2.1; unfold maxLen at m1
  have hb1 : Below w.heap.size w (w.alloc (.cells #[.int .i64 v, .slice ca cl cc] 61)) := by (repeat (first | (with_reducible exact Below.refl _ _) | (with_reducible assumption) | (with_reducible refine below_alloc ?_ _) | (with_reducible refine below_drew ?_) | (with_reducible refine below_drewN ?_ _) | (with_reducible refine below_step ?_ (by with_reducible assumption))))
  have c1 : (w.alloc (.cells #[.int .i64 v, .slice ca cl cc] 61)).cell? ⟨w.heap.size, 1, none⟩ = some (.slice ca cl cc) := by simp
  have HC := Lib.hid (hc.later hb1); have HM := Lib.hid (hm.later hb1)
  have HCL := Lib.hid hc.1
  generalize hw1 : w.alloc (.cells #[.int .i64 v, .slice ca cl cc] 61) = W1 at *
  have HW1 := Lib.hid hw1
  clear hc hm hw1
  go_enter Try.func42, Try.ntmps42
  go_wp2_with fail
  rw [HW1.out]
  go_loopw [5] (fun i wr => ∃ k : Nat, k ≤ cl ∧ i = .int .i64 k ∧ (∀ j, j < k → holdsC bs (xss.getD j []) = true) ∧ W1 = wr) (fun i _ => cl - (intOf i).toNat)
  case atStart => exact ⟨0, Nat.zero_le _, rfl, fun j hj => by omega, rfl⟩
  case round =>
    obtain ⟨k, hk, rfl, hall, rfl⟩ := hrel
    have HALL := Lib.hid hall; clear hall
    by_cases hlt : k < cl
    · obtain ⟨b, off, u, rfl, hck, a2, l2, cap2, rfl, _, _, hrow⟩ := HC.out.2.2 k hlt
      cases hh : holdsC bs (xss.getD k [])
      · have HH := Lib.hid hh; clear hh
        go_wp2_with (go_at_call 83; refine (ref_Holds _ _ _ _ _ _ _ _ _ hrow HM.out).mono ?_; rintro e w' ⟨rfl, rfl⟩; rw [HH.out])
        go_ret
        refine ⟨k, rfl, ⟨fun h => by omega, fun h => ?_⟩, hb1⟩
        have := h (xss.getD k []) (by rw [List.getD_eq_getElem?_getD, List.getElem?_eq_getElem (by rw [HCL.out]; exact hlt)]; simp)
        rw [HH.out] at this; cases this
      · have hall' : ∀ j, j < k + 1 → holdsC bs (xss.getD j []) = true := by
          intro j hj
          rcases Nat.lt_or_ge j k with h | h
          · exact HALL.out j h
          · obtain rfl : j = k := by omega
            exact hh
        have HALL' := Lib.hid hall'; clear hall'
        have HH := Lib.hid hh; clear hh
        go_wp2_with (go_at_call 83; refine (ref_Holds _ _ _ _ _ _ _ _ _ hrow HM.out).mono ?_; rintro e w' ⟨rfl, rfl⟩; rw [HH.out])
        go_roundw
        case rel => exact ⟨k + 1, by omega, by go_num, HALL'.out, by trivial⟩
        case measure => simp [intOf]; omega
    · have hkc : k = cl := by omega
      have HKC := Lib.hid hkc; clear hkc
      go_wp2_with fail
      go_ret
      refine ⟨-1, rfl, ⟨fun _ c hc => ?_, fun _ => by omega⟩, hb1⟩
      obtain ⟨j, hj, e⟩ := List.mem_iff_getElem.1 hc
      have := HALL.out j (by rw [HKC.out, ← HCL.out]; exact hj)
      rwa [show xss.getD j [] = c by simp [List.getD, hj, e]] at this

/-! ### The clauses of places hold just if the truths say an order -/
theorem wneg_in {x : Int} (h1 : 0 ≤ x) (h2 : x ≤ 100000) : wneg x = -x := by unfold wneg; exact IntWalk.wrap64_in _ ⟨by omega, by omega⟩
theorem litT_pos {bs : List Bool} {q : Nat} (hq : q < bs.length) (h : q < 100000) : litT bs ((q : Int) + 1) = bs.getD q false := by
  have e : lvar ((q : Int) + 1) = (q : Int) + 1 := by unfold lvar; rw [if_pos (by omega)]
  have es : lside ((q : Int) + 1) = true := by unfold lside; rw [e]; simp; omega
  unfold litT
  rw [e, es, show ((q : Int) + 1).toNat - 1 = q by omega]
  have h1 : decide ((q : Int) + 1 ≠ 0) = true := by simp; omega
  have h2 : decide ((q : Int) + 1 ≤ (bs.length : Int)) = true := by simp; omega
  rw [h1, h2]; simp
theorem litT_neg {bs : List Bool} {q : Nat} (hq : q < bs.length) (h : q < 100000) : litT bs (-((q : Int) + 1)) = !bs.getD q false := by
  have e : lvar (-((q : Int) + 1)) = (q : Int) + 1 := by unfold lvar; rw [if_neg (by omega), if_pos (by omega)]; omega
  have es : lside (-((q : Int) + 1)) = false := by unfold lside; rw [e]; simp; omega
  unfold litT
  rw [e, es, show ((q : Int) + 1).toNat - 1 = q by omega]
  have h1 : decide ((q : Int) + 1 ≠ 0) = true := by simp; omega
  have h2 : decide ((q : Int) + 1 ≤ (bs.length : Int)) = true := by simp; omega
  rw [h1, h2]; simp
/-- All of 'no two of xs' hold just if no two are true. -/
theorem most_holds (bs : List Bool) (n : Nat) (xs : List Int) (f : Nat → Nat) (hl : xs.length = n) (hx : ∀ i, i < n → xs.getD i 0 = (f i : Int) + 1 ∧ f i < bs.length ∧ f i < 100000 - 1) :
    (∀ c ∈ most wneg xs, holdsC bs c = true) ↔ ∀ i j, i < j → j < n → ¬ (bs.getD (f i) false = true ∧ bs.getD (f j) false = true) := by
  have hm : ∀ c, c ∈ most wneg xs ↔ ∃ i j, i < j ∧ j < n ∧ c = [wneg (xs.getD i 0), wneg (xs.getD j 0)] := by
    intro c
    unfold most mostUp
    rw [List.mem_flatMap]
    constructor
    · rintro ⟨i, hi, hc⟩
      unfold mostRow at hc
      obtain ⟨y, hy, e⟩ := List.mem_map.1 hc
      obtain ⟨k, hk, e2⟩ := List.mem_iff_getElem.1 hy
      rw [List.length_drop] at hk
      refine ⟨i, i + 1 + k, by omega, by omega, ?_⟩
      rw [← e, ← e2]
      simp [List.getD, show i + 1 + k < xs.length by omega]
    · rintro ⟨i, j, hij, hj, e⟩
      refine ⟨i, List.mem_range.2 (by omega), ?_⟩
      unfold mostRow
      refine List.mem_map.2 ⟨xs.getD j 0, ?_, e.symm⟩
      refine List.mem_iff_getElem.2 ⟨j - (i + 1), by rw [List.length_drop]; omega, ?_⟩
      simp [List.getD, show j < xs.length by omega, show i + 1 + (j - (i + 1)) = j by omega]
  have hc : ∀ i j, i < n → j < n → holdsC bs [wneg (xs.getD i 0), wneg (xs.getD j 0)] = (!bs.getD (f i) false || !bs.getD (f j) false) := by
    intro i j hi hj
    obtain ⟨e1, b1, c1⟩ := hx i hi
    obtain ⟨e2, b2, c2⟩ := hx j hj
    unfold holdsC
    rw [e1, e2, wneg_in (by omega) (by omega), wneg_in (by omega) (by omega)]
    simp only [List.any_cons, List.any_nil, Bool.or_false]
    rw [litT_neg b1 (by omega), litT_neg b2 (by omega)]
  constructor
  · intro h i j hij hj hb
    have := h _ ((hm _).2 ⟨i, j, hij, hj, rfl⟩)
    rw [hc i j (by omega) hj, hb.1, hb.2] at this
    cases this
  · intro h c hcm
    obtain ⟨i, j, hij, hj, rfl⟩ := (hm c).1 hcm
    rw [hc i j (by omega) hj]
    have := h i j hij hj
    cases h1 : bs.getD (f i) false <;> cases h2 : bs.getD (f j) false <;> simp_all

theorem plaC_holds {n : Nat} {s : Int} (hok : nOk n s) {bs : List Bool} (hb : (bs.length : Int) = nVars n s) : (∀ c ∈ plaC s n, holdsC bs c = true) ↔ ∃ l, Ord n (Mx n bs) l := by
  have hsq := vars_sq hok
  have hlen : n * n ≤ bs.length := by omega
  have hn : n ≤ 64 := by have := hok.2.1; omega
  have hnn : n * n ≤ 4096 := by have := Nat.mul_le_mul hn hn; omega
  have hrow : ∀ q, q < n → (∀ i, i < n → (rowOf n s n q).getD i 0 = ((q * n + i : Nat) : Int) + 1 ∧ q * n + i < bs.length ∧ q * n + i < 100000 - 1) := fun q hq i hi => ⟨rowOf_at hok hq hi, by have := at_lt hq hi; omega, by have := at_lt hq hi; omega⟩
  have hcol : ∀ q, q < n → (∀ i, i < n → (colOf n s n q).getD i 0 = ((i * n + q : Nat) : Int) + 1 ∧ i * n + q < bs.length ∧ i * n + q < 100000 - 1) := fun q hq i hi => ⟨colOf_at hok hi hq, by have := at_lt hi hq; omega, by have := at_lt hi hq; omega⟩
  have hR : ∀ q, q < n → (holdsC bs (rowOf n s n q) = true ↔ ∃ i, i < n ∧ Mx n bs q i = true) := by
    intro q hq
    unfold holdsC
    rw [List.any_eq_true]
    constructor
    · rintro ⟨x, hx, ht⟩
      obtain ⟨i, hi, e⟩ := List.mem_iff_getElem.1 hx
      rw [rowOf_length] at hi
      obtain ⟨e1, b1, c1⟩ := hrow q hq i hi
      have e2 : (rowOf n s n q).getD i 0 = x := by simp [List.getD, rowOf_length, hi, e]
      rw [← e2, e1, litT_pos b1 (by omega)] at ht
      exact ⟨i, hi, ht⟩
    · rintro ⟨i, hi, hM⟩
      obtain ⟨e1, b1, c1⟩ := hrow q hq i hi
      refine ⟨(rowOf n s n q).getD i 0, ?_, ?_⟩
      · rw [List.getD_eq_getElem?_getD, List.getElem?_eq_getElem (by rw [rowOf_length]; exact hi)]; simp
      · rw [e1, litT_pos b1 (by omega)]; exact hM
  have hA : (∀ c ∈ plaC s n, holdsC bs c = true) ↔ (∀ q, q < n → (∃ i, i < n ∧ Mx n bs q i = true) ∧ (∀ i j, i < j → j < n → ¬ (Mx n bs q i = true ∧ Mx n bs q j = true))) ∧ (∀ q, q < n → ∀ i j, i < j → j < n → ¬ (Mx n bs i q = true ∧ Mx n bs j q = true)) := by
    unfold plaC plaUp1 plaUp2
    constructor
    · intro h
      refine ⟨fun q hq => ⟨(hR q hq).1 (h _ ?_), ?_⟩, fun q hq => ?_⟩
      · exact List.mem_append_left _ (List.mem_flatMap.2 ⟨q, List.mem_range.2 hq, by simp⟩)
      · exact (most_holds bs n _ (fun i => q * n + i) (rowOf_length _ _ _ _) (hrow q hq)).1 (fun c hc => h c (List.mem_append_left _ (List.mem_flatMap.2 ⟨q, List.mem_range.2 hq, by simp [hc]⟩)))
      · exact (most_holds bs n _ (fun i => i * n + q) (colOf_length _ _ _ _) (hcol q hq)).1 (fun c hc => h c (List.mem_append_right _ (List.mem_flatMap.2 ⟨q, List.mem_range.2 hq, hc⟩)))
    · rintro ⟨h1, h2⟩ c hc
      rcases List.mem_append.1 hc with hc | hc
      · obtain ⟨q, hq, hc⟩ := List.mem_flatMap.1 hc
        have hq := List.mem_range.1 hq
        rcases List.mem_cons.1 hc with rfl | hc
        · exact (hR q hq).2 (h1 q hq).1
        · exact (most_holds bs n _ (fun i => q * n + i) (rowOf_length _ _ _ _) (hrow q hq)).2 (h1 q hq).2 c hc
      · obtain ⟨q, hq, hc⟩ := List.mem_flatMap.1 hc
        have hq := List.mem_range.1 hq
        exact (most_holds bs n _ (fun i => i * n + q) (colOf_length _ _ _ _) (hcol q hq)).2 (h2 q hq) c hc
  rw [hA]
  constructor
  · rintro ⟨h1, h2⟩
    have hp : ∃ p : Nat → Nat, RowsAt n (Mx n bs) n p := by
      classical
      refine ⟨fun q => if hq : q < n then Classical.choose (h1 q hq).1 else 0, fun a ha => ?_, fun a b ha hb e => ?_⟩
      · simp only [dif_pos ha]
        have hs := Classical.choose_spec (h1 a ha).1
        refine ⟨hs.1, fun i hi => ⟨fun hM => ?_, fun e => by rw [e]; exact hs.2⟩⟩
        rcases Nat.lt_trichotomy i (Classical.choose (h1 a ha).1) with h | h | h
        · exact absurd ⟨hM, hs.2⟩ ((h1 a ha).2 _ _ h hs.1)
        · exact h
        · exact absurd ⟨hs.2, hM⟩ ((h1 a ha).2 _ _ h hi)
      · simp only [dif_pos ha, dif_pos hb] at e
        have sa := Classical.choose_spec (h1 a ha).1
        have sb := Classical.choose_spec (h1 b hb).1
        rcases Nat.lt_trichotomy a b with h | h | h
        · exact absurd ⟨sa.2, by rw [e]; exact sb.2⟩ (h2 _ sa.1 a b h hb)
        · exact h
        · exact absurd ⟨by rw [e]; exact sb.2, sa.2⟩ (h2 _ sa.1 b a h ha)
    obtain ⟨p, hp⟩ := hp
    have hs := php n p (fun i hi => (hp.1 i hi).1) hp.2
    have hg : ∃ g : Nat → Nat, ∀ k, k < n → g k < n ∧ p (g k) = k := by
      classical
      refine ⟨fun k => if hk : k < n then Classical.choose (hs k hk) else 0, fun k hk => ?_⟩
      simp only [dif_pos hk]; exact Classical.choose_spec (hs k hk)
    obtain ⟨g, hg⟩ := hg
    refine ⟨(List.range n).map fun k => (g k : Int), hp.ord (by simp) fun a ha => ?_⟩
    have hpa := (hp.1 a ha).1
    have := hg (p a) hpa
    have e := hp.2 _ _ this.1 ha this.2
    simp [List.getD, hpa, e]
  · rintro ⟨l, hl⟩
    refine ⟨fun q hq => ?_, fun q hq i j hij hj => ?_⟩
    · obtain ⟨k, hk, _, hm⟩ := hl.row hq
      refine ⟨⟨k, hk, (hm k hk).2 rfl⟩, fun i j hij hj hb => ?_⟩
      have := (hm i (by omega)).1 hb.1; have := (hm j hj).1 hb.2; omega
    · rintro ⟨b1, b2⟩
      obtain ⟨a, ha, _, hm⟩ := hl.2.1 q hq
      have := (hm i (by omega)).1 b1; have := (hm j hj).1 b2; omega
end Go.Proofs.Ythfcbjfeepindaa
