/- The contract of places.Order. -/
import Derived.Test.YthfcbjfeepindaaPlaT
namespace Go.Proofs.Ythfcbjfeepindaa
open Go.RowKit
set_option linter.unusedVariables false

theorem bblk_cell {w : World} {b : Nat} {xs : List Bool} {t : TypeId} (h : Blk w b (xs.map Value.bool).toArray t) {k : Nat} (hk : k < xs.length) : w.cell? ⟨b, k, none⟩ = some (.bool (xs.getD k false)) := by
  rw [h.cell k]; simp [hk, List.getD]
theorem bblk_set {w : World} {b : Nat} {xs : List Bool} {t : TypeId} (h : Blk w b (xs.map Value.bool).toArray t) (k : Nat) (y : Bool) : Blk (w.setCell ⟨b, k, none⟩ (.bool y)) b ((xs.set k y).map Value.bool).toArray t := by
  have := h.set k (.bool y)
  rwa [show (xs.map Value.bool).toArray.setIfInBounds k (.bool y) = ((xs.set k y).map Value.bool).toArray by simp [List.map_set]] at this
theorem bblk_own {w : World} {b B : Nat} {xs : List Bool} (h : Blk w b (xs.map Value.bool).toArray 4) (hB : B ≤ b) (hm : xs.length ≤ maxLen) : OwnBools w B (.slice (some ⟨b, 0, none⟩) xs.length xs.length) xs :=
  ⟨by simp, Or.inr ⟨b, xs.length, _, rfl, hB, h, Nat.le_refl _, hm, by simp, by simp [List.take_of_length_le]⟩⟩
theorem madeBools (n : Nat) : madeCells #[Value.bool false] n = ((List.replicate n false).map Value.bool).toArray := by
  apply Array.ext_getElem?; intro i
  by_cases hi : i < n <;> simp [madeCells, hi, Nat.mod_one]

/-- The table of truths: does operation a stand at place k? -/
def Mx (n : Nat) (bs : List Bool) (a k : Nat) : Bool := bs.getD (a * n + k) false
theorem nVar_at {n : Nat} {s : Int} (hok : nOk n s) {a k : Nat} (ha : a < n) (hk : k < n) : nVar n s 1 a k = ((a * n + k : Nat) : Int) + 1 := by
  have h : nName n s 1 a k := ⟨hok, by omega, by omega, by omega, by simp [nA]; omega, by omega, by simp [nB]; omega⟩
  unfold nVar; rw [if_pos h]; simp [nAhead, nB]
theorem at_lt {n a k : Nat} (ha : a < n) (hk : k < n) : a * n + k < n * n := by
  have := Nat.mul_le_mul_right n (show a + 1 ≤ n by omega)
  rw [Nat.add_mul, Nat.one_mul] at this; omega
theorem vars_sq {n : Nat} {s : Int} (hok : nOk n s) : n * n ≤ (nVars n s).toNat := by
  unfold nVars; rw [if_pos hok]
  have h2 := nOk_st hok
  have h1 : ((n * n : Nat) : Int) = (n : Int) * n := by simp
  simp only [nAhead]; simp; omega
theorem rowOf_at {n : Nat} {s : Int} (hok : nOk n s) {a k : Nat} (ha : a < n) (hk : k < n) : (rowOf n s n a).getD k 0 = ((a * n + k : Nat) : Int) + 1 := by
  unfold rowOf; simp [List.getD, hk]; have := nVar_at hok ha hk; simpa using this
theorem colOf_at {n : Nat} {s : Int} (hok : nOk n s) {a k : Nat} (ha : a < n) (hk : k < n) : (colOf n s n k).getD a 0 = ((a * n + k : Nat) : Int) + 1 := by
  unfold colOf; simp [List.getD, ha]; have := nVar_at hok ha hk; simpa using this

/-- What places.Order answers. -/
def OrdPost (n : Nat) (bs : List Bool) (w : World) (e : Ending) (w' : World) : Prop :=
  (∃ l v, e = .returned (.tuple #[v, .bool true]) ∧ Ord n (Mx n bs) l ∧ OwnInts w' w.heap.size v l ∧ Below w.heap.size w w') ∨ ((∀ l, ¬ Ord n (Mx n bs) l) ∧ e = .returned (.tuple #[.slice none 0 0, .bool false]) ∧ Below w.heap.size w w')

/-- What its walk knows behind k operations. -/
def OrdAt (n : Nat) (bs : List Bool) (k : Nat) (b1 b2 : Nat) (w : World) : Prop := ∃ (p : Nat → Nat) (O : List Int) (T : List Bool), RowsAt n (Mx n bs) k p ∧ O.length = n ∧ (∀ a, a < k → O.getD (p a) 0 = a) ∧ T.length = n ∧
  (∀ i, i < n → (T.getD i false = true ↔ ∃ a, a < k ∧ p a = i)) ∧ Blk w b1 (O.map (Value.int .i64)).toArray 3 ∧ Blk w b2 (T.map Value.bool).toArray 4

theorem getD_set {α : Type} (l : List α) (i j : Nat) (x d : α) (hi : i < l.length) : (l.set i x).getD j d = if j = i then x else l.getD j d := by
  by_cases h : j = i
  · subst h; simp [List.getD, hi]
  · simp only [List.getD, if_neg h]; rw [List.getElem?_set_ne (by omega)]

theorem OrdAt.start (n : Nat) (bs : List Bool) (w : World) : OrdAt n bs 0 w.heap.size (w.heap.size + 1) ((w.alloc (.cells (madeCells #[.int .i64 0] n) 3)).alloc (.cells (madeCells #[.bool false] n) 4)) := by
  refine ⟨fun _ => 0, List.replicate n 0, List.replicate n false, ⟨fun a ha => by omega, fun a b ha => by omega⟩, by simp, fun a ha => by omega, by simp, fun i hi => ?_, ?_, ?_⟩
  · simp [List.getD, hi]
  · rw [← madeInts]; exact Blk.later (Blk.made _ _ _) (below_alloc (Below.refl _ _) _)
  · rw [← madeBools]; exact Blk.at _ _ _ (by simp)

theorem OrdAt.step {n k b1 b2 q : Nat} {bs : List Bool} {w : World} {p : Nat → Nat} {O : List Int} {T : List Bool} (hne : b1 ≠ b2) (h1 : RowsAt n (Mx n bs) k p) (h2 : O.length = n) (h3 : ∀ a, a < k → O.getD (p a) 0 = a) (h4 : T.length = n)
    (h5 : ∀ i, i < n → (T.getD i false = true ↔ ∃ a, a < k ∧ p a = i)) (h6 : Blk w b1 (O.map (Value.int .i64)).toArray 3) (h7 : Blk w b2 (T.map Value.bool).toArray 4)
    (hq : q < n) (hr : ∀ j, j < n → (Mx n bs k j = true ↔ j = q)) (hT : T.getD q false = false) :
    OrdAt n bs (k + 1) b1 b2 ((w.setCell ⟨b1, q, none⟩ (.int .i64 k)).setCell ⟨b2, q, none⟩ (.bool true)) := by
  have hnew : ∀ a, a < k → p a ≠ q := fun a ha he => by
    have := (h5 q hq).2 ⟨a, ha, he⟩; rw [hT] at this; cases this
  refine ⟨fun a => if a < k then p a else q, O.set q k, T.set q true, h1.step hq hr hnew, by simpa using h2, fun a ha => ?_, by simpa using h4, fun i hi => ?_, ?_, ?_⟩
  · rw [getD_set _ _ _ _ _ (by omega)]
    by_cases hak : a < k
    · simp only [if_pos hak, if_neg (hnew a hak)]; exact h3 a hak
    · obtain rfl : a = k := by omega
      simp
  · rw [getD_set _ _ _ _ _ (by omega)]
    by_cases hiq : i = q
    · subst hiq
      simp only [if_true, true_iff]
      exact ⟨k, by omega, by simp⟩
    · simp only [if_neg hiq]
      rw [h5 i hi]
      constructor
      · rintro ⟨a, ha, e⟩; exact ⟨a, by omega, by simp [ha, e]⟩
      · rintro ⟨a, ha, e⟩
        by_cases hak : a < k
        · simp only [if_pos hak] at e; exact ⟨a, hak, e⟩
        · simp only [if_neg hak] at e; exact absurd e.symm hiq
  · exact (iblk_set h6 q k).other (a := ⟨b2, q, none⟩) (Ne.symm hne) _
  · exact bblk_set (h7.other (a := ⟨b1, q, none⟩) hne _) q true

set_option maxHeartbeats 4000000 in
theorem pla_Order (n : Nat) (s : Int) (ma : Option Addr) (ml mc : Nat) (bs : List Bool) (w : World) (hok : nOk n s) (hml : (ml : Int) = nVars n s) (hm : BoolRow w ma ml bs) :
    Calls Try.prog 36 #[.agg #[.int .i64 n, .int .i64 s], .slice ma ml mc] w (OrdPost n bs w) := by
  have HOK := Lib.hid hok
  have hn : n ≤ 64 := by have := hok.2.1; omega
  have hk : (nCheck n s != 0) = false := by rw [nCheck_yes hok]; rfl
  have hv : ((ml : Int) != nVars n s) = false := by simp [hml]
  have hsq : n * n ≤ ml := by have := vars_sq hok; omega
  have HM := Lib.hid hm
  have hb1 : Below w.heap.size w (w.alloc (.cells #[.int .i64 n, .int .i64 s] 23)) := by (repeat (first | (with_reducible exact Below.refl _ _) | (with_reducible assumption) | (with_reducible refine below_alloc ?_ _) | (with_reducible refine below_drew ?_) | (with_reducible refine below_drewN ?_ _) | (with_reducible refine below_step ?_ (by with_reducible assumption))))
  have hs1 := Blk.made w #[.int .i64 n, .int .i64 s] 23
  generalize hw1 : w.alloc (.cells #[.int .i64 n, .int .i64 s] 23) = w1 at hb1 hs1
  have HW1 := Lib.hid hw1
  have hmk := run_make_row' (P := Try.prog) 41 3 (.int .i64 0) 8 Try.underlying41 info_int rfl .i64 .i64 n (by omega) (by omega)
  have hmk2 := run_make_row' (P := Try.prog) 49 4 (.bool false) 1 Try.underlying49 info_bool rfl .i64 .i64 n (by omega) (by omega)
  clear hw1 hok hml hm
  have c0 := hs1.cell 0; have c1 := hs1.cell 1
  simp at c0 c1
  go_enter Try.func36, Try.ntmps36
  go_wp2_with fail
  rw [HW1.out]
  refine (num_Check _ _ _).mono ?_
  rintro e w2 ⟨rfl, hb2⟩
  have d0 := cell_later hb2 c0; have d1 := cell_later hb2 c1
  go_wp2_with fail
  refine (num_Vars _ _ _).mono ?_
  rintro e w3 ⟨rfl, hb3⟩
  clear d0 d1
  have c0 := cell_later (below_step hb2 hb3) c0; have c1 := cell_later (below_step hb2 hb3) c1
  have hB3 : Below w.heap.size w w3 := below_step (below_step hb1 hb2) hb3
  have l0 := World.block_lt_of_cell? _ _ c0
  dsimp only at l0
  go_wp2_with fail
  go_loopw [29] (fun i wr => ∃ k : Nat, k ≤ n ∧ i = .int .i64 k ∧ Below w3.heap.size w3 wr ∧ OrdAt n bs k w3.heap.size (w3.heap.size + 1) wr) (fun i _ => n - (intOf i).toNat)
  case atStart => exact ⟨0, Nat.zero_le _, rfl, by (repeat (first | (with_reducible exact Below.refl _ _) | (with_reducible assumption) | (with_reducible refine below_alloc ?_ _) | (with_reducible refine below_drew ?_) | (with_reducible refine below_drewN ?_ _) | (with_reducible refine below_step ?_ (by with_reducible assumption)))), OrdAt.start n bs w3⟩
  case round =>
    obtain ⟨k, hk, rfl, hbr, hord⟩ := hrel
    have d0 := cell_later hbr c0; have d1 := cell_later hbr c1
    by_cases hlt : k < n
    · go_wp2_with fail
      refine (pla_ofOper n s k _ HOK.out).mono ?_
      rintro e w4 ⟨rv, rfl, hrow, hb4⟩
      have hrow0 := hrow.row (B' := 0)
      obtain ⟨ra, rl, rc, rfl, _, _, hr3⟩ := hrow0.ints
      have hrl : rl = n := by rw [← hr3.1, rowOf_length]
      subst hrl
      obtain ⟨p, O, T, o1, o2, o3, o4, o5, o6, o7⟩ := hord
      have o6 := o6.later hb4; have o7 := o7.later hb4
      have hbr4 : Below w3.heap.size w3 w4 := below_step hbr hb4
      have hM4 := HM.out.later (below_step (below_step hB3 hbr) hb4)
      have HX := Lib.hid (fun i (hi : i < rl) => (⟨k * rl + i, rowOf_at HOK.out hlt hi, by have := at_lt hlt hi; omega⟩ : ∃ j : Nat, (rowOf rl s rl k).getD i 0 = (j : Int) + 1 ∧ j < ml))
      have HMx : Hid (∀ i, i < rl → bs.getD (((rowOf rl s rl k).getD i 0).toNat - 1) false = Mx rl bs k i) := Lib.hid (fun i hi => by
        rw [rowOf_at HOK.out hlt hi, show (((k * rl + i : Nat) : Int) + 1).toNat - 1 = k * rl + i by omega]; rfl)
      have HO := Lib.hid (And.intro o1 (And.intro o2 (And.intro o3 (And.intro o4 o5))))
      have HO6 := Lib.hid o6; have HO7 := Lib.hid o7
      clear o1 o2 o3 o5 o6 d0 d1 hrow hrow0
      go_wp2_with fail
      refine (pla_only _ _ _ _ _ _ _ _ _ hr3 hM4 (by omega) HX.out).mono ?_
      rintro e w5 ⟨q, ok, rfl, rfl, hyes, hno⟩
      cases ok
      · have HNO := Lib.hid (hno rfl)
        clear hyes hno o7
        go_wp2_with fail
        go_ret2
        refine Or.inr ⟨fun l hl => ?_, rfl, by (repeat (first | (with_reducible exact Below.refl _ _) | (with_reducible assumption) | (with_reducible refine below_alloc ?_ _) | (with_reducible refine below_drew ?_) | (with_reducible refine below_drewN ?_ _) | (with_reducible refine below_step ?_ (by with_reducible assumption))))⟩
        obtain ⟨kk, hkk, _, hmk⟩ := hl.row hlt
        exact HNO.out kk ⟨hkk, fun j hj => by rw [HMx.out j hj]; exact hmk j hj⟩
      · obtain ⟨hq, hqq⟩ := hyes rfl
        have HQ : Hid (∀ j, j < rl → (Mx rl bs k j = true ↔ j = q)) := Lib.hid (fun j hj => by rw [← HMx.out j hj]; exact hqq j hj)
        clear hyes hno hqq
        have t7 := bblk_cell o7 (k := q) (by omega)
        have f7 := o7.free q
        have t6 := iblk_cell HO6.out (k := q) (by have := HO.out.2.1; omega)
        have f6 := HO6.out.free q
        clear o7
        cases hT : T.getD q false
        · rw [hT] at t7
          have HT := Lib.hid hT; clear hT
          go_wp2_with fail
          go_roundw
          case rel =>
            refine ⟨k + 1, by omega, by go_num, ?_, ?_⟩
            · refine below_set (below_set hbr4 (Nat.le_refl _) _ _) (by omega) _ _
            · obtain ⟨o1, o2, o3, o4, o5⟩ := HO.out
              exact OrdAt.step (by omega) o1 o2 o3 o4 o5 HO6.out HO7.out hq HQ.out HT.out
          case measure => simp [intOf]; omega
        · rw [hT] at t7
          have HT := Lib.hid hT; clear hT
          go_wp2_with fail
          go_ret2
          refine Or.inr ⟨?_, rfl, by (repeat (first | (with_reducible exact Below.refl _ _) | (with_reducible assumption) | (with_reducible refine below_alloc ?_ _) | (with_reducible refine below_drew ?_) | (with_reducible refine below_drewN ?_ _) | (with_reducible refine below_step ?_ (by with_reducible assumption))))⟩
          obtain ⟨o1, o2, o3, o4, o5⟩ := HO.out
          obtain ⟨a, ha, he⟩ := (o5 q hq).1 HT.out
          exact RowsAt.clash hlt o1 HQ.out ha he
    · have hkn : k = n := by omega
      have HKN := Lib.hid hkn; clear hkn
      have HOO := Lib.hid hord; clear hord
      go_wp2_with fail
      go_ret2
      obtain ⟨p, O, T, o1, o2, o3, o4, o5, o6, o7⟩ := HOO.out
      rw [HKN.out] at o1 o3
      have hw := iblk_own (B := w.heap.size) o6 hB3.size (by rw [o2]; unfold maxLen; omega)
      rw [o2] at hw
      exact Or.inl ⟨O, _, rfl, o1.ord o2 o3, hw, by (repeat (first | (with_reducible exact Below.refl _ _) | (with_reducible assumption) | (with_reducible refine below_alloc ?_ _) | (with_reducible refine below_drew ?_) | (with_reducible refine below_drewN ?_ _) | (with_reducible refine below_step ?_ (by with_reducible assumption))))⟩
end Go.Proofs.Ythfcbjfeepindaa
