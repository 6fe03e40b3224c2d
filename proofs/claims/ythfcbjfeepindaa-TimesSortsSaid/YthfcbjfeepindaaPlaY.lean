/- The contracts of places.Truths and of its reference. -/
import Derived.Test.YthfcbjfeepindaaPlaX
namespace Go.Proofs.Ythfcbjfeepindaa
open Go.RowKit
set_option linter.unusedVariables false

/-- The first k numbers of l are operations, no two the same. -/
def Pm (n k : Nat) (l : List Int) : Prop := (∀ j, j < k → ∃ a : Nat, a < n ∧ l.getD j 0 = a) ∧ (∀ i j, i < k → j < k → l.getD i 0 = l.getD j 0 → i = j)
theorem Pm.hits {n : Nat} {l : List Int} (h : Pm n n l) {a : Nat} (ha : a < n) : ∃ k, k < n ∧ l.getD k 0 = a := by
  obtain ⟨k, hk, e⟩ := php n (fun k => (l.getD k 0).toNat) (fun k hk => by obtain ⟨b, hb, e⟩ := h.1 k hk; omega) (fun i j hi hj e => by
    obtain ⟨b, hb, e1⟩ := h.1 i hi
    obtain ⟨c, hc, e2⟩ := h.1 j hj
    try dsimp only at e
    exact h.2 i j hi hj (by omega)) a ha
  obtain ⟨b, hb, e1⟩ := h.1 k hk
  exact ⟨k, hk, by omega⟩
theorem Pm.of_hits {n : Nat} {l : List Int} (h : ∀ a, a < n → ∃ k, k < n ∧ l.getD k 0 = (a : Int)) : Pm n n l := by
  have hc : ∃ f : Nat → Nat, ∀ a, a < n → f a < n ∧ l.getD (f a) 0 = (a : Int) := by
    classical
    refine ⟨fun a => if ha : a < n then Classical.choose (h a ha) else 0, fun a ha => ?_⟩
    simp only [dif_pos ha]; exact Classical.choose_spec (h a ha)
  obtain ⟨f, hf⟩ := hc
  have hs := php n f (fun a ha => (hf a ha).1) (fun a b ha hb e => by
    have e1 := (hf a ha).2; have e2 := (hf b hb).2; rw [e, e2] at e1; omega)
  refine ⟨fun j hj => ?_, fun i j hi hj e => ?_⟩
  · obtain ⟨a, ha, e⟩ := hs j hj
    exact ⟨a, ha, by rw [← e]; exact (hf a ha).2⟩
  · obtain ⟨a, ha, e1⟩ := hs i hi
    obtain ⟨b, hb, e2⟩ := hs j hj
    rw [← e1, ← e2, (hf a ha).2, (hf b hb).2] at e
    have : a = b := by omega
    subst this; omega
/-- The truths that say the first k places of l. -/
def IsTru (n k V : Nat) (l : List Int) (bs : List Bool) : Prop := bs.length = V ∧ ∀ i, i < V → (bs.getD i false = true ↔ ∃ j, j < k ∧ l.getD j 0 * n + j = i)
theorem IsTru.uniq {n k V : Nat} {l : List Int} {bs cs : List Bool} (h : IsTru n k V l bs) (h' : IsTru n k V l cs) : bs = cs := by
  apply List.ext_getElem (h.1.trans h'.1.symm)
  intro i h1 h2
  have e1 := h.2 i (by rw [← h.1]; exact h1)
  have e2 := h'.2 i (by rw [← h.1]; exact h1)
  have e3 : bs.getD i false = cs.getD i false := by rw [Bool.eq_iff_iff, e1, e2]
  simpa [List.getD, h1, h2] using e3
def TruPost (n V : Nat) (l : List Int) (w : World) (e : Ending) (w' : World) : Prop :=
  (Pm n n l ∧ ∃ bs v, e = .returned (.tuple #[v, .bool true]) ∧ IsTru n n V l bs ∧ OwnBools w' w.heap.size v bs ∧ Below w.heap.size w w') ∨ (¬ Pm n n l ∧ e = .returned (.tuple #[.slice none 0 0, .bool false]) ∧ Below w.heap.size w w')
def TruAt (n k V : Nat) (l : List Int) (b1 b2 : Nat) (w : World) : Prop := ∃ (bs T : List Bool), Pm n k l ∧ IsTru n k V l bs ∧ T.length = n ∧ (∀ a : Nat, a < n → (T.getD a false = true ↔ ∃ j, j < k ∧ l.getD j 0 = a)) ∧
  Blk w b1 (bs.map Value.bool).toArray 4 ∧ Blk w b2 (T.map Value.bool).toArray 4
theorem TruAt.start (n V : Nat) (l : List Int) (w : World) : TruAt n 0 V l w.heap.size (w.heap.size + 1) ((w.alloc (.cells (madeCells #[.bool false] V) 4)).alloc (.cells (madeCells #[.bool false] n) 4)) := by
  refine ⟨List.replicate V false, List.replicate n false, ⟨fun a ha => by omega, fun a b ha => by omega⟩, ⟨by simp, fun i hi => ?_⟩, by simp, fun i hi => ?_, ?_, ?_⟩
  · simp [List.getD, hi]
  · simp [List.getD, hi]
  · rw [← madeBools]; exact Blk.later (Blk.made _ _ _) (below_alloc (Below.refl _ _) _)
  · rw [← madeBools]; exact Blk.at _ _ _ (by simp)
theorem TruAt.step {n k V b1 b2 a : Nat} {l : List Int} {w : World} {bs T : List Bool} (h1 : Pm n k l) (h2 : IsTru n k V l bs) (h3 : T.length = n) (h4 : ∀ a : Nat, a < n → (T.getD a false = true ↔ ∃ j, j < k ∧ l.getD j 0 = a))
    (h5 : Blk w b1 ((bs.set (a * n + k) true).map Value.bool).toArray 4) (h6 : Blk w b2 ((T.set a true).map Value.bool).toArray 4) (ha : a < n) (hl : l.getD k 0 = a) (hT : T.getD a false = false) (hV : a * n + k < V) :
    TruAt n (k + 1) V l b1 b2 w := by
  have hnew : ∀ j, j < k → l.getD j 0 ≠ a := fun j hj he => by
    have := (h4 a ha).2 ⟨j, hj, he⟩; rw [hT] at this; cases this
  refine ⟨bs.set (a * n + k) true, T.set a true, ⟨fun j hj => ?_, fun i j hi hj e => ?_⟩, ⟨by simpa using h2.1, fun i hi => ?_⟩, by simpa using h3, fun i hi => ?_, ?_, ?_⟩
  · by_cases hjk : j < k
    · exact h1.1 j hjk
    · obtain rfl : j = k := by omega
      exact ⟨a, ha, hl⟩
  · by_cases hik : i < k <;> by_cases hjk : j < k
    · exact h1.2 i j hik hjk e
    · obtain rfl : j = k := by omega
      rw [hl] at e; exact absurd e (hnew i hik)
    · obtain rfl : i = k := by omega
      rw [hl] at e; exact absurd e.symm (hnew j hjk)
    · omega
  · rw [getD_set _ _ _ _ _ (by rw [h2.1]; exact hV)]
    by_cases hik : i = a * n + k
    · rw [if_pos hik]
      simp only [true_iff]
      exact ⟨k, by omega, by rw [hl, hik]; simp⟩
    · rw [if_neg hik, h2.2 i hi]
      constructor
      · rintro ⟨j, hj, e⟩; exact ⟨j, by omega, e⟩
      · rintro ⟨j, hj, e⟩
        by_cases hjk : j < k
        · exact ⟨j, hjk, e⟩
        · obtain rfl : j = k := by omega
          rw [hl] at e
          exact absurd (by have h : ((a * n + j : Nat) : Int) = (i : Int) := by simpa using e
                           omega) hik
  · rw [getD_set _ _ _ _ _ (by omega)]
    by_cases hia : i = a
    · subst hia; rw [if_pos rfl]; simp only [true_iff]; exact ⟨k, by omega, hl⟩
    · rw [if_neg hia, h4 i hi]
      constructor
      · rintro ⟨j, hj, e⟩; exact ⟨j, by omega, e⟩
      · rintro ⟨j, hj, e⟩
        by_cases hjk : j < k
        · exact ⟨j, hjk, e⟩
        · obtain rfl : j = k := by omega
          rw [hl] at e; omega
  · exact h5
  · exact h6

set_option maxHeartbeats 4000000 in
theorem pla_Truths (n : Nat) (s : Int) (oa : Option Addr) (oc : Nat) (l : List Int) (w : World) (hok : nOk n s) (hl : IntRow w oa n l) :
    Calls Try.prog 38 #[.agg #[.int .i64 n, .int .i64 s], .slice oa n oc] w (TruPost n (nVars n s).toNat l w) := by
  have HOK := Lib.hid hok
  have hn : n ≤ 64 := by have := hok.2.1; omega
  have hk : (nCheck n s != 0) = false := by rw [nCheck_yes hok]; rfl
  have hnv := nVars_nonneg n s
  have HVE : Hid (nVars n s = ((nVars n s).toNat : Int)) := Lib.hid (by omega)
  have hsq := vars_sq hok
  have hV6 : (nVars n s).toNat ≤ 6240 := by omega
  generalize (nVars n s).toNat = V at *
  have HL := Lib.hid hl
  have hb1 : Below w.heap.size w (w.alloc (.cells #[.int .i64 n, .int .i64 s] 23)) := by (repeat (first | (with_reducible exact Below.refl _ _) | (with_reducible assumption) | (with_reducible refine below_alloc ?_ _) | (with_reducible refine below_drew ?_) | (with_reducible refine below_drewN ?_ _) | (with_reducible refine below_step ?_ (by with_reducible assumption))))
  have hs1 := Blk.made w #[.int .i64 n, .int .i64 s] 23
  generalize hw1 : w.alloc (.cells #[.int .i64 n, .int .i64 s] 23) = w1 at hb1 hs1
  have HW1 := Lib.hid hw1
  have hmk := run_make_row' (P := Try.prog) 49 4 (.bool false) 1 Try.underlying49 info_bool rfl .i64 .i64 V (by omega) (by omega)
  have hmk2 := run_make_row' (P := Try.prog) 49 4 (.bool false) 1 Try.underlying49 info_bool rfl .i64 .i64 n (by omega) (by omega)
  clear hw1 hok hl hnv
  have c0 := hs1.cell 0; have c1 := hs1.cell 1
  simp at c0 c1
  go_enter Try.func38, Try.ntmps38
  go_wp2_with fail
  rw [HW1.out]
  refine (num_Check _ _ _).mono ?_
  rintro e w2 ⟨rfl, hb2⟩
  have d0 := cell_later hb2 c0; have d1 := cell_later hb2 c1
  go_wp2_with fail
  refine (num_Vars _ _ _).mono ?_
  rintro e w3 ⟨rfl, hb3⟩
  rw [HVE.out]
  clear d0 d1
  have c0 := cell_later (below_step hb2 hb3) c0; have c1 := cell_later (below_step hb2 hb3) c1
  have hB3 : Below w.heap.size w w3 := below_step (below_step hb1 hb2) hb3
  have l0 := World.block_lt_of_cell? _ _ c0
  dsimp only at l0
  go_wp2_with fail
  go_loopw [28] (fun i wr => ∃ k : Nat, k ≤ n ∧ i = .int .i64 k ∧ Below w3.heap.size w3 wr ∧ TruAt n k V l w3.heap.size (w3.heap.size + 1) wr) (fun i _ => n - (intOf i).toNat)
  case atStart => exact ⟨0, Nat.zero_le _, rfl, by (repeat (first | (with_reducible exact Below.refl _ _) | (with_reducible assumption) | (with_reducible refine below_alloc ?_ _) | (with_reducible refine below_drew ?_) | (with_reducible refine below_drewN ?_ _) | (with_reducible refine below_step ?_ (by with_reducible assumption)))), TruAt.start n V l w3⟩
  case round =>
    obtain ⟨k, hk, rfl, hbr, htru⟩ := hrel
    have d0 := cell_later hbr c0; have d1 := cell_later hbr c1
    by_cases hlt : k < n
    · obtain ⟨lb, lo, rfl, hlc⟩ := (HL.out.later (below_step hB3 hbr)).2.2 (by omega)
      have hck := hlc k hlt
      clear hlc
      obtain ⟨bs, T, o1, o2, o3, o4, o5, o6⟩ := htru
      have HO := Lib.hid (And.intro o1 (And.intro o2 (And.intro o3 o4)))
      clear o1 o2 o4
      by_cases hbad : l.getD k 0 < 0 ∨ (n : Int) ≤ l.getD k 0
      · have HBAD := Lib.hid hbad
        have hno : ¬ Pm n n l := fun hp => by obtain ⟨a, ha, e⟩ := hp.1 k hlt; omega
        have HNO := Lib.hid hno; clear hno
        generalize l.getD k 0 = x at *
        have HO5 := Lib.hid o5; have HO6 := Lib.hid o6
        clear o5 o6
        rcases hbad with hbad | hbad
        · go_wp2_with fail
          go_ret2
          exact Or.inr ⟨HNO.out, rfl, by (repeat (first | (with_reducible exact Below.refl _ _) | (with_reducible assumption) | (with_reducible refine below_alloc ?_ _) | (with_reducible refine below_drew ?_) | (with_reducible refine below_drewN ?_ _) | (with_reducible refine below_step ?_ (by with_reducible assumption))))⟩
        · have hnn : ¬ x < 0 := by omega
          go_wp2_with fail
          go_ret2
          exact Or.inr ⟨HNO.out, rfl, by (repeat (first | (with_reducible exact Below.refl _ _) | (with_reducible assumption) | (with_reducible refine below_alloc ?_ _) | (with_reducible refine below_drew ?_) | (with_reducible refine below_drewN ?_ _) | (with_reducible refine below_step ?_ (by with_reducible assumption))))⟩
      · obtain ⟨a, ha⟩ : ∃ a : Nat, l.getD k 0 = a := ⟨(l.getD k 0).toNat, by omega⟩
        have han : a < n := by omega
        rw [ha] at hck
        have HA := Lib.hid ha; clear ha hbad
        have t7 := bblk_cell o6 (k := a) (by omega)
        have f7 := o6.free a
        have HO5 := Lib.hid o5; have HO6 := Lib.hid o6
        clear o5 o6
        cases hT : T.getD a false
        · rw [hT] at t7
          have HT := Lib.hid hT; clear hT
          have hqV : a * n + k < V := by have := at_lt han hlt; omega
          have t8 := bblk_cell HO5.out (k := a * n + k) (by rw [HO.out.2.1.1]; exact hqV)
          have f8 := HO5.out.free (a * n + k)
          have hcol := colOf_at HOK.out han hlt
          generalize hq : a * n + k = q at *
          have HCOL := Lib.hid hcol; clear hcol
          have HQ := Lib.hid hq; clear hq
          have hl5 := HO5.out.lt; have hl6 := HO6.out.lt
          go_wp2_with fail
          refine (pla_ofPlace n s k _ HOK.out).mono ?_
          rintro e w5 ⟨rv, rfl, hrow, hb5⟩
          have hrow0 := hrow.row (B' := 0)
          obtain ⟨ra, rl, rc, rfl, _, _, hr3⟩ := hrow0.ints
          have hrl : rl = n := by rw [← hr3.1, colOf_length]
          subst hrl
          obtain ⟨cb, co, rfl, hcc⟩ := hr3.2.2 (by omega)
          have hcq := hcc a han
          rw [HCOL.out] at hcq
          have hx5 : Below w3.heap.size w3 w5 := below_step (below_set hbr (by omega) a (.bool true)) hb5
          have k5 : Blk w5 w3.heap.size (bs.map Value.bool).toArray 4 := (HO5.out.other (a := ⟨w3.heap.size + 1, a, none⟩) (by simp) _).later hb5
          have k6 : Blk w5 (w3.heap.size + 1) ((T.set a true).map Value.bool).toArray 4 := (bblk_set HO6.out a true).later hb5
          have t9 := bblk_cell k5 (k := q) (by rw [HO.out.2.1.1]; exact hqV)
          have f9 := k5.free q
          have HK5 := Lib.hid k5; have HK6 := Lib.hid k6
          clear hrow hrow0 hcc k5 k6 t8 f8 t7 f7 d0 d1 hck
          go_wp2_with fail
          go_roundw
          case rel =>
            refine ⟨k + 1, by omega, by go_num, ?_, ?_⟩
            · exact below_set hx5 (Nat.le_refl _) _ _
            · obtain ⟨o1, o2, o3, o4⟩ := HO.out
              refine TruAt.step (a := a) o1 o2 o3 o4 ?_ ?_ han HA.out HT.out (by rw [HQ.out]; exact hqV)
              · rw [HQ.out]; exact bblk_set HK5.out q true
              · exact HK6.out.other (a := ⟨w3.heap.size, q, none⟩) (by simp) _
          case measure => simp [intOf]; omega
        · rw [hT] at t7
          have HT := Lib.hid hT; clear hT
          go_wp2_with fail
          go_ret2
          refine Or.inr ⟨fun hp => ?_, rfl, by (repeat (first | (with_reducible exact Below.refl _ _) | (with_reducible assumption) | (with_reducible refine below_alloc ?_ _) | (with_reducible refine below_drew ?_) | (with_reducible refine below_drewN ?_ _) | (with_reducible refine below_step ?_ (by with_reducible assumption))))⟩
          obtain ⟨j, hj, e⟩ := (HO.out.2.2.2 a han).1 HT.out
          have := hp.2 j k (by omega) hlt (by rw [e, HA.out])
          omega
    · have hkn : k = n := by omega
      have HKN := Lib.hid hkn; clear hkn
      have HOO := Lib.hid htru; clear htru
      go_wp2_with fail
      go_ret2
      obtain ⟨bs, T, o1, o2, o3, o4, o5, o6⟩ := HOO.out
      rw [HKN.out] at o1 o2
      have hw := bblk_own (B := w.heap.size) o5 hB3.size (by rw [o2.1]; unfold maxLen; omega)
      rw [o2.1] at hw
      exact Or.inl ⟨o1, bs, _, rfl, o2, hw, by (repeat (first | (with_reducible exact Below.refl _ _) | (with_reducible assumption) | (with_reducible refine below_alloc ?_ _) | (with_reducible refine below_drew ?_) | (with_reducible refine below_drewN ?_ _) | (with_reducible refine below_step ?_ (by with_reducible assumption))))⟩
end Go.Proofs.Ythfcbjfeepindaa
