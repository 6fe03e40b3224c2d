import Derived.Test.YtdladbfjgkejiaaMgAT
import Derived.Test.YtdladbfjgkejiaaMgAV
import Derived.Test.YtdladbfjgkejiaaMgAW
import Derived.Test.YtdladbfjgkejiaaMgAQ
import Derived.Test.YtdladbfjgkejiaaMgAA
import Derived.Test.YtdladbfjgkejiaaMgBB
namespace Go.Proofs.Ytdladbfjgkejiaa
open Go.RowKit
set_option linter.unusedVariables false
set_option linter.unusedSimpArgs false

set_option maxRecDepth 100000 in
set_option maxHeartbeats 8000000 in
theorem cnfHolds_walk0 (haw : ∀ W, Calls Try.prog 7 #[] W fun e w' => e = .returned (.bool true) ∧ Below W.heap.size W w') (w : World) (vars : Int) (a : Option Addr) (len cap : Nat) (xss : List (List Int)) (hr : Rows2 w a len xss) (hfr : FitsR' xss)
    (ma : Option Addr) (ml mc : Nat) (m : List Bool) (hm : BoolRow w ma ml m)  :
    Calls Try.prog 4 #[.agg #[.int .i64 vars, .slice a len cap], .slice ma ml mc] w fun e w' => e = .returned (.bool true) ∧ Below w.heap.size w w' := by
  have HAW := Lib.hid haw
  have HFR := Lib.hid hfr
  have hb1 : Below w.heap.size w (w.alloc (.cells #[.int .i64 vars, .slice a len cap] 24)) := below_alloc (Below.refl _ _) _
  have hc1 := Blk.made w #[.int .i64 vars, .slice a len cap] 24
  generalize hw1 : w.alloc (.cells #[.int .i64 vars, .slice a len cap] 24) = w1 at *
  have HW1 := Lib.hid hw1
  have e0 := hc1.cell 0; have e1 := hc1.cell 1
  have HC1 := Lib.hid hc1
  simp only [List.getElem?_toArray, List.getElem?_cons_zero, List.getElem?_cons_succ] at e0 e1
  have HR := Lib.hid (hr.later hb1); have HM := Lib.hid (hm.later hb1)
  have HB := Lib.hid hb1
  have d5 : decide (300 < (ml : Int)) = decide (300 < ml) := by rw [Bool.eq_iff_iff]; simp; omega
  have HML := Lib.hid HM.out.1
  clear hr hm hfr haw hw1 hc1
  by_cases h1 : fFew xss = true
  · have HS := Lib.hid (few_short h1)
    have H1 := Lib.hid h1
    clear h1
    by_cases h2 : 300 < ml
    · rw [decide_eq_true h2] at d5
      clear h2
      go_enter Try.func4, Try.ntmps4
      go_wp2_with fail
      rw [HW1.out]
      refine (law_Few vars a len cap xss w1 HR.out).mono ?_
      rintro e w2 ⟨rfl, hb2⟩
      rw [H1.out]
      have e2 := cell_later hb2 e0
      have e3 := cell_later hb2 e1
      go_wp2_with fail
      refine (HAW.out _).mono ?_
      rintro e w3 ⟨rfl, hb3⟩
      go_wp2_with fail
      go_returns
      exact ⟨rfl, below_step HB.out (below_step hb2 hb3)⟩
    · rw [decide_eq_false h2] at d5
      by_cases h3 : (ml : Int) = vars
      · have d6 : ((ml : Int) == vars) = true := by simpa using h3
        have H3 := Lib.hid h3; have H2 := Lib.hid h2
        clear h3 h2
        go_enter Try.func4, Try.ntmps4
        go_wp2_with fail
        rw [HW1.out]
        refine (law_Few vars a len cap xss w1 HR.out).mono ?_
        rintro e w2 ⟨rfl, hb2⟩
        rw [H1.out]
        have e2 := cell_later hb2 e0
        have e3 := cell_later hb2 e1
        go_wp2_with fail
        refine (cnf_Check vars a len cap xss w2 (HR.out.later hb2) (fun c hc => Nat.le_trans (HS.out.2 c hc) (by decide))).mono ?_
        rintro e w3 ⟨rfl, hb3⟩
        by_cases h4 : fErr vars xss = 0
        · have H4 := Lib.hid (fStat_from h4 (HML.out ▸ H3.out))
          rw [h4]
          have e4 := cell_later hb3 e2
          have e5 := cell_later hb3 e3
          clear h4 e0 e1 e2 e3 d5 d6
          have hB3 := below_step hb2 hb3
          clear hb2 hb3
          go_wp2_with fail
          have E0 := Lib.hid e4; have E1 := Lib.hid e5
          have HR3 := Lib.hid (HR.out.later hB3); have HM3 := Lib.hid (HM.out.later hB3)
          have hml : ml ≤ 300 := Nat.le_of_not_lt H2.out
          have HA1 : Hid ((aFrom m).length = ml ∧ ml ≤ 1000000) := Lib.hid ⟨by rw [aFrom_len (by rw [HML.out]; omega), HML.out], by omega⟩
          have HA2 : Hid (Fits' (aFrom m)) := Lib.hid fun x hx => by
            obtain ⟨i, hi, rfl⟩ := (aFrom_mem (by rw [HML.out]; omega) x).1 hx
            have := HML.out
            split <;> omega
          clear e4 e5 hml
          refine wp_region_later (by kernel_rfl) (fun wk0 hn => ?_)
          have hB : Later w3 wk0 := Later.trans (Later.refl _) hn
          clear hn
          refine wpAnyL_take 0 (oi := ?_) (v := ?_) ?_ (by kernel_rfl) (by kernel_rfl) (by kernel_rfl) ?_ (Or.inl ⟨?_, fun wz hy => ?_⟩) (fun wk1 hn => ?_)
          rotate_left 2
          focus
            simp only [List.getElem?_toArray, List.getElem?_cons_succ, List.getElem?_cons_zero]
            rfl
          focus exact fun _ _ _ h => h
          focus rfl
          focus
            have hz : Later w3 wz := Later.trans hB hy
            have e0 := cell_later hz E0.out; have e1 := cell_later hz E1.out
            refine gives_value (w' := wz) ?_ ⟨rfl, Later.refl _⟩
            go_simp
            try with_reducible rfl
          replace hB : Later w3 wk1 := Later.trans hB hn
          clear hn
          try clear wk0
          try simp only [Act.put, List.setIfInBounds_toArray, List.set_cons_zero, List.set_cons_succ]
          refine wpAnyL_take 1 (oi := ?_) (v := ?_) ?_ (by kernel_rfl) (by kernel_rfl) (by kernel_rfl) ?_ (Or.inl ⟨?_, fun wz hy => ?_⟩) (fun wk2 hn => ?_)
          rotate_left 2
          focus
            simp only [List.getElem?_toArray, List.getElem?_cons_succ, List.getElem?_cons_zero]
            rfl
          focus exact fun _ _ _ h => h
          focus rfl
          focus
            have hz : Later w3 wz := Later.trans hB hy
            have e0 := cell_later hz E0.out; have e1 := cell_later hz E1.out
            refine gives_value (w' := wz) ?_ ⟨rfl, Later.refl _⟩
            go_simp
            try with_reducible rfl
          replace hB : Later w3 wk2 := Later.trans hB hn
          clear hn
          try clear wk1
          try simp only [Act.put, List.setIfInBounds_toArray, List.set_cons_zero, List.set_cons_succ]
          refine wpAnyL_one 2 (oi := ?_) ?_ (by kernel_rfl) ?_ ?_
          rotate_left 1
          focus
            simp only [List.getElem?_toArray, List.getElem?_cons_succ, List.getElem?_cons_zero]
            rfl
          focus rfl
          refine gives_enter (w' := wk2) ?_ (Calls.mono (asg_From ma ml mc m wk2 (HM3.out.later hB)) ?_)
          focus
            go_simp
            try with_reducible rfl
          rintro e w9 ⟨vA, rfl, hown, hb⟩
          obtain ⟨a5, l5, c5, rfl, _, _, r5⟩ := hown.ints
          clear hown
          refine ⟨_, rfl, hb, fun wk3 hn => ?_⟩
          have R5 : IntRow wk3 a5 l5 (aFrom m) := r5.later hn
          replace hB : Later w3 wk3 := Later.trans hB (Later.trans hb hn)
          clear hn hb r5
          try clear w9
          try clear wk2
          try simp only [Act.put, List.setIfInBounds_toArray, List.set_cons_zero, List.set_cons_succ]
          refine wpAnyL_take 3 (oi := ?_) (v := ?_) ?_ (by kernel_rfl) (by kernel_rfl) (by kernel_rfl) ?_ (Or.inl ⟨?_, fun wz hy => ?_⟩) (fun wk4 hn => ?_)
          rotate_left 2
          focus
            simp only [List.getElem?_toArray, List.getElem?_cons_succ, List.getElem?_cons_zero]
            rfl
          focus exact fun _ _ _ h => h
          focus rfl
          focus
            have hz : Later w3 wz := Later.trans hB hy
            refine gives_enter (w' := wz) ?_ (Calls.mono (cnf_Status vars a len cap xss a5 l5 c5 (aFrom m) wz (HR3.out.later hz) (R5.later hy) (by rw [← R5.1, HA1.out.1]; exact HA1.out.2) HA2.out HFR.out (fun c hc => Nat.le_trans (HS.out.2 c hc) (by decide))) ?_)
            focus
              go_simp
              try with_reducible rfl
            rintro e w9 ⟨rfl, hb⟩; rw [H4.out]; refine ⟨_, rfl, ?_, hb⟩; rfl
          replace hB : Later w3 wk4 := Later.trans hB hn
          clear R5
          clear hn
          try clear wk3
          try simp only [Act.put, List.setIfInBounds_toArray, List.set_cons_zero, List.set_cons_succ]
          refine wpAnyL_take 4 (oi := ?_) (v := ?_) ?_ (by kernel_rfl) (by kernel_rfl) (by kernel_rfl) ?_ (Or.inl ⟨?_, fun wz hy => ?_⟩) (fun wk5 hn => ?_)
          rotate_left 2
          focus
            simp only [List.getElem?_toArray, List.getElem?_cons_succ, List.getElem?_cons_zero]
            rfl
          focus exact fun _ _ _ h => h
          focus rfl
          focus
            have hz : Later w3 wz := Later.trans hB hy
            have e0 := cell_later hz E0.out; have e1 := cell_later hz E1.out
            refine gives_value (w' := wz) ?_ ⟨rfl, Later.refl _⟩
            go_simp
            try with_reducible rfl
          replace hB : Later w3 wk5 := Later.trans hB hn
          clear hn
          try clear wk4
          try simp only [Act.put, List.setIfInBounds_toArray, List.set_cons_zero, List.set_cons_succ]
          refine wpAnyL_done (by kernel_rfl) ?_ _
          have e0 := cell_later hB E0.out; have e1 := cell_later hB E1.out
          have HB4 := Lib.hid hB
          have HH : Hid (fHolds vars m xss = decide (fFirst m xss = -1)) := Lib.hid (by unfold fHolds; rw [decide_eq_true (HML.out ▸ H3.out), Bool.true_and])
          have HLT : Hid (decide (fFirst m xss < 0) = decide (fFirst m xss = -1)) := Lib.hid (by rw [decide_eq_decide]; exact fFirst_lt)
          by_cases h5 : fFirst m xss = -1
          all_goals
            have H5 := Lib.hid h5
            simp only [h5, if_true, if_false]
            clear h5
            go_wp2_with fail
            refine (cnf_Holds vars a len cap xss ma ml mc m _ (HR3.out.later hB) (HM3.out.later hB)).mono ?_
            rintro e w6 ⟨rfl, hb6⟩
            have hB6 := below_step hB hb6
            have e2 := cell_later hB6 E0.out; have e3 := cell_later hB6 E1.out
            rw [HH.out]
            first | rw [decide_eq_true H5.out] | rw [decide_eq_false H5.out]
            clear e0 e1
            go_wp2_with fail
            refine (cnf_First vars a len cap xss ma ml mc m _ (HR3.out.later hB6) (HM3.out.later hB6)).mono ?_
            rintro e w7 ⟨rfl, hb7⟩
            have d9 := HLT.out
            first | rw [decide_eq_true H5.out] at d9 | rw [decide_eq_false H5.out] at d9
            go_wp2_with fail
            refine (HAW.out _).mono ?_
            rintro e w8 ⟨rfl, hb8⟩
            go_wp2_with fail
            go_returns
            exact ⟨rfl, below_step HB.out (below_step hB3 (below_step hB6 (below_step hb7 hb8)))⟩
        · have d7 : (fErr vars xss == 0) = false := by simpa using h4
          have d8 : (fErr vars xss != 0) = true := by simpa using h4
          clear h4
          go_wp2_with fail
          refine (HAW.out _).mono ?_
          rintro e w4 ⟨rfl, hb4⟩
          go_wp2_with fail
          go_returns
          exact ⟨rfl, below_step HB.out (below_step hb2 (below_step hb3 hb4))⟩
      · have d6 : ((ml : Int) == vars) = false := by simpa using h3
        clear h2 h3
        go_enter Try.func4, Try.ntmps4
        go_wp2_with fail
        rw [HW1.out]
        refine (law_Few vars a len cap xss w1 HR.out).mono ?_
        rintro e w2 ⟨rfl, hb2⟩
        rw [H1.out]
        have e2 := cell_later hb2 e0
        have e3 := cell_later hb2 e1
        go_wp2_with fail
        refine (HAW.out _).mono ?_
        rintro e w3 ⟨rfl, hb3⟩
        go_wp2_with fail
        go_returns
        exact ⟨rfl, below_step HB.out (below_step hb2 hb3)⟩
  · have H1 : Hid (fFew xss = false) := Lib.hid (by simpa using h1)
    clear h1 d5
    go_enter Try.func4, Try.ntmps4
    go_wp2_with fail
    rw [HW1.out]
    refine (law_Few vars a len cap xss w1 HR.out).mono ?_
    rintro e w2 ⟨rfl, hb2⟩
    rw [H1.out]
    have e2 := cell_later hb2 e0
    have e3 := cell_later hb2 e1
    go_wp2_with fail
    refine (HAW.out _).mono ?_
    rintro e w3 ⟨rfl, hb3⟩
    go_wp2_with fail
    go_returns
    exact ⟨rfl, below_step HB.out (below_step hb2 hb3)⟩
end Go.Proofs.Ytdladbfjgkejiaa
namespace Go.Proofs.Ytdladbfjgkejiaa
open Go.ChangeShapes Go.WideShapes Go.ChangeAt Go.RowKit
open Go.Deep (oneCellFields)
set_option linter.unusedVariables false

theorem ints_of_trod {P : Program} {H : Type} {enc : TypeId × Value → H} {W : World} {base : Nat} {sp : Nat → Bool} {held : Bool} {t e : TypeId} {u : Value} {n : Nat} {y : DataW H × List MemPlace}
    (ht : P.underlying t = some (.slice e)) (he : P.underlying e = some (.int .i64)) (hc : P.cellsOf e = 1) (h : DataW.trod enc P W base sp held n t [u] = some y) : ∃ xs, Ints W u xs ∧ Fits xs := by
  rcases open_ints ht he hc h with ⟨hcs, _⟩ | ⟨y, l, c, zs, hcs, _, hl, hm, hz, _, hcell, hwz⟩
  · simp only [List.cons.injEq, and_true] at hcs
    subst hcs
    exact ⟨[], Ints.nil W, fun x hx => by cases hx⟩
  · simp only [List.cons.injEq, and_true] at hcs
    subst hcs
    have hz' : l ≤ zs.length := by rw [hz]; split <;> omega
    refine ⟨zs.take l, ⟨_, l, c, rfl, hl, hm, by simp; omega, by omega, fun hp => ?_⟩, fun x hx => bounds_i64 (hwz x (List.mem_of_mem_take hx))⟩
    obtain ⟨b, off, spot⟩ := y
    have h0 := hcell 0 (by omega)
    have hspot : spot = none := by simpa [Addr.add] using World.cell?_spot h0
    subst hspot
    refine ⟨b, off, rfl, fun i hi => ?_⟩
    have h1 := hcell i (by omega)
    rw [show (zs.take l).getD i 0 = zs.getD i 0 by simp [List.getD, hi]]
    rw [← h1]
    by_cases h2 : i = 0 <;> simp [Addr.add, h2]
/-- A row of rows of numbers: all of them fit. -/
def FitsR (xss : List (List Int)) : Prop := ∀ xs ∈ xss, Fits xs
theorem rows_of_trod {P : Program} {H : Type} {enc : TypeId × Value → H} {W : World} {base : Nat} {sp : Nat → Bool} {held : Bool} {t e i : TypeId} {v : Value} {n : Nat} {y : DataW H × List MemPlace}
    (ht : P.underlying t = some (.slice e)) (he : P.underlying e = some (.slice i)) (hi : P.underlying i = some (.int .i64)) (hce : P.cellsOf e = 1) (hci : P.cellsOf i = 1) (h : DataW.trod enc P W base sp held n t [v] = some y) :
    ∃ a len cap xss, v = .slice a len cap ∧ Rows2 W a len xss ∧ FitsR xss ∧ len ≤ cap ∧ cap ≤ maxLen ∧ (a = none → cap = 0) := by
  rcases Go.Deep.open_slice1 ht hce h with ⟨hcs, _⟩ | ⟨y, l, c, m, n, V, D, Pl, hcs, _, hl, hm, hmm, _, hcell⟩
  · simp only [List.cons.injEq, and_true] at hcs
    subst hcs
    exact ⟨none, 0, 0, [], rfl, ⟨rfl, Nat.zero_le _, fun i hi => by omega⟩, (fun xs hx => by cases hx), Nat.le_refl _, Nat.zero_le _, fun _ => rfl⟩
  · simp only [List.cons.injEq, and_true] at hcs
    subst hcs
    have hz' : l ≤ m := by rw [hmm]; split <;> omega
    have hrow : ∀ k, k < l → ∃ xs, Ints W (V k) xs ∧ Fits xs := fun k hk => ints_of_trod he hi hci (hcell k (by omega)).2
    obtain ⟨g, hg⟩ := Go.Deep.choose_lt hrow
    refine ⟨some y, l, c, (List.range l).map g, rfl, ⟨by simp, by omega, fun k hk => ?_⟩, fun xs hx => ?_, hl, hm, fun h => by cases h⟩
    · obtain ⟨b, off, spot⟩ := y
      have h0 := (hcell k (by omega)).1
      have hspot : spot = none := by
        have h9 := (hcell 0 (by omega)).1
        simpa [Addr.add] using World.cell?_spot h9
      subst hspot
      refine ⟨b, off, V k, rfl, ?_, ?_⟩
      · rw [← h0]
        by_cases h2 : k = 0 <;> simp [Addr.add, h2]
      · rw [show ((List.range l).map g).getD k [] = g k by simp [List.getD, hk]]
        exact (hg k hk).1
    · obtain ⟨k, hk, rfl⟩ := List.mem_map.1 hx
      exact (hg k (List.mem_range.1 hk)).2
/-- What a formula is, as an argument. -/
def FormulaArg (W : World) (v : Value) : Prop := ∃ (vars : Int) (a : Option Addr) (len cap : Nat) (xss : List (List Int)), v = .agg #[.int .i64 vars, .slice a len cap] ∧ (Lit.int .i64 vars).wf = true ∧ Rows2 W a len xss ∧ FitsR xss ∧ len ≤ cap ∧ cap ≤ maxLen ∧ (a = none → cap = 0)
theorem open_formula {P : Program} {H : Type} {enc : TypeId × Value → H} {w : World} {base b0 : Nat} {sp : Nat → Bool} {held : Bool} {r : Reach} {t e q i : TypeId} {v : Value} {d : DataW H} {pl : List MemPlace} {f0 f1 : Field}
    (hs : P.underlying t = some (.struct #[f0, f1])) (hq : P.underlying q = some (.slice e)) (he : P.underlying e = some (.slice i)) (hi : P.underlying i = some (.int .i64)) (hce : P.cellsOf e = 1) (hci : P.cellsOf i = 1)
    (hone : (oneCellFields P #[f0, f1] && decide (f0.type = i) && decide (f1.type = q)) = true) (hC : P.cellsOf t = 2)
    (hv : Value.okWide P w r b0 t v) (h : DataW.Trod enc P w base sp held t v d pl) : FormulaArg w v := by
  simp only [Bool.and_eq_true, decide_eq_true_eq] at hone
  obtain ⟨⟨h1, h2⟩, h3⟩ := hone
  obtain ⟨v0, v1, y0, y1, n, rfl, _, _, k0, k1⟩ := Go.Joins.open_agg2 hs h1 hC hv h
  rw [h2] at k0; rw [h3] at k1
  obtain ⟨a, e0, _, wa⟩ := DataW.trod_int hi k0
  simp at e0; subst e0
  obtain ⟨a1, len, cap, xss, rfl, hr, hf, hl⟩ := rows_of_trod hq he hi hce hci k1
  exact ⟨a, a1, len, cap, xss, rfl, wa, hr, hf, hl⟩
end Go.Proofs.Ytdladbfjgkejiaa
namespace Go.Proofs.Ytdladbfjgkejiaa
open Go.RowKit
set_option linter.unusedVariables false
theorem law_awake (W : World) : Calls Try.prog 7 #[] W fun e W' => e = .returned (.bool true) ∧ Below W.heap.size W W' :=
  law_of (pf_awake.mono fun r H' h => h.1) W [] (RL.nil _ _)
theorem fitsR_of {xss : List (List Int)} (h : FitsR xss) : FitsR' xss := h
theorem cnfValues_walk (w : World) (vars : Int) (hv : (Lit.int .i64 vars).wf = true) (a : Option Addr) (len cap : Nat) (xss : List (List Int)) (hr : Rows2 w a len xss) (hfr : FitsR xss) (hcap : len ≤ cap ∧ cap ≤ maxLen ∧ (a = none → cap = 0))
    (ma : Option Addr) (ml mc : Nat) (m : List Bool) (hm : BoolRow w ma ml m) (hmc : ml ≤ mc ∧ mc ≤ maxLen ∧ (ma = none → mc = 0)) (la : Option Addr) (ll lc : Nat) (l : List Int) (hl : IntRow w la ll l) (hfl : Fits' l) (hlc : ll ≤ lc ∧ lc ≤ maxLen ∧ (la = none → lc = 0)) :
    Calls Try.prog 3 #[.agg #[.int .i64 vars, .slice a len cap], .slice ma ml mc, .slice la ll lc] w fun e w' => e = .returned (.bool true) ∧ Below w.heap.size w w' :=
  cnfValues_walk0 law_awake w vars a len cap xss hr (fitsR_of hfr) ma ml mc m hm la ll lc l hl hfl
theorem cnfHolds_walk (w : World) (vars : Int) (hv : (Lit.int .i64 vars).wf = true) (a : Option Addr) (len cap : Nat) (xss : List (List Int)) (hr : Rows2 w a len xss) (hfr : FitsR xss) (hcap : len ≤ cap ∧ cap ≤ maxLen ∧ (a = none → cap = 0))
    (ma : Option Addr) (ml mc : Nat) (m : List Bool) (hm : BoolRow w ma ml m) (hmc : ml ≤ mc ∧ mc ≤ maxLen ∧ (ma = none → mc = 0)) :
    Calls Try.prog 4 #[.agg #[.int .i64 vars, .slice a len cap], .slice ma ml mc] w fun e w' => e = .returned (.bool true) ∧ Below w.heap.size w w' :=
  cnfHolds_walk0 law_awake w vars a len cap xss hr (fitsR_of hfr) ma ml mc m hm
end Go.Proofs.Ytdladbfjgkejiaa
