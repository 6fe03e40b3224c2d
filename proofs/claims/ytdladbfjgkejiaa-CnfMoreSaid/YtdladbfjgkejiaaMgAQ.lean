import Derived.Test.YtdladbfjgkejiaaMgAP
import Derived.Test.YtdladbfjgkejiaaMgAK
namespace Go.Proofs.Ytdladbfjgkejiaa
open Go.RowKit
set_option linter.unusedVariables false
set_option linter.unusedSimpArgs false

def mdl (l : List Int) (V : Nat) : List Bool := (List.range V).map fun i : Nat => lhas l ((i : Int) + 1)
theorem mdl_len (l : List Int) (V : Nat) : (mdl l V).length = V := by simp [mdl]
theorem mdl_nil (V : Nat) : mdl [] V = List.replicate V false := by
  apply List.ext_getElem
  · simp [mdl]
  · intro i h1 h2; simp [mdl, lhas]
theorem mdl_set (l : List Int) (V q : Nat) (hq : q < V) : (mdl l V).set q true = mdl (l ++ [(q : Int) + 1]) V := by
  apply List.ext_getElem
  · simp [mdl]
  · intro i h1 h2
    rw [List.getElem_set]
    simp only [mdl, List.getElem_map, List.getElem_range]
    rw [lhas_app]
    have hone : lhas [(q : Int) + 1] ((i : Int) + 1) = decide (q = i) := by unfold lhas; rw [Bool.eq_iff_iff]; simp; omega
    rw [hone]
    by_cases e : q = i <;> simp [e]
theorem mdl_keep (l : List Int) (V : Nat) (x : Int) (hx : x < 1 ∨ (V : Int) < x) : mdl (l ++ [x]) V = mdl l V := by
  apply List.map_congr_left
  intro i hi
  rw [List.mem_range] at hi
  have hone : lhas [x] ((i : Int) + 1) = false := by
    cases h : lhas [x] ((i : Int) + 1)
    · rfl
    · rw [lhas_iff] at h; simp at h; omega
  rw [lhas_app, hone, Bool.or_false]
theorem aModel_eq {l : List Int} {V : Nat} (h : V ≤ 100000) : aModel l V = mdl l V := by unfold aModel mdl; rw [if_neg (by omega), Int.toNat_natCast]

def frF (m : List Bool) (i : Nat) : Int := lmake ((i : Int) + 1) (m.getD i false)
theorem aFrom_eq {m : List Bool} (h : m.length ≤ 100000) : aFrom m = (List.range m.length).map (frF m) := by unfold aFrom; rw [if_neg (by omega)]; rfl
set_option maxRecDepth 100000 in
set_option maxHeartbeats 1000000 in
theorem asg_From (a : Option Addr) (len cap : Nat) (m : List Bool) (w : World) (hr : BoolRow w a len m) : Calls Try.prog 15 #[.slice a len cap] w fun e w' => ∃ v, e = .returned v ∧ OwnInts w' w.heap.size v (aFrom m) ∧ Below w.heap.size w w' := by
  have hm := hr.2.1; unfold maxLen at hm
  have HR := Lib.hid hr
  have HL := Lib.hid hr.1
  clear hr
  by_cases hbig : 100000 < len
  · have HA : Hid (aFrom m = []) := Lib.hid (by unfold aFrom; rw [HL.out, if_pos hbig])
    have d1 : decide (100000 < (len : Int)) = true := by simp; omega
    have d2 : decide (100000 < len) = true := by simpa using hbig
    go_enter Try.func15, Try.ntmps15
    go_wp2_with fail
    go_ret
    exact ⟨_, rfl, by rw [HA.out]; exact OwnInts.nil _ _, Below.refl _ _⟩
  · have d1 : decide (100000 < (len : Int)) = false := by simp; omega
    have d2 : decide (100000 < len) = false := by simpa using hbig
    have hlen : len ≤ 100000 := by omega
    have d3 : (0 : Int) ≤ len := by omega
    have HA : Hid (aFrom m = upTo (frF m) 0 len len) := Lib.hid (by rw [upTo_full, aFrom_eq (by rw [HL.out]; exact hlen), HL.out])
    have hmk := run_make_row' (P := Try.prog) 26 3 (.int .i64 0) 8 Try.underlying26 info_int rfl .i64 .i64 len (by omega) (by omega)
    have hb2 : Below w.heap.size w (w.alloc (.cells (madeCells #[.int .i64 0] len) 3)) := by (repeat (first | (with_reducible exact Below.refl _ _) | (with_reducible assumption) | (with_reducible refine below_alloc ?_ _) | (with_reducible refine below_drew ?_) | (with_reducible refine below_drewN ?_ _) | (with_reducible refine below_step ?_ (by with_reducible assumption))))
    have hz2 := Blk.made w (madeCells #[.int .i64 0] len) 3
    clear hbig
    go_enter Try.func15, Try.ntmps15
    go_wp2_with fail
    generalize w.alloc (.cells (madeCells #[.int .i64 0] len) 3) = w2 at *
    rw [madeInts, ← upTo_zero (frF m)] at hz2
    clear hmk d1 d2
    go_loopw [4, 5, 14] (fun _ _ i wr => ∃ k : Nat, k ≤ len ∧ i = .int .i64 k ∧ Below w.heap.size w wr ∧ Blk wr w.heap.size ((upTo (frF m) 0 len k).map (Value.int .i64)).toArray 3) (fun _ _ i _ => len - (intOf i).toNat)
    case atStart => exact ⟨0, Nat.zero_le _, rfl, hb2, hz2⟩
    case round =>
      clear hz2 hb2
      obtain ⟨k, hk, rfl, hbr, hz⟩ := hrel
      have t1 : (0 : Int) ≤ (k : Int) := by omega
      by_cases hlt : k < len
      · have hra := HR.out.later hbr
        obtain ⟨b, off, rfl, hc⟩ := hra.2.2 (by omega)
        have hck := hc k hlt
        have t2 : (k : Int) < (len : Int) := by omega
        have HZ := Lib.hid hz
        have hci := cellAt_of (iblk_cell hz (k := k) (by rw [upTo_length]; exact hlt))
        have hfi := hz.free k
        have HU := Lib.hid (upTo_set (frF m) 0 len k)
        have HFR : Hid (frF m k = lmake ((k : Int) + 1) (m.getD k false)) := Lib.hid rfl
        clear hra hc hz
        generalize m.getD k false = tv at *
        go_wp2_with (go_at_call 33; refine (lit_Make _ _ _).mono ?_; rintro e w' ⟨rfl, rfl⟩)
        go_roundw
        case rel =>
          refine ⟨k + 1, by omega, by go_num, below_set hbr (Nat.le_refl _) _ _, ?_⟩
          have := iblk_set HZ.out k (frF m k)
          rw [HU.out, HFR.out] at this
          exact this
        case measure => simp [intOf]; omega
      · have hkn : k = len := by omega
        subst hkn
        have hown := iblk_own (B := w.heap.size) hz (Nat.le_refl _) (by rw [upTo_length]; unfold maxLen; omega)
        rw [upTo_length] at hown
        have HO := Lib.hid hown
        clear hz hown
        go_wp2_with fail
        go_ret
        exact ⟨_, rfl, by rw [HA.out]; exact HO.out, hbr⟩
end Go.Proofs.Ytdladbfjgkejiaa
namespace Go.Proofs.Ytdladbfjgkejiaa
open Go.RowKit
set_option linter.unusedVariables false
set_option linter.unusedSimpArgs false

theorem lindex_ge (x : Int) : decide (0 ≤ lindex x) = decide (lvar x ≠ 0) := by
  rw [Bool.eq_iff_iff, decide_eq_true_eq, decide_eq_true_eq]
  have hb := lvar_bd x
  unfold lindex
  by_cases h : lvar x = 0
  · rw [if_pos h]; omega
  · rw [if_neg h]; split <;> omega
theorem aCl_snoc (l c : List Int) (x : Int) : aCl l (c ++ [x]) = if lvar x ≠ 0 ∧ aCl l c < aVal l x then aVal l x else aCl l c := by
  unfold aCl
  rw [aN_snoc, aN_snoc]
  have i1 : aIs l 1 x = decide (lvar x ≠ 0 ∧ aVal l x = 1) := rfl
  have i3 : aIs l 0 x = decide (lvar x ≠ 0 ∧ aVal l x = 0) := rfl
  generalize aN l c 1 = h at *
  generalize aN l c 0 = o at *
  rcases aVal_cases l x with ⟨p, k2⟩ | ⟨p, ⟨_, k2⟩ | ⟨_, _, k2⟩ | ⟨_, _, k2⟩⟩
  all_goals
    rw [k2] at i1 i3 ⊢
    simp [p] at i1 i3
    rw [i1, i3]
    simp [p] <;> (by_cases h1 : 0 < h <;> by_cases h2 : 0 < o <;> simp [h1, h2] <;> omega)
theorem aCl_in (l c : List Int) : -1 ≤ aCl l c ∧ aCl l c ≤ 1 := by unfold aCl; repeat' split <;> omega
set_option maxRecDepth 100000 in
set_option maxHeartbeats 1000000 in
theorem ref_Clause03 (a : Option Addr) (len cap : Nat) (l : List Int) (a2 : Option Addr) (m cap2 : Nat) (c : List Int) (w : World) (hr : IntRow w a len l) (hr2 : IntRow w a2 m c) :
    Calls Try.prog 30 #[.slice a len cap, .slice a2 m cap2] w fun e w' => e = .returned (.int .i64 (aCl l c)) ∧ w = w' := by
  have hm2 := hr2.2.1; unfold maxLen at hm2
  have HL2 := Lib.hid hr2.1
  have HR2 := Lib.hid hr2
  have H0 : Hid (aCl l (c.take 0) = -1) := Lib.hid rfl
  clear hr2
  go_enter Try.func30, Try.ntmps30
  go_wp2_with fail
  go_loop [5, 6] (fun b i => ∃ k : Nat, k ≤ m ∧ i = .int .i64 k ∧ b = .int .i64 (aCl l (c.take k))) (fun _ i => m - (intOf i).toNat)
  case atStart => exact ⟨0, Nat.zero_le _, rfl, by rw [H0.out]⟩
  case round =>
    obtain ⟨k, hk, rfl, rfl⟩ := hrel
    have t1 : (0 : Int) ≤ (k : Int) := by omega
    by_cases hlt : k < m
    · obtain ⟨b, off, rfl, hc⟩ := HR2.out.2.2 (by omega)
      have hck := hc k hlt
      have t2 : (k : Int) < (m : Int) := by omega
      have hst := aCl_snoc l (c.take k) (c.getD k 0)
      rw [← take_snoc c k (by rw [HL2.out]; exact hlt)] at hst
      have hin := aCl_in l (c.take k)
      clear hc
      generalize c.getD k 0 = x at *
      generalize aCl l (c.take k) = q at *
      generalize hq2 : aCl l (c.take (k + 1)) = q2 at *
      have HQ2 := Lib.hid hq2
      clear hq2
      by_cases hx : lvar x ≠ 0 ∧ q < aVal l x
      · rw [if_pos hx] at hst
        have g1 : decide (0 ≤ lindex x) = true := by rw [lindex_ge]; exact decide_eq_true hx.1
        have g2 : decide (q < aVal l x) = true := decide_eq_true hx.2
        have HST := Lib.hid hst
        clear hst hx
        go_wp2_with (first | (go_at_call 48; refine (ref_Index _ _).mono ?_; rintro e w' ⟨rfl, rfl⟩) | (go_at_call 49; refine (ref_Value03 _ _ _ _ _ _ hr).mono ?_; rintro e w' ⟨rfl, rfl⟩))
        go_round
        case rel => exact ⟨k + 1, by omega, by go_num, by rw [HQ2.out, HST.out]⟩
        case measure => simp [intOf]; omega
      · rw [if_neg hx] at hst
        have hd : (decide (0 ≤ lindex x) = false) ∨ (decide (0 ≤ lindex x) = true ∧ decide (q < aVal l x) = false) := by
          rw [lindex_ge]
          by_cases h0 : lvar x ≠ 0
          · exact Or.inr ⟨decide_eq_true h0, decide_eq_false (fun h => hx ⟨h0, h⟩)⟩
          · exact Or.inl (decide_eq_false h0)
        have HST := Lib.hid hst
        clear hst hx
        rcases hd with g1 | ⟨g1, g2⟩
        all_goals
          go_wp2_with (first | (go_at_call 48; refine (ref_Index _ _).mono ?_; rintro e w' ⟨rfl, rfl⟩) | (go_at_call 49; refine (ref_Value03 _ _ _ _ _ _ hr).mono ?_; rintro e w' ⟨rfl, rfl⟩))
          go_round
          case rel => exact ⟨k + 1, by omega, by go_num, by rw [HQ2.out, HST.out]⟩
          case measure => simp [intOf]; omega
    · have hkm : k = m := by omega
      subst hkm
      have HT : Hid (c.take k = c) := Lib.hid (List.take_of_length_le (by rw [HL2.out]; exact Nat.le_refl _))
      rw [HT.out]
      go_wp2_with fail
      go_ret
      exact ⟨rfl, rfl⟩

/-- The last open literal of the first k. -/
def opn (l c : List Int) (k : Nat) : Int := if ∃ j, j < k ∧ aIs l 0 (c.getD j 0) = true then aUnit l c else 0
end Go.Proofs.Ytdladbfjgkejiaa
namespace Go.Proofs.Ytdladbfjgkejiaa
open Go.RowKit
set_option linter.unusedVariables false
set_option linter.unusedSimpArgs false

set_option maxRecDepth 100000 in
theorem cnf_Holds (vars : Int) (a : Option Addr) (len cap : Nat) (xss : List (List Int)) (ma : Option Addr) (ml mc : Nat) (m : List Bool) (w : World) (hr : Rows2 w a len xss) (hm : BoolRow w ma ml m) :
    Calls Try.prog 10 #[.agg #[.int .i64 vars, .slice a len cap], .slice ma ml mc] w fun e w' => e = .returned (.bool (fHolds vars m xss)) ∧ Below w.heap.size w w' := by
  have HML := Lib.hid hm.1
  have hb1 : Below w.heap.size w (w.alloc (.cells #[.int .i64 vars, .slice a len cap] 24)) := below_alloc (Below.refl _ _) _; have hc1 := Blk.made w #[.int .i64 vars, .slice a len cap] 24; generalize hw1 : w.alloc (.cells #[.int .i64 vars, .slice a len cap] 24) = w1 at *; have HW1 := Lib.hid hw1; have e0 := hc1.cell 0; have e1 := hc1.cell 1; simp only [List.getElem?_toArray, List.getElem?_cons_zero, List.getElem?_cons_succ] at e0 e1; clear hw1 hc1
  have HCON := Lib.hid (cnf_First vars a len cap xss ma ml mc m w1 (hr.later hb1) (hm.later hb1))
  clear hr hm
  by_cases h : (ml : Int) = vars
  · have d1 : ((ml : Int) == vars) = true := by simpa using h
    have HV : Hid (fHolds vars m xss = decide (fFirst m xss = -1)) := Lib.hid (by unfold fHolds; rw [HML.out, decide_eq_true h, Bool.true_and])
    clear h
    generalize fFirst m xss = F at *
    have HD : Hid ((F == -1) = decide (F = -1)) := Lib.hid (by rw [Bool.eq_iff_iff]; simp)
    go_enter Try.func10, Try.ntmps10
    go_wp2_with fail
    try rw [HW1.out]
    refine HCON.out.mono ?_
    rintro e w2 ⟨rfl, hb2⟩
    go_wp2_with fail
    go_ret
    exact ⟨ret_bool (by rw [HV.out, ← HD.out]), below_step hb1 hb2⟩
  · have d1 : ((ml : Int) == vars) = false := by simpa using h
    have HV : Hid (fHolds vars m xss = false) := Lib.hid (by unfold fHolds; rw [HML.out, decide_eq_false h, Bool.false_and])
    clear h
    go_enter Try.func10, Try.ntmps10
    go_wp2_with fail
    try rw [HW1.out]
    go_ret
    exact ⟨ret_bool HV.out.symm, hb1⟩
set_option maxRecDepth 100000 in
theorem ref_First04 (vars : Int) (a : Option Addr) (len cap : Nat) (xss : List (List Int)) (ma : Option Addr) (ml mc : Nat) (m : List Bool) (w : World) (hr : Rows2 w a len xss) (hm : BoolRow w ma ml m) :
    Calls Try.prog 9 #[.agg #[.int .i64 vars, .slice a len cap], .slice ma ml mc] w fun e w' => e = .returned (.int .i64 (fFirst m xss)) ∧ Below w.heap.size w w' := by
  have hmx := hr.2.1; unfold maxLen at hmx
  have HL := Lib.hid hr.1
  have hb1 : Below w.heap.size w (w.alloc (.cells #[.int .i64 vars, .slice a len cap] 24)) := below_alloc (Below.refl _ _) _; have hc1 := Blk.made w #[.int .i64 vars, .slice a len cap] 24; generalize hw1 : w.alloc (.cells #[.int .i64 vars, .slice a len cap] 24) = w1 at *; have HW1 := Lib.hid hw1; have e0 := hc1.cell 0; have e1 := hc1.cell 1; simp only [List.getElem?_toArray, List.getElem?_cons_zero, List.getElem?_cons_succ] at e0 e1; clear hw1 hc1
  have HR := Lib.hid (hr.later hb1); have HM := Lib.hid (hm.later hb1)
  clear hr hm
  go_enter Try.func9, Try.ntmps9
  go_wp2_with fail
  rw [HW1.out]
  go_loop [5] (fun i => ∃ k : Nat, k ≤ len ∧ i = .int .i64 k ∧ ∀ j, j < k → (!holdsC m (xss.getD j [])) = false) (fun i => len - (intOf i).toNat)
  case atStart => exact ⟨0, Nat.zero_le _, rfl, fun j hj => by omega⟩
  case round =>
    obtain ⟨k, hk, rfl, hno⟩ := hrel
    have HNO := Lib.hid hno
    clear hno
    have t1 : (0 : Int) ≤ (k : Int) := by omega
    by_cases hlt : k < len
    · obtain ⟨b, off, u, rfl, hck, ac, lc, cc, rfl, _, _, hrc⟩ := HR.out.2.2 k hlt
      have t2 : (k : Int) < (len : Int) := by omega
      have HF : Hid ((!holdsC m (xss.getD k [])) = true → fFirst m xss = (k : Int)) := Lib.hid (fun h => fFind_at (d := []) (by rw [HL.out]; exact hlt) HNO.out h)
      have HE : Hid ((!holdsC m (xss.getD k [])) = false → ∀ j, j < k + 1 → (!holdsC m (xss.getD j [])) = false) := Lib.hid (fun h j hj => by
        rcases Nat.lt_or_ge j k with h1 | h1
        · exact HNO.out j h1
        · rw [show j = k by omega]; exact h)
      have HCL := Lib.hid (ref_Holds ac lc cc _ ma ml mc m w1 hrc HM.out)
      clear hrc
      generalize xss.getD k [] = z at *
      go_wp2_with fail
      refine HCL.out.mono ?_
      rintro e wq ⟨rfl, hq⟩
      obtain rfl := hq
      cases hp : holdsC m z
      · have HP := Lib.hid (HF.out (by rw [hp]; rfl))
        clear hp
        go_wp2_with fail
        go_ret
        exact ⟨ret_int HP.out.symm, hb1⟩
      · have HP := Lib.hid (HE.out (by rw [hp]; rfl))
        clear hp
        go_wp2_with fail
        go_round
        case rel => exact ⟨k + 1, by omega, by go_num, HP.out⟩
        case measure => simp [intOf]; omega
    · have hkn : k = len := by omega
      subst hkn
      have HE : Hid (fFirst m xss = -1) := Lib.hid (fFind_none (fFind_no (d := []) (by rw [HL.out]; exact HNO.out)))
      go_wp2_with fail
      go_ret
      exact ⟨ret_int HE.out.symm, hb1⟩
set_option maxRecDepth 100000 in
theorem ref_Holds04 (vars : Int) (a : Option Addr) (len cap : Nat) (xss : List (List Int)) (ma : Option Addr) (ml mc : Nat) (m : List Bool) (w : World) (hr : Rows2 w a len xss) (hm : BoolRow w ma ml m) :
    Calls Try.prog 11 #[.agg #[.int .i64 vars, .slice a len cap], .slice ma ml mc] w fun e w' => e = .returned (.bool (fHolds vars m xss)) ∧ Below w.heap.size w w' := by
  have HML := Lib.hid hm.1
  have hb1 : Below w.heap.size w (w.alloc (.cells #[.int .i64 vars, .slice a len cap] 24)) := below_alloc (Below.refl _ _) _; have hc1 := Blk.made w #[.int .i64 vars, .slice a len cap] 24; generalize hw1 : w.alloc (.cells #[.int .i64 vars, .slice a len cap] 24) = w1 at *; have HW1 := Lib.hid hw1; have e0 := hc1.cell 0; have e1 := hc1.cell 1; simp only [List.getElem?_toArray, List.getElem?_cons_zero, List.getElem?_cons_succ] at e0 e1; clear hw1 hc1
  have HCON := Lib.hid (ref_First04 vars a len cap xss ma ml mc m w1 (hr.later hb1) (hm.later hb1))
  clear hr hm
  by_cases h : (ml : Int) = vars
  · have d1 : ((ml : Int) == vars) = true := by simpa using h
    have HV : Hid (fHolds vars m xss = decide (fFirst m xss = -1)) := Lib.hid (by unfold fHolds; rw [HML.out, decide_eq_true h, Bool.true_and])
    clear h
    generalize fFirst m xss = F at *
    have HD : Hid ((F == -1) = decide (F = -1)) := Lib.hid (by rw [Bool.eq_iff_iff]; simp)
    go_enter Try.func11, Try.ntmps11
    go_wp2_with fail
    try rw [HW1.out]
    refine HCON.out.mono ?_
    rintro e w2 ⟨rfl, hb2⟩
    go_wp2_with fail
    go_ret
    exact ⟨ret_bool (by rw [HV.out, ← HD.out]), below_step hb1 hb2⟩
  · have d1 : ((ml : Int) == vars) = false := by simpa using h
    have HV : Hid (fHolds vars m xss = false) := Lib.hid (by unfold fHolds; rw [HML.out, decide_eq_false h, Bool.false_and])
    clear h
    go_enter Try.func11, Try.ntmps11
    go_wp2_with fail
    try rw [HW1.out]
    go_ret
    exact ⟨ret_bool HV.out.symm, hb1⟩
def fFew (xss : List (List Int)) : Bool := decide (xss.length ≤ 200) && xss.all fun c => decide (c.length ≤ 50)
set_option maxRecDepth 100000 in
theorem law_Few (vars : Int) (a : Option Addr) (len cap : Nat) (xss : List (List Int)) (w : World) (hr : Rows2 w a len xss) :
    Calls Try.prog 6 #[.agg #[.int .i64 vars, .slice a len cap]] w fun e w' => e = .returned (.bool (fFew xss)) ∧ Below w.heap.size w w' := by
  have hmx := hr.2.1; unfold maxLen at hmx
  have HL := Lib.hid hr.1
  have hb1 : Below w.heap.size w (w.alloc (.cells #[.int .i64 vars, .slice a len cap] 24)) := below_alloc (Below.refl _ _) _; have hc1 := Blk.made w #[.int .i64 vars, .slice a len cap] 24; generalize hw1 : w.alloc (.cells #[.int .i64 vars, .slice a len cap] 24) = w1 at *; have HW1 := Lib.hid hw1; have e0 := hc1.cell 0; have e1 := hc1.cell 1; simp only [List.getElem?_toArray, List.getElem?_cons_zero, List.getElem?_cons_succ] at e0 e1; clear hw1 hc1
  have HR := Lib.hid (hr.later hb1)
  clear hr
  by_cases hbig : 200 < len
  · have HV : Hid (fFew xss = false) := Lib.hid (by unfold fFew; rw [HL.out, decide_eq_false (by omega)]; rfl)
    have d1 : decide (200 < (len : Int)) = true := decide_eq_true (by omega)
    have d2 : decide (200 < len) = true := decide_eq_true hbig
    clear hbig
    go_enter Try.func6, Try.ntmps6
    go_wp2_with fail
    try rw [HW1.out]
    go_ret
    exact ⟨ret_bool HV.out.symm, hb1⟩
  · have HV : Hid (fFew xss = xss.all fun c => decide (c.length ≤ 50)) := Lib.hid (by unfold fFew; rw [HL.out, decide_eq_true (by omega)]; rfl)
    have d1 : decide (200 < (len : Int)) = false := decide_eq_false (by omega)
    have d2 : decide (200 < len) = false := decide_eq_false hbig
    have hlen : len ≤ 200 := by omega
    clear hbig
    go_enter Try.func6, Try.ntmps6
    go_wp2_with fail
    try rw [HW1.out]
    clear d1 d2
    go_loop [3] (fun i => ∃ k : Nat, k ≤ len ∧ i = .int .i64 k ∧ ∀ j, j < k → (xss.getD j []).length ≤ 50) (fun i => len - (intOf i).toNat)
    case atStart => exact ⟨0, Nat.zero_le _, rfl, fun j hj => by omega⟩
    case round =>
      obtain ⟨k, hk, rfl, hno⟩ := hrel
      have HNO := Lib.hid hno
      clear hno
      have t1 : (0 : Int) ≤ (k : Int) := by omega
      by_cases hlt : k < len
      · obtain ⟨b, off, u, rfl, hck, ac, lc, cc, rfl, _, _, hrc⟩ := HR.out.2.2 k hlt
        have t2 : (k : Int) < (len : Int) := by omega
        have HCLN := Lib.hid hrc.1
        have HMEM := Lib.hid (at_memR HL.out hlt)
        clear hrc
        by_cases h50 : 50 < lc
        · have d3 : decide (50 < (lc : Int)) = true := decide_eq_true (by omega)
          have d4 : decide (50 < lc) = true := decide_eq_true h50
          have HF : Hid (fFew xss = false) := Lib.hid (by
            rw [HV.out, List.all_eq_false]
            exact ⟨_, HMEM.out, by rw [HCLN.out]; simp; omega⟩)
          clear h50
          go_wp2_with fail
          go_ret
          exact ⟨ret_bool HF.out.symm, hb1⟩
        · have d3 : decide (50 < (lc : Int)) = false := decide_eq_false (by omega)
          have d4 : decide (50 < lc) = false := decide_eq_false h50
          have HE : Hid (∀ j, j < k + 1 → (xss.getD j []).length ≤ 50) := Lib.hid (fun j hj => by
            rcases Nat.lt_or_ge j k with h1 | h1
            · exact HNO.out j h1
            · rw [show j = k by omega, HCLN.out]; omega)
          clear h50
          go_wp2_with fail
          go_round
          case rel => exact ⟨k + 1, by omega, by go_num, HE.out⟩
          case measure => simp [intOf]; omega
      · have hkn : k = len := by omega
        subst hkn
        have HE : Hid (fFew xss = true) := Lib.hid (by
          rw [HV.out, List.all_eq_true]
          intro c hc
          obtain ⟨j, hj, rfl⟩ := List.mem_iff_getElem.1 hc
          have := HNO.out j (by rw [← HL.out]; exact hj)
          rw [show xss.getD j [] = xss[j] by simp [List.getD, hj]] at this
          exact decide_eq_true this)
        go_wp2_with fail
        go_ret
        exact ⟨ret_bool HE.out.symm, hb1⟩
end Go.Proofs.Ytdladbfjgkejiaa
