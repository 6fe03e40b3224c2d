/- The contracts of assign's Model and From, and of their reference. -/
import Derived.Test.YtmaaoijlchfdgaaAsgD
namespace Go.Proofs.Ytmaaoijlchfdgaa
open Go.RowKit
set_option linter.unusedVariables false
set_option linter.unusedSimpArgs false

def mdl (l : List Int) (V : Nat) : List Bool := (List.range V).map fun i : Nat => lhas l ((i : Int) + 1)
theorem mdl_len (l : List Int) (V : Nat) : (mdl l V).length = V := by simp [mdl]
theorem mdl_nil (V : Nat) : mdl [] V = List.replicate V false := by
  apply List.ext_getElem
  · simp [mdl]
  · intro i h1 h2; simp [mdl, lhas]
theorem mdl_set (l : List Int) (V q : Nat) (hq : q < V) : (mdl l V).set q true = mdl (l ++ [(q : Int) + 1]) V := by
  apply List.ext_getElem
  · simp [mdl]
  · intro i h1 h2
    rw [List.getElem_set]
    simp only [mdl, List.getElem_map, List.getElem_range]
    rw [lhas_app]
    have hone : lhas [(q : Int) + 1] ((i : Int) + 1) = decide (q = i) := by unfold lhas; rw [Bool.eq_iff_iff]; simp; omega
    rw [hone]
    by_cases e : q = i <;> simp [e]
theorem mdl_keep (l : List Int) (V : Nat) (x : Int) (hx : x < 1 ∨ (V : Int) < x) : mdl (l ++ [x]) V = mdl l V := by
  apply List.map_congr_left
  intro i hi
  rw [List.mem_range] at hi
  have hone : lhas [x] ((i : Int) + 1) = false := by
    cases h : lhas [x] ((i : Int) + 1)
    · rfl
    · rw [lhas_iff] at h; simp at h; omega
  rw [lhas_app, hone, Bool.or_false]
theorem aModel_eq {l : List Int} {V : Nat} (h : V ≤ 100000) : aModel l V = mdl l V := by unfold aModel mdl; rw [if_neg (by omega), Int.toNat_natCast]

set_option maxRecDepth 100000 in
set_option maxHeartbeats 1000000 in
theorem asg_Model (a : Option Addr) (len cap : Nat) (l : List Int) (vars : Int) (w : World) (hr : IntRow w a len l) : Calls Try.prog 19 #[.slice a len cap, .int .i64 vars] w fun e w' => ∃ v, e = .returned v ∧ OwnBools w' w.heap.size v (aModel l vars) ∧ Below w.heap.size w w' := by
  by_cases hv : vars < 0 ∨ 100000 < vars
  · have HA : Hid (aModel l vars = []) := Lib.hid (by unfold aModel; rw [if_pos hv])
    rcases hv with hv | hv
    · go_enter Try.func19, Try.ntmps19
      go_wp2_with fail
      go_ret
      exact ⟨_, rfl, by rw [HA.out]; exact OwnBools.nil _ _, Below.refl _ _⟩
    · have h2 : ¬ vars < 0 := by omega
      go_enter Try.func19, Try.ntmps19
      go_wp2_with fail
      go_ret
      exact ⟨_, rfl, by rw [HA.out]; exact OwnBools.nil _ _, Below.refl _ _⟩
  · obtain ⟨V, rfl⟩ : ∃ V : Nat, vars = V := ⟨vars.toNat, by omega⟩
    have hV : V ≤ 100000 := by omega
    have hm := hr.2.1; unfold maxLen at hm
    have HR := Lib.hid hr
    have HL := Lib.hid hr.1
    have HAM := Lib.hid (aModel_eq (l := l) hV)
    have d1 : decide ((V : Int) < 0) = false := decide_eq_false (by omega)
    have d2 : decide (100000 < (V : Int)) = false := decide_eq_false (by omega)
    have d3 : (0 : Int) ≤ V := by omega
    have hmk := run_make_row' (P := Try.prog) 34 4 (.bool false) 1 Try.underlying34 info_bool rfl .i64 .i64 V (by omega) (by omega)
    have hb2 : Below w.heap.size w (w.alloc (.cells (madeCells #[.bool false] V) 4)) := by (repeat (first | (with_reducible exact Below.refl _ _) | (with_reducible assumption) | (with_reducible refine below_alloc ?_ _) | (with_reducible refine below_drew ?_) | (with_reducible refine below_drewN ?_ _) | (with_reducible refine below_step ?_ (by with_reducible assumption))))
    have hz2 := Blk.made w (madeCells #[.bool false] V) 4
    clear hv hr
    go_enter Try.func19, Try.ntmps19
    go_wp2_with fail
    generalize w.alloc (.cells (madeCells #[.bool false] V) 4) = w2 at *
    rw [madeBools, ← mdl_nil, ← List.take_zero (l := l)] at hz2
    clear hmk d1 d2
    go_loopw [7, 18] (fun _ i wr => ∃ k : Nat, k ≤ len ∧ i = .int .i64 k ∧ Blk wr w.heap.size ((mdl (l.take k) V).map Value.bool).toArray 4 ∧ Below w.heap.size w wr) (fun _ i _ => len - (intOf i).toNat)
    case atStart => exact ⟨0, Nat.zero_le _, rfl, hz2, hb2⟩
    case round =>
      clear hz2 hb2
      obtain ⟨k, hk, rfl, hz, hbr⟩ := hrel
      have t1 : (0 : Int) ≤ (k : Int) := by omega
      by_cases hlt : k < len
      · have hra := HR.out.later hbr
        obtain ⟨b, off, rfl, hc⟩ := hra.2.2 (by omega)
        have hck := hc k hlt
        have t2 : (k : Int) < (len : Int) := by omega
        have HT : Hid (l.take (k + 1) = l.take k ++ [l.getD k 0]) := Lib.hid (take_snoc l k (by rw [HL.out]; exact hlt))
        have HZ := Lib.hid hz
        clear hra hc hz
        generalize l.getD k 0 = x at *
        by_cases hx : 1 ≤ x ∧ x ≤ V
        · obtain ⟨q, rfl⟩ : ∃ q : Nat, x = (q : Int) + 1 := ⟨(x - 1).toNat, by omega⟩
          have hqV : q < V := by omega
          have d4 : decide (1 ≤ (q : Int) + 1) = true := decide_eq_true (by omega)
          have d5 : decide ((q : Int) + 1 ≤ (V : Int)) = true := decide_eq_true (by omega)
          have hcq := bblk_cell HZ.out (k := q) (by rw [mdl_len]; exact hqV)
          have hfq := HZ.out.free q
          have HCE := Lib.hid hcq
          have hcq2 := cellAt_of hcq
          have HS := Lib.hid (mdl_set (l.take k) V q hqV)
          clear hcq hx
          go_wp2_with fail
          go_roundw
          case rel =>
            refine ⟨k + 1, by omega, by go_num, ?_, below_set hbr (Nat.le_refl _) _ _⟩
            rw [HT.out, ← HS.out]
            exact bblk_set HZ.out q true
          case measure => simp [intOf]; omega
        · have hd : (decide (1 ≤ x) = false) ∨ (decide (1 ≤ x) = true ∧ decide (x ≤ (V : Int)) = false) := by
            simp only [decide_eq_true_eq, decide_eq_false_iff_not]; omega
          have HS := Lib.hid (mdl_keep (l.take k) V x (by omega))
          clear hx
          rcases hd with d4 | ⟨d4, d5⟩
          all_goals
            go_wp2_with fail
            go_roundw
            case rel => exact ⟨k + 1, by omega, by go_num, by rw [HT.out, HS.out]; exact HZ.out, hbr⟩
            case measure => simp [intOf]; omega
      · have hkn : k = len := by omega
        subst hkn
        have HT : Hid (l.take k = l) := Lib.hid (List.take_of_length_le (by rw [HL.out]; exact Nat.le_refl _))
        rw [HT.out] at hz
        have hown := bblk_own (B := w.heap.size) hz (Nat.le_refl _) (by rw [mdl_len]; unfold maxLen; omega)
        rw [mdl_len] at hown
        have HO := Lib.hid hown
        clear hz hown
        go_wp2_with fail
        go_ret
        exact ⟨_, rfl, by rw [HAM.out]; exact HO.out, hbr⟩

def frF (m : List Bool) (i : Nat) : Int := lmake ((i : Int) + 1) (m.getD i false)
theorem aFrom_eq {m : List Bool} (h : m.length ≤ 100000) : aFrom m = (List.range m.length).map (frF m) := by unfold aFrom; rw [if_neg (by omega)]; rfl
set_option maxRecDepth 100000 in
set_option maxHeartbeats 1000000 in
theorem asg_From (a : Option Addr) (len cap : Nat) (m : List Bool) (w : World) (hr : BoolRow w a len m) : Calls Try.prog 22 #[.slice a len cap] w fun e w' => ∃ v, e = .returned v ∧ OwnInts w' w.heap.size v (aFrom m) ∧ Below w.heap.size w w' := by
  have hm := hr.2.1; unfold maxLen at hm
  have HR := Lib.hid hr
  have HL := Lib.hid hr.1
  clear hr
  by_cases hbig : 100000 < len
  · have HA : Hid (aFrom m = []) := Lib.hid (by unfold aFrom; rw [HL.out, if_pos hbig])
    have d1 : decide (100000 < (len : Int)) = true := by simp; omega
    have d2 : decide (100000 < len) = true := by simpa using hbig
    go_enter Try.func22, Try.ntmps22
    go_wp2_with fail
    go_ret
    exact ⟨_, rfl, by rw [HA.out]; exact OwnInts.nil _ _, Below.refl _ _⟩
  · have d1 : decide (100000 < (len : Int)) = false := by simp; omega
    have d2 : decide (100000 < len) = false := by simpa using hbig
    have hlen : len ≤ 100000 := by omega
    have d3 : (0 : Int) ≤ len := by omega
    have HA : Hid (aFrom m = upTo (frF m) 0 len len) := Lib.hid (by rw [upTo_full, aFrom_eq (by rw [HL.out]; exact hlen), HL.out])
    have hmk := run_make_row' (P := Try.prog) 22 3 (.int .i64 0) 8 Try.underlying22 info_int rfl .i64 .i64 len (by omega) (by omega)
    have hb2 : Below w.heap.size w (w.alloc (.cells (madeCells #[.int .i64 0] len) 3)) := by (repeat (first | (with_reducible exact Below.refl _ _) | (with_reducible assumption) | (with_reducible refine below_alloc ?_ _) | (with_reducible refine below_drew ?_) | (with_reducible refine below_drewN ?_ _) | (with_reducible refine below_step ?_ (by with_reducible assumption))))
    have hz2 := Blk.made w (madeCells #[.int .i64 0] len) 3
    clear hbig
    go_enter Try.func22, Try.ntmps22
    go_wp2_with fail
    generalize w.alloc (.cells (madeCells #[.int .i64 0] len) 3) = w2 at *
    rw [madeInts, ← upTo_zero (frF m)] at hz2
    clear hmk d1 d2
    go_loopw [4, 5, 14] (fun _ _ i wr => ∃ k : Nat, k ≤ len ∧ i = .int .i64 k ∧ Below w.heap.size w wr ∧ Blk wr w.heap.size ((upTo (frF m) 0 len k).map (Value.int .i64)).toArray 3) (fun _ _ i _ => len - (intOf i).toNat)
    case atStart => exact ⟨0, Nat.zero_le _, rfl, hb2, hz2⟩
    case round =>
      clear hz2 hb2
      obtain ⟨k, hk, rfl, hbr, hz⟩ := hrel
      have t1 : (0 : Int) ≤ (k : Int) := by omega
      by_cases hlt : k < len
      · have hra := HR.out.later hbr
        obtain ⟨b, off, rfl, hc⟩ := hra.2.2 (by omega)
        have hck := hc k hlt
        have t2 : (k : Int) < (len : Int) := by omega
        have HZ := Lib.hid hz
        have hci := cellAt_of (iblk_cell hz (k := k) (by rw [upTo_length]; exact hlt))
        have hfi := hz.free k
        have HU := Lib.hid (upTo_set (frF m) 0 len k)
        have HFR : Hid (frF m k = lmake ((k : Int) + 1) (m.getD k false)) := Lib.hid rfl
        clear hra hc hz
        generalize m.getD k false = tv at *
        go_wp2_with (go_at_call 34; refine (lit_Make _ _ _).mono ?_; rintro e w' ⟨rfl, rfl⟩)
        go_roundw
        case rel =>
          refine ⟨k + 1, by omega, by go_num, below_set hbr (Nat.le_refl _) _ _, ?_⟩
          have := iblk_set HZ.out k (frF m k)
          rw [HU.out, HFR.out] at this
          exact this
        case measure => simp [intOf]; omega
      · have hkn : k = len := by omega
        subst hkn
        have hown := iblk_own (B := w.heap.size) hz (Nat.le_refl _) (by rw [upTo_length]; unfold maxLen; omega)
        rw [upTo_length] at hown
        have HO := Lib.hid hown
        clear hz hown
        go_wp2_with fail
        go_ret
        exact ⟨_, rfl, by rw [HA.out]; exact HO.out, hbr⟩
end Go.Proofs.Ytmaaoijlchfdgaa
