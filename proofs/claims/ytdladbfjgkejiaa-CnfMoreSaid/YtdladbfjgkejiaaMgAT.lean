import Derived.Test.YtdladbfjgkejiaaMgAR
import Derived.Test.YtdladbfjgkejiaaMgAQ
import Derived.Test.YtdladbfjgkejiaaMgAS
import Derived.Laws.Cover3
import Derived.Test.YtdladbfjgkejiaaMgAH
namespace Go.Proofs.Ytdladbfjgkejiaa
open Go.RowKit
set_option linter.unusedVariables false
set_option linter.unusedSimpArgs false

def litsIn (c : List Int) : Nat := (c.filter fun x => decide (lvar x ≠ 0)).length
def fSize (xss : List (List Int)) : Nat := (xss.map litsIn).sum
theorem litsIn_snoc (c : List Int) (x : Int) : litsIn (c ++ [x]) = litsIn c + if lvar x = 0 then 0 else 1 := by
  unfold litsIn
  rw [List.filter_append, List.filter_cons, List.filter_nil, List.length_append]
  by_cases h : lvar x = 0 <;> simp [h]
theorem fSize_snoc (xss : List (List Int)) (c : List Int) : fSize (xss ++ [c]) = fSize xss + litsIn c := by unfold fSize; simp
set_option maxRecDepth 100000 in
set_option maxHeartbeats 1000000 in
theorem cnf_Size (vars : Int) (a : Option Addr) (len cap : Nat) (xss : List (List Int)) (w : World) (hr : Rows2 w a len xss) (hlen : len ≤ 1000000) (hs : ShortR xss 100000) :
    Calls Try.prog 21 #[.agg #[.int .i64 vars, .slice a len cap]] w fun e w' => e = .returned (.int .i64 (fSize xss : Int)) ∧ Below w.heap.size w w' := by
  have HL := Lib.hid hr.1
  have HS := Lib.hid hs
  have hb1 : Below w.heap.size w (w.alloc (.cells #[.int .i64 vars, .slice a len cap] 24)) := below_alloc (Below.refl _ _) _
  have hc1 := Blk.made w #[.int .i64 vars, .slice a len cap] 24
  generalize hw1 : w.alloc (.cells #[.int .i64 vars, .slice a len cap] 24) = w1 at *
  have HW1 := Lib.hid hw1
  have e1 := hc1.cell 1
  simp only [List.getElem?_toArray, List.getElem?_cons_zero, List.getElem?_cons_succ] at e1
  clear hw1 hc1
  have HR := Lib.hid (hr.later hb1)
  clear hr hs
  go_enter Try.func21, Try.ntmps21
  go_wp2_with fail
  rw [HW1.out]
  clear e1
  go_loop [3, 5, 7, 11] (fun s _ _ i => ∃ k : Nat, k ≤ len ∧ i = .int .i64 k ∧ ∃ n : Nat, n ≤ k * 100000 ∧ fSize (xss.take k) = n ∧ s = .int .i64 n) (fun _ _ _ i => len - (intOf i).toNat)
  case atStart => exact ⟨0, Nat.zero_le _, rfl, 0, Nat.zero_le _, by rw [List.take_zero]; rfl, rfl⟩
  case round =>
    obtain ⟨k, hk, rfl, n, hn, hcn, rfl⟩ := hrel
    have HCN := Lib.hid hcn
    clear hcn
    have t1 : (0 : Int) ≤ (k : Int) := by omega
    by_cases hlt : k < len
    · obtain ⟨b, off, u, rfl, hck, ac, lc, cc, rfl, _, _, hrc⟩ := HR.out.2.2 k hlt
      have t2 : (k : Int) < (len : Int) := by omega
      have HT := Lib.hid (take_snocR xss k (by rw [HL.out]; exact hlt))
      have hlc : lc ≤ 100000 := by rw [← hrc.1]; exact HS.out _ (at_memR HL.out hlt)
      have HRC := Lib.hid hrc
      have HLC := Lib.hid hrc.1
      have hmc := hrc.2.1; unfold maxLen at hmc
      clear hrc
      generalize xss.getD k [] = z at *
      have HNM : Hid (n ≤ k * 100000 + 0) := Lib.hid (Nat.le_trans hn (Nat.le_add_right _ _))
      have HZ0 : Hid (n + litsIn (z.take 0) = n) := Lib.hid (by rw [List.take_zero]; rfl)
      go_wp2_with fail
      clear hck
      go_loop [3, 7, 17] (fun s _ i => ∃ j : Nat, j ≤ lc ∧ i = .int .i64 j ∧ ∃ n2 : Nat, n2 ≤ k * 100000 + j ∧ n + litsIn (z.take j) = n2 ∧ s = .int .i64 n2) (fun _ _ i => lc - (intOf i).toNat)
      case atStart => exact ⟨0, Nat.zero_le _, rfl, n, HNM.out, HZ0.out, rfl⟩
      case round =>
        obtain ⟨j, hj, rfl, n2, hn2, hcn2, rfl⟩ := hrel
        have HCN2 := Lib.hid hcn2
        clear hcn2
        have t3 : (0 : Int) ≤ (j : Int) := by omega
        by_cases hlt2 : j < lc
        · obtain ⟨b2, off2, rfl, hcells⟩ := HRC.out.2.2 (by omega)
          have hcj := hcells j hlt2
          have t4 : (j : Int) < (lc : Int) := by omega
          have hst := litsIn_snoc (z.take j) (z.getD j 0)
          rw [← take_snocI z HLC.out hlt2] at hst
          have HST := Lib.hid hst
          clear hcells hst
          generalize z.getD j 0 = x at *
          by_cases he : lvar x = 0
          · have d1 : (lvar x != 0) = false := by simpa using he
            have HN3 : Hid (n + litsIn (z.take (j + 1)) = n2) := Lib.hid (by have h1 := HST.out; have h2 := HCN2.out; rw [if_pos he] at h1; omega)
            clear he
            go_wp2_with (go_at_call 24; refine (lit_Var _ _).mono ?_; rintro e wq ⟨rfl, hq⟩; obtain rfl := hq.symm)
            go_round
            case rel => exact ⟨j + 1, by omega, by go_num, n2, by omega, HN3.out, rfl⟩
            case measure => simp [intOf]; omega
          · have d1 : (lvar x != 0) = true := by simpa using he
            have HN3 : Hid (n + litsIn (z.take (j + 1)) = n2 + 1) := Lib.hid (by have h1 := HST.out; have h2 := HCN2.out; rw [if_neg he] at h1; omega)
            have hb3 : n2 ≤ 200000000000 := by omega
            clear he
            go_wp2_with (go_at_call 24; refine (lit_Var _ _).mono ?_; rintro e wq ⟨rfl, hq⟩; obtain rfl := hq.symm)
            go_round
            case rel => exact ⟨j + 1, by omega, by go_num, n2 + 1, by omega, HN3.out, by go_num⟩
            case measure => simp [intOf]; omega
        · have hjl : j = lc := by omega
          subst hjl
          have hTZ : z.take j = z := List.take_of_length_le (by rw [HLC.out]; exact Nat.le_refl _)
          have HN3 : Hid (fSize (xss.take (k + 1)) = n2) := Lib.hid (by rw [HT.out, fSize_snoc, HCN.out, ← HCN2.out, hTZ])
          clear hTZ
          go_wp2_with fail
          go_round
          case rel => exact ⟨k + 1, by omega, by go_num, n2, by omega, HN3.out, rfl⟩
          case measure => simp [intOf]; omega
    · have hkn : k = len := by omega
      subst hkn
      have hTK : xss.take k = xss := List.take_of_length_le (by rw [HL.out]; exact Nat.le_refl _)
      have HA2 : Hid (fSize xss = n) := Lib.hid (by rw [← hTK, HCN.out])
      clear hTK
      go_wp2_with fail
      go_ret
      exact ⟨ret_int (by rw [HA2.out]), hb1⟩
end Go.Proofs.Ytdladbfjgkejiaa
namespace Go.Proofs.Ytdladbfjgkejiaa
open Go.RowKit
set_option linter.unusedVariables false
set_option linter.unusedSimpArgs false

def stAll (l : List Int) (xss : List (List Int)) : Bool := xss.all fun c => decide (aCl l c = 1)
def stNone (l : List Int) (xss : List (List Int)) : Bool := xss.all fun c => decide (aCl l c ≠ -1)
theorem stAll_snoc (l : List Int) (xss : List (List Int)) (c : List Int) : stAll l (xss ++ [c]) = (stAll l xss && decide (aCl l c = 1)) := by unfold stAll; rw [List.all_append]; simp
theorem stNone_snoc (l : List Int) (xss : List (List Int)) (c : List Int) : stNone l (xss ++ [c]) = (stNone l xss && decide (aCl l c ≠ -1)) := by unfold stNone; rw [List.all_append]; simp
theorem fStat_flags (l : List Int) (xss : List (List Int)) : fStat l xss = if stNone l xss = false then -1 else if stAll l xss = true then 1 else 0 := by
  unfold fStat
  have h : xss.any (fun c => decide (aCl l c = -1)) = !stNone l xss := by
    unfold stNone
    induction xss with
    | nil => rfl
    | cons c cs ih => rw [List.any_cons, List.all_cons, ih, decide_not, Bool.not_and, Bool.not_not]
  rw [h]
  cases stNone l xss
  · simp
  · unfold stAll; simp
set_option maxRecDepth 100000 in
set_option maxHeartbeats 1000000 in
theorem ref_Status04 (vars : Int) (a : Option Addr) (len cap : Nat) (xss : List (List Int)) (la : Option Addr) (ll lc : Nat) (l : List Int) (w : World) (hr : Rows2 w a len xss) (hl : IntRow w la ll l) :
    Calls Try.prog 13 #[.agg #[.int .i64 vars, .slice a len cap], .slice la ll lc] w fun e w' => e = .returned (.int .i64 (fStat l xss)) ∧ Below w.heap.size w w' := by
  have hmx := hr.2.1; unfold maxLen at hmx
  have HL := Lib.hid hr.1
  have hb1 : Below w.heap.size w (w.alloc (.cells #[.int .i64 vars, .slice a len cap] 24)) := below_alloc (Below.refl _ _) _
  have hc1 := Blk.made w #[.int .i64 vars, .slice a len cap] 24
  generalize hw1 : w.alloc (.cells #[.int .i64 vars, .slice a len cap] 24) = w1 at *
  have HW1 := Lib.hid hw1
  have e1 := hc1.cell 1
  simp only [List.getElem?_toArray, List.getElem?_cons_zero, List.getElem?_cons_succ] at e1
  clear hw1 hc1
  have HR := Lib.hid (hr.later hb1); have HLI := Lib.hid (hl.later hb1)
  clear hr hl
  go_enter Try.func13, Try.ntmps13
  go_wp2_with fail
  rw [HW1.out]
  have H0 : Hid (stAll l (xss.take 0) = true ∧ stNone l (xss.take 0) = true) := Lib.hid ⟨rfl, rfl⟩
  go_loop [5, 6, 7, 8] (fun al nn i _ => ∃ k : Nat, k ≤ len ∧ i = .int .i64 k ∧ (∃ A : Bool, stAll l (xss.take k) = A ∧ al = .bool A) ∧ ∃ N : Bool, stNone l (xss.take k) = N ∧ nn = .bool N) (fun _ _ i _ => len - (intOf i).toNat)
  case atStart => exact ⟨0, Nat.zero_le _, rfl, ⟨true, H0.out.1, rfl⟩, true, H0.out.2, rfl⟩
  case round =>
    obtain ⟨k, hk, rfl, ⟨A, hA, rfl⟩, N, hN, rfl⟩ := hrel
    have HA := Lib.hid hA; have HN := Lib.hid hN
    clear hA hN
    have t1 : (0 : Int) ≤ (k : Int) := by omega
    by_cases hlt : k < len
    · obtain ⟨b, off, u, rfl, hck, ac, lc2, cc, rfl, _, _, hrc⟩ := HR.out.2.2 k hlt
      have t2 : (k : Int) < (len : Int) := by omega
      have HT1 : Hid (stAll l (xss.take (k + 1)) = (A && decide (aCl l (xss.getD k []) = 1))) := Lib.hid (by rw [take_snocR xss k (by rw [HL.out]; exact hlt), stAll_snoc, HA.out])
      have HT2 : Hid (stNone l (xss.take (k + 1)) = (N && decide (aCl l (xss.getD k []) ≠ -1))) := Lib.hid (by rw [take_snocR xss k (by rw [HL.out]; exact hlt), stNone_snoc, HN.out])
      have HVC := Lib.hid (ref_Clause03 la ll lc l ac lc2 cc _ w1 HLI.out hrc)
      have hcas := aCl_cases l (xss.getD k [])
      clear hrc
      generalize xss.getD k [] = z at *
      cases A <;> cases N <;> rcases hcas with h | h | h
      all_goals
        have H := Lib.hid h
        have HT3 := Lib.hid (show stAll l (xss.take (k + 1)) = _ by rw [HT1.out, h])
        have HT4 := Lib.hid (show stNone l (xss.take (k + 1)) = _ by rw [HT2.out, h])
        clear h
        go_wp2_with (go_at_call 30; refine HVC.out.mono ?_; rintro e wq ⟨rfl, hq⟩; obtain rfl := hq; rw [H.out])
        go_round
        case rel => exact ⟨k + 1, by omega, by go_num, ⟨_, HT3.out, rfl⟩, _, HT4.out, rfl⟩
        case measure => simp [intOf]; omega
    · have hkn : k = len := by omega
      subst hkn
      have hTK : xss.take k = xss := List.take_of_length_le (by rw [HL.out]; exact Nat.le_refl _)
      have HV : Hid (fStat l xss = if N = false then -1 else if A = true then 1 else 0) := Lib.hid (by rw [fStat_flags, ← hTK, HA.out, HN.out])
      clear hTK
      cases N
      · go_wp2_with fail
        go_ret
        exact ⟨ret_int HV.out.symm, hb1⟩
      · cases A
        · go_wp2_with fail
          go_ret
          exact ⟨ret_int HV.out.symm, hb1⟩
        · go_wp2_with fail
          go_ret
          exact ⟨ret_int HV.out.symm, hb1⟩
end Go.Proofs.Ytdladbfjgkejiaa
namespace Go.Proofs.Ytdladbfjgkejiaa
open Go.RowKit
set_option linter.unusedVariables false
set_option linter.unusedSimpArgs false
theorem run_eql_slice_nil {P : Program} (w : World) (t e : TypeId) (a : Option Addr) (l c : Nat) (h : P.underlying t = some (.slice e)) : (binOp .eql t (.slice a l c) (.slice none 0 0)).run P w = .ok (.bool a.isNone) w := by
  simp only [binOp]
  simp [run_equal_slice_nil w t e a l c h]
set_option maxRecDepth 100000 in
theorem sl_Clone (a : Option Addr) (len cap : Nat) (xs : List Int) (w : World) (hr : IntRow w a len xs) (hlen : len ≤ 1000000000) :
    Calls Try.prog 34 #[.slice a len cap] w fun e w' => ∃ v, e = .returned v ∧ OwnInts w' w.heap.size v xs ∧ Below w.heap.size w w' := by
  have HL := Lib.hid hr.1
  have HR := Lib.hid hr
  cases a with
  | none =>
    have h0 : len = 0 := by
      rcases Nat.eq_zero_or_pos len with h | h
      · exact h
      · obtain ⟨b, off, h1, _⟩ := hr.2.2 h; cases h1
    have hx : xs = [] := List.length_eq_zero_iff.1 (hr.1.trans h0)
    subst hx
    have heq := fun w => run_eql_slice_nil (P := Try.prog) w 26 3 none len cap Try.underlying26
    clear hr h0
    go_enter Try.func34, Try.ntmps34
    go_wp2_with fail
    go_ret
    exact ⟨_, rfl, OwnInts.nil _ _, Below.refl _ _⟩
  | some ad =>
    have heq := fun w => run_eql_slice_nil (P := Try.prog) w 26 3 (some ad) len cap Try.underlying26
    clear hr
    go_enter Try.func34, Try.ntmps34
    go_wp2_with (at_builtin; refine wpList_app rfl _ _ 26 rfl w.heap.size 3 (.int .i64 0) 1 8 Try.underlying26 info_int rfl (by decide) _ 0 [] rfl (own_built w w.heap.size 3 [] (Nat.le_refl _) (Nat.zero_le _)) (some ad) len cap (xs.map (Value.int .i64)) rfl (fun h => by cases h) (by rw [List.length_map, HL.out]; omega) ((HR.out.later (below_alloc (Below.refl _ _) _)).cells) (one_int · xs) (by unfold maxLen; omega) (by omega) (by rw [World.size_alloc]; omega) ?_)
    intro vw w1 hownw hgw
    have hB1 : Below w.heap.size w w1 := own_bel (below_alloc (Below.refl _ _) _) (own_built w w.heap.size 3 [] (Nat.le_refl _) (Nat.zero_le _)) hgw
    have hOW : OwnInts w1 w.heap.size vw xs := by unfold OwnInts; rw [HL.out]; simpa using hownw
    have HOW := Lib.hid hOW
    clear hownw hgw hOW
    go_wp2_with fail
    go_ret
    exact ⟨_, rfl, HOW.out, hB1⟩
end Go.Proofs.Ytdladbfjgkejiaa
