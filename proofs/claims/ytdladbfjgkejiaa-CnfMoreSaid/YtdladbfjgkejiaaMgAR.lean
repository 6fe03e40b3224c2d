import Derived.Laws.ComplexArith
import Derived.Laws.Cover3
import Derived.Test.YtdladbfjgkejiaaMgAI
import Derived.Test.YtdladbfjgkejiaaMgAQ
import Derived.Test.YtdladbfjgkejiaaMgAL
import Derived.Test.YtdladbfjgkejiaaMgAA
namespace Go.Proofs.Ytdladbfjgkejiaa
open Go.RowKit
set_option linter.unusedVariables false
set_option linter.unusedSimpArgs false

theorem fb_one : fb 1 = 4607182418800017408 := by decide +kernel
def cplx (n m : Nat) : Value := .complex .f64 (fb n) (fb m)
theorem cplx_zero : Value.complex .f64 0 0 = cplx 0 0 := by unfold cplx; rw [fb_zero]
theorem run_cplx_add {P : Program} (t : TypeId) (n m p q : Nat) (h1 : n + p < 9007199254740992) (h2 : m + q < 9007199254740992) (w : World) : (binOp .add t (cplx n m) (cplx p q)).run P w = .ok (cplx (n + p) (m + q)) w :=
  run_complex_sum w .add (Or.inl rfl) t .f64 _ _ _ _ _ _ (by unfold cSumBits; rw [fb_add n p h1, fb_add m q h2]; rfl)
theorem run_real_cplx {P : Program} (ts : Array TypeId) (t : TypeId) (n m : Nat) (w : World) : (Builtin.real_ ts t #[cplx n m]).run P w = .ok (.float .f64 (fb n)) w := rfl
theorem run_imag_cplx {P : Program} (ts : Array TypeId) (t : TypeId) (n m : Nat) (w : World) : (Builtin.imag_ ts t #[cplx n m]).run P w = .ok (.float .f64 (fb m)) w := rfl
def pos1 (x : Int) : Nat := if 0 < x then 1 else 0
def neg1 (x : Int) : Nat := if 0 < x then 0 else 1
set_option maxRecDepth 100000 in
theorem cnf_sides (x : Int) (w : World) : Calls Try.prog 36 #[.int .i64 x] w fun e w' => e = .returned (cplx (pos1 x) (neg1 x)) ∧ w = w' := by
  by_cases h : 0 < x
  · have d1 : decide (0 < x) = true := decide_eq_true h
    have HV : Hid (cplx (pos1 x) (neg1 x) = .complex .f64 4607182418800017408 0) := Lib.hid (by unfold cplx pos1 neg1; rw [if_pos h, if_pos h, fb_one, fb_zero])
    clear h
    go_enter Try.func36, Try.ntmps36
    go_wp2_with fail
    go_ret
    exact ⟨by rw [HV.out]; rfl, rfl⟩
  · have d1 : decide (0 < x) = false := decide_eq_false h
    have HV : Hid (cplx (pos1 x) (neg1 x) = .complex .f64 0 4607182418800017408) := Lib.hid (by unfold cplx pos1 neg1; rw [if_neg h, if_neg h, fb_one, fb_zero])
    clear h
    go_enter Try.func36, Try.ntmps36
    go_wp2_with fail
    go_ret
    exact ⟨by rw [HV.out]; rfl, rfl⟩
/-- How often a number stands in a row; in rows. -/
def cntIn (l : Int) (c : List Int) : Nat := (c.filter fun x => decide (x = l)).length
def cntAll (l : Int) (xss : List (List Int)) : Nat := (xss.map (cntIn l)).sum
theorem cntIn_snoc (l : Int) (c : List Int) (x : Int) : cntIn l (c ++ [x]) = cntIn l c + if x = l then 1 else 0 := by
  unfold cntIn
  rw [List.filter_append, List.filter_cons, List.filter_nil, List.length_append]
  by_cases h : x = l <;> simp [h]
theorem cntAll_snoc (l : Int) (xss : List (List Int)) (c : List Int) : cntAll l (xss ++ [c]) = cntAll l xss + cntIn l c := by unfold cntAll; simp
theorem cntIn_le (l : Int) (c : List Int) : cntIn l c ≤ c.length := List.length_filter_le _ _
theorem lvar_is {v x : Int} (h1 : 1 ≤ v) (h2 : v ≤ 100000) : (lvar x = v ∧ 0 < x ↔ x = v) ∧ (lvar x = v ∧ ¬ 0 < x ↔ x = -v) := by
  unfold lvar
  constructor
  · constructor
    · rintro ⟨h3, h4⟩; split at h3 <;> (try split at h3) <;> omega
    · rintro rfl; split <;> (try split) <;> omega
  · constructor
    · rintro ⟨h3, h4⟩; split at h3 <;> (try split at h3) <;> omega
    · rintro rfl; split <;> (try split) <;> omega
theorem cnt_step {v x : Int} (h1 : 1 ≤ v) (h2 : v ≤ 100000) (c : List Int) : cntIn v (c ++ [x]) = cntIn v c + (if lvar x = v then pos1 x else 0) ∧ cntIn (-v) (c ++ [x]) = cntIn (-v) c + (if lvar x = v then neg1 x else 0) := by
  obtain ⟨h3, h4⟩ := lvar_is (v := v) (x := x) h1 h2
  rw [cntIn_snoc, cntIn_snoc]
  unfold pos1 neg1
  by_cases h : lvar x = v
  · rw [if_pos h, if_pos h]
    by_cases hp : 0 < x
    · rw [if_pos hp, if_pos hp, if_pos (h3.1 ⟨h, hp⟩), if_neg (fun e => (h4.2 e).2 hp)]; exact ⟨rfl, rfl⟩
    · rw [if_neg hp, if_neg hp, if_neg (fun e => hp (h3.2 e).2), if_pos (h4.1 ⟨h, hp⟩)]; exact ⟨rfl, rfl⟩
  · rw [if_neg h, if_neg h, if_neg (fun e => h (h3.2 e).1), if_neg (fun e => h (h4.2 e).1)]; exact ⟨rfl, rfl⟩
theorem take_snocI (xs : List Int) {k len : Nat} (hl : xs.length = len) (h : k < len) : xs.take (k + 1) = xs.take k ++ [xs.getD k 0] := take_snoc xs k (by omega)
def fBalY (v : Int) (xss : List (List Int)) : Int := if v < 1 ∨ 100000 < v then 0 else (cntAll v xss : Int)
def fBalN (v : Int) (xss : List (List Int)) : Int := if v < 1 ∨ 100000 < v then 0 else (cntAll (-v) xss : Int)
set_option maxRecDepth 100000 in
set_option maxHeartbeats 1000000 in
theorem cnf_Balance (vars : Int) (a : Option Addr) (len cap : Nat) (xss : List (List Int)) (v : Int) (w : World) (hr : Rows2 w a len xss) (hlen : len ≤ 1000000) (hs : ShortR xss 100000) :
    Calls Try.prog 19 #[.agg #[.int .i64 vars, .slice a len cap], .int .i64 v] w fun e w' => e = .returned (.tuple #[.int .i64 (fBalY v xss), .int .i64 (fBalN v xss)]) ∧ Below w.heap.size w w' := by
  have HL := Lib.hid hr.1
  have HS := Lib.hid hs
  have hb1 : Below w.heap.size w (w.alloc (.cells #[.int .i64 vars, .slice a len cap] 24)) := below_alloc (Below.refl _ _) _
  have hc1 := Blk.made w #[.int .i64 vars, .slice a len cap] 24
  generalize hw1 : w.alloc (.cells #[.int .i64 vars, .slice a len cap] 24) = w1 at *
  have HW1 := Lib.hid hw1
  have e1 := hc1.cell 1
  simp only [List.getElem?_toArray, List.getElem?_cons_zero, List.getElem?_cons_succ] at e1
  clear hw1 hc1
  have HR := Lib.hid (hr.later hb1)
  clear hr hs
  by_cases hv : v < 1 ∨ 100000 < v
  · have HA : Hid (fBalY v xss = 0) := Lib.hid (by unfold fBalY; rw [if_pos hv])
    have HE : Hid (fBalN v xss = 0) := Lib.hid (by unfold fBalN; rw [if_pos hv])
    rcases hv with hv | hv
    · go_enter Try.func19, Try.ntmps19
      go_wp2_with fail
      try rw [HW1.out]
      go_ret2
      exact ⟨ret_ii HA.out.symm HE.out.symm, hb1⟩
    · have h2 : ¬ v < 1 := by omega
      go_enter Try.func19, Try.ntmps19
      go_wp2_with fail
      try rw [HW1.out]
      go_ret2
      exact ⟨ret_ii HA.out.symm HE.out.symm, hb1⟩
  have HA : Hid (fBalY v xss = (cntAll v xss : Int)) := Lib.hid (by unfold fBalY; rw [if_neg hv])
  have HE : Hid (fBalN v xss = (cntAll (-v) xss : Int)) := Lib.hid (by unfold fBalN; rw [if_neg hv])
  have HVB : Hid (1 ≤ v ∧ v ≤ 100000) := Lib.hid (by omega)
  have d1 : decide (v < 1) = false := decide_eq_false (by omega)
  have d2 : decide (100000 < v) = false := decide_eq_false (by omega)
  have HC0 := Lib.hid cplx_zero
  clear hv
  go_enter Try.func19, Try.ntmps19
  go_wp2_with fail
  rw [HW1.out, HC0.out]
  clear d1 d2 e1
  go_loop [6, 8, 10, 20] (fun s _ _ i => ∃ k : Nat, k ≤ len ∧ i = .int .i64 k ∧ ∃ n m : Nat, n ≤ k * 100000 ∧ m ≤ k * 100000 ∧ cntAll v (xss.take k) = n ∧ cntAll (-v) (xss.take k) = m ∧ s = cplx n m) (fun _ _ _ i => len - (intOf i).toNat)
  case atStart => exact ⟨0, Nat.zero_le _, rfl, 0, 0, Nat.zero_le _, Nat.zero_le _, by rw [List.take_zero]; rfl, by rw [List.take_zero]; rfl, rfl⟩
  case round =>
    obtain ⟨k, hk, rfl, n, m, hn, hm, hcn, hcm, rfl⟩ := hrel
    have HCN := Lib.hid hcn; have HCM := Lib.hid hcm
    clear hcn hcm
    have t1 : (0 : Int) ≤ (k : Int) := by omega
    by_cases hlt : k < len
    · obtain ⟨b, off, u, rfl, hck, ac, lc, cc, rfl, _, _, hrc⟩ := HR.out.2.2 k hlt
      have t2 : (k : Int) < (len : Int) := by omega
      have HT := Lib.hid (take_snocR xss k (by rw [HL.out]; exact hlt))
      have hlc : lc ≤ 100000 := by rw [← hrc.1]; exact HS.out _ (at_memR HL.out hlt)
      have HRC := Lib.hid hrc
      have HLC := Lib.hid hrc.1
      have hmc := hrc.2.1; unfold maxLen at hmc
      clear hrc
      generalize xss.getD k [] = z at *
      have HNM : Hid (n ≤ k * 100000 + 0 ∧ m ≤ k * 100000 + 0) := Lib.hid ⟨Nat.le_trans hn (Nat.le_add_right _ _), Nat.le_trans hm (Nat.le_add_right _ _)⟩
      have HZ0 : Hid (n + cntIn v (z.take 0) = n ∧ m + cntIn (-v) (z.take 0) = m) := Lib.hid (by rw [List.take_zero]; exact ⟨rfl, rfl⟩)
      go_wp2_with fail
      clear hck
      go_loop [6, 10, 26] (fun s _ i => ∃ j : Nat, j ≤ lc ∧ i = .int .i64 j ∧ ∃ n2 m2 : Nat, n2 ≤ k * 100000 + j ∧ m2 ≤ k * 100000 + j ∧ n + cntIn v (z.take j) = n2 ∧ m + cntIn (-v) (z.take j) = m2 ∧ s = cplx n2 m2) (fun _ _ i => lc - (intOf i).toNat)
      case atStart => exact ⟨0, Nat.zero_le _, rfl, n, m, HNM.out.1, HNM.out.2, HZ0.out.1, HZ0.out.2, rfl⟩
      case round =>
        obtain ⟨j, hj, rfl, n2, m2, hn2, hm2, hcn2, hcm2, rfl⟩ := hrel
        have HCN2 := Lib.hid hcn2; have HCM2 := Lib.hid hcm2
        clear hcn2 hcm2
        have t3 : (0 : Int) ≤ (j : Int) := by omega
        by_cases hlt2 : j < lc
        · obtain ⟨b2, off2, rfl, hcells⟩ := HRC.out.2.2 (by omega)
          have hcj := hcells j hlt2
          have t4 : (j : Int) < (lc : Int) := by omega
          have hst := cnt_step (v := v) (x := z.getD j 0) HVB.out.1 HVB.out.2 (z.take j)
          rw [← take_snocI z HLC.out hlt2] at hst
          have HST := Lib.hid hst
          clear hcells hst
          generalize z.getD j 0 = x at *
          by_cases he : lvar x = v
          · have d1 : (lvar x == v) = true := by simpa using he
            have hp1 : pos1 x ≤ 1 := by unfold pos1; split <;> omega
            have hp2 : neg1 x ≤ 1 := by unfold neg1; split <;> omega
            have hadd := run_cplx_add (P := Try.prog) 59 n2 m2 (pos1 x) (neg1 x) (by omega) (by omega)
            have HN3 : Hid (n + cntIn v (z.take (j + 1)) = n2 + pos1 x) := Lib.hid (by have h1 := HST.out.1; have h2 := HCN2.out; rw [if_pos he] at h1; omega)
            have HM3 : Hid (m + cntIn (-v) (z.take (j + 1)) = m2 + neg1 x) := Lib.hid (by have h1 := HST.out.2; have h2 := HCM2.out; rw [if_pos he] at h1; omega)
            clear he
            go_wp2_with (first | (go_at_call 24; refine (lit_Var _ _).mono ?_; rintro e wq ⟨rfl, hq⟩; obtain rfl := hq.symm) | (go_at_call 36; refine (cnf_sides _ _).mono ?_; rintro e wq ⟨rfl, hq⟩; obtain rfl := hq))
            clear hadd
            go_round
            case rel => exact ⟨j + 1, by omega, by go_num, _, _, by omega, by omega, HN3.out, HM3.out, rfl⟩
            case measure => simp [intOf]; omega
          · have d1 : (lvar x == v) = false := by simpa using he
            have HN3 : Hid (n + cntIn v (z.take (j + 1)) = n2) := Lib.hid (by have h1 := HST.out.1; have h2 := HCN2.out; rw [if_neg he] at h1; omega)
            have HM3 : Hid (m + cntIn (-v) (z.take (j + 1)) = m2) := Lib.hid (by have h1 := HST.out.2; have h2 := HCM2.out; rw [if_neg he] at h1; omega)
            clear he
            go_wp2_with (go_at_call 24; refine (lit_Var _ _).mono ?_; rintro e wq ⟨rfl, hq⟩; obtain rfl := hq.symm)
            go_round
            case rel => exact ⟨j + 1, by omega, by go_num, _, _, by omega, by omega, HN3.out, HM3.out, rfl⟩
            case measure => simp [intOf]; omega
        · have hjl : j = lc := by omega
          subst hjl
          have hTZ : z.take j = z := List.take_of_length_le (by rw [HLC.out]; exact Nat.le_refl _)
          have HN3 : Hid (cntAll v (xss.take (k + 1)) = n2) := Lib.hid (by rw [HT.out, cntAll_snoc, HCN.out, ← HCN2.out, hTZ])
          have HM3 : Hid (cntAll (-v) (xss.take (k + 1)) = m2) := Lib.hid (by rw [HT.out, cntAll_snoc, HCM.out, ← HCM2.out, hTZ])
          clear hTZ
          go_wp2_with fail
          go_round
          case rel => exact ⟨k + 1, by omega, by go_num, n2, m2, by omega, by omega, HN3.out, HM3.out, rfl⟩
          case measure => simp [intOf]; omega
    · have hkn : k = len := by omega
      subst hkn
      have hTK : xss.take k = xss := List.take_of_length_le (by rw [HL.out]; exact Nat.le_refl _)
      have HA2 : Hid (fBalY v xss = (n : Int)) := Lib.hid (by rw [HA.out, ← hTK, HCN.out])
      have HE2 : Hid (fBalN v xss = (m : Int)) := Lib.hid (by rw [HE.out, ← hTK, HCM.out])
      have hr1 := run_real_cplx (P := Try.prog) #[59] 61 n m
      have hr2 := run_imag_cplx (P := Try.prog) #[59] 61 n m
      have hc1 := fun w => run_convert_float_int (P := Try.prog) w 61 3 .f64 .i64 (fb n) n (by rw [Try.underlying61]; rfl) Try.underlying3 (fb_int n (by omega))
      have hc2 := fun w => run_convert_float_int (P := Try.prog) w 61 3 .f64 .i64 (fb m) m (by rw [Try.underlying61]; rfl) Try.underlying3 (fb_int m (by omega))
      clear hTK
      go_wp2_with fail
      go_ret2
      exact ⟨ret_ii HA2.out.symm HE2.out.symm, hb1⟩
end Go.Proofs.Ytdladbfjgkejiaa
namespace Go.Proofs.Ytdladbfjgkejiaa
open Go.RowKit
set_option linter.unusedVariables false
set_option linter.unusedSimpArgs false

def cY (v : Nat) (c : List Int) : Nat := (c.map fun x => if lvar x = (v : Int) then pos1 x else 0).sum
def cN (v : Nat) (c : List Int) : Nat := (c.map fun x => if lvar x = (v : Int) then neg1 x else 0).sum
def cYs (v : Nat) (xss : List (List Int)) : Nat := (xss.map (cY v)).sum
def cNs (v : Nat) (xss : List (List Int)) : Nat := (xss.map (cN v)).sum
theorem cY_snoc (v : Nat) (c : List Int) (x : Int) : cY v (c ++ [x]) = cY v c + if lvar x = (v : Int) then pos1 x else 0 := by unfold cY; simp
theorem cN_snoc (v : Nat) (c : List Int) (x : Int) : cN v (c ++ [x]) = cN v c + if lvar x = (v : Int) then neg1 x else 0 := by unfold cN; simp
theorem cYs_snoc (v : Nat) (xss : List (List Int)) (c : List Int) : cYs v (xss ++ [c]) = cYs v xss + cY v c := by unfold cYs; simp
theorem cNs_snoc (v : Nat) (xss : List (List Int)) (c : List Int) : cNs v (xss ++ [c]) = cNs v xss + cN v c := by unfold cNs; simp
theorem pos1_le (x : Int) : pos1 x ≤ 1 := by unfold pos1; split <;> omega
theorem neg1_le (x : Int) : neg1 x ≤ 1 := by unfold neg1; split <;> omega
theorem cY_le (v : Nat) (c : List Int) : cY v c ≤ c.length := by
  unfold cY
  induction c with
  | nil => simp
  | cons x c ih =>
    have h : (if lvar x = (v : Int) then pos1 x else 0) ≤ 1 := by
      split
      · exact pos1_le x
      · omega
    simp only [List.map_cons, List.sum_cons, List.length_cons]
    omega
theorem cN_le (v : Nat) (c : List Int) : cN v c ≤ c.length := by
  unfold cN
  induction c with
  | nil => simp
  | cons x c ih =>
    have h : (if lvar x = (v : Int) then neg1 x else 0) ≤ 1 := by
      split
      · exact neg1_le x
      · omega
    simp only [List.map_cons, List.sum_cons, List.length_cons]
    omega
theorem sum_le {B : Nat} (f : List Int → Nat) (xss : List (List Int)) (h : ∀ c, c ∈ xss → f c ≤ B) : (xss.map f).sum ≤ xss.length * B := by
  induction xss with
  | nil => simp
  | cons c xss ih =>
    have h1 := h c (by simp)
    have h2 := ih fun c' hc => h c' (by simp [hc])
    simp only [List.map_cons, List.sum_cons, List.length_cons, Nat.add_mul, Nat.one_mul]
    omega
theorem cYs_le {B : Nat} (v : Nat) (xss : List (List Int)) (h : ∀ c, c ∈ xss → c.length ≤ B) : cYs v xss ≤ xss.length * B := sum_le _ _ fun c hc => Nat.le_trans (cY_le v c) (h c hc)
theorem cNs_le {B : Nat} (v : Nat) (xss : List (List Int)) (h : ∀ c, c ∈ xss → c.length ≤ B) : cNs v xss ≤ xss.length * B := sum_le _ _ fun c hc => Nat.le_trans (cN_le v c) (h c hc)
theorem cY_cnt {v : Nat} (h1 : 1 ≤ v) (h2 : v ≤ 100000) (c : List Int) : cY v c = cntIn v c ∧ cN v c = cntIn (-(v : Int)) c := by
  have key : ∀ n, ∀ c : List Int, c.length = n → cY v c = cntIn v c ∧ cN v c = cntIn (-(v : Int)) c := by
    intro n
    induction n with
    | zero =>
      intro c hc
      obtain rfl := List.eq_nil_of_length_eq_zero hc
      exact ⟨rfl, rfl⟩
    | succ n ih =>
      intro c hc
      rcases List.eq_nil_or_concat c with rfl | ⟨c', x, rfl⟩
      · simp at hc
      · rw [List.concat_eq_append] at hc ⊢
        have hl : c'.length = n := by simp at hc; omega
        obtain ⟨e1, e2⟩ := ih c' hl
        obtain ⟨s1, s2⟩ := cnt_step (v := (v : Int)) (x := x) (by omega) (by omega) c'
        rw [cY_snoc, cN_snoc, e1, e2, s1, s2]
        exact ⟨rfl, rfl⟩
  exact key c.length c rfl
theorem cYs_cnt {v : Nat} (h1 : 1 ≤ v) (h2 : v ≤ 100000) (xss : List (List Int)) : cYs v xss = cntAll v xss ∧ cNs v xss = cntAll (-(v : Int)) xss := by
  unfold cYs cNs cntAll
  exact ⟨congrArg List.sum (List.map_congr_left fun c _ => (cY_cnt h1 h2 c).1), congrArg List.sum (List.map_congr_left fun c _ => (cY_cnt h1 h2 c).2)⟩
/-- The row: n complex numbers. -/
def CBlk (w : World) (b n : Nat) (f g : Nat → Nat) : Prop := Blk w b ((List.range n).map fun v => cplx (f v) (g v)).toArray 59
theorem CBlk.cell {w : World} {b n : Nat} {f g : Nat → Nat} (h : CBlk w b n f g) {v : Nat} (hv : v < n) : w.cell? ⟨b, v, none⟩ = some (cplx (f v) (g v)) := by
  rw [Blk.cell h v]
  simp [hv]
theorem range_set {α : Type} (n v : Nat) (f f' : Nat → α) (h : ∀ u, u ≠ v → f' u = f u) : ((List.range n).map f).set v (f' v) = (List.range n).map f' := by
  apply List.ext_getElem
  · simp
  · intro i h1 h2
    rw [List.getElem_set]
    split
    · next e => subst e; simp
    · next e => simp [h i (fun e' => e e'.symm)]
theorem CBlk.set {w : World} {b n : Nat} {f g f' g' : Nat → Nat} (h : CBlk w b n f g) (v : Nat) (hf : ∀ u, u ≠ v → f' u = f u) (hg : ∀ u, u ≠ v → g' u = g u) : CBlk (w.setCell ⟨b, v, none⟩ (cplx (f' v) (g' v))) b n f' g' := by
  have h1 := Blk.set h v (cplx (f' v) (g' v))
  rw [List.setIfInBounds_toArray, range_set n v (fun v => cplx (f v) (g v)) (fun v => cplx (f' v) (g' v)) (fun u hu => by simp only [hf u hu, hg u hu])] at h1
  exact h1
theorem CBlk.later {w w' : World} {b n : Nat} {f g : Nat → Nat} (h : CBlk w b n f g) (hb : Below w.heap.size w w') : CBlk w' b n f g := Blk.later h hb
theorem madeCplx (n : Nat) : madeCells #[.complex .f64 0 0] n = ((List.range n).map fun v => cplx 0 0).toArray := by
  rw [cplx_zero]
  apply Array.ext_getElem?; intro i
  by_cases hi : i < n <;> simp [madeCells, hi, Nat.mod_one]
theorem info_cplxs : (Try.prog.info? 58).map (fun i => (i.zero, i.size, i.bytes)) = some (some (.slice none 0 0), 1, 24) := by kernel_rfl
theorem info_cplx : (Try.prog.info? 59).map (fun i => (i.zero, i.size, i.bytes)) = some (some (.complex .f64 0 0), 1, 16) := by kernel_rfl
end Go.Proofs.Ytdladbfjgkejiaa
namespace Go.Proofs.Ytdladbfjgkejiaa
open Go.RowKit

/-- A slice that is written out, in a new block: it may be appended to. -/
theorem own_built (w : World) (B : Nat) (e : TypeId) (vs : List Value) (hB : B ≤ w.heap.size) (hm : vs.length ≤ maxLen) : (w.alloc (.cells vs.toArray e)).ownsRow B e 1 (.slice (some ⟨w.heap.size, 0, none⟩) vs.length vs.length) vs.length vs :=
  ⟨by simp, .inr ⟨w.heap.size, vs.length, vs.toArray, rfl, hB, heap_alloc_new w _, Nat.le_refl _, hm, by simp, by simp⟩⟩

/-- What an append may have changed: blocks from B on that hold elements of type t, and nothing else. -/
def GrownT (w w' : World) (B : Nat) (t : TypeId) : Prop := w'.heap.size ≥ w.heap.size ∧ ∀ k, k < w.heap.size → w'.heap[k]? = w.heap[k]? ∨ (B ≤ k ∧ ∃ cur, w.heap[k]? = some (.cells cur t (0, 0)))
theorem GrownT.of_own {w w' : World} {B : Nat} {t : TypeId} {k n : Nat} {v : Value} {xs : List Value} (h : w.ownsRow B t k v n xs) (hg : w.grownBy w' v.ownBlock) : GrownT w w' B t := by
  refine ⟨hg.size, fun j hj => ?_⟩
  by_cases hjv : some j = v.ownBlock
  · right
    obtain ⟨_, h2⟩ := h
    rcases h2 with ⟨hv, _⟩ | ⟨g, cap, cur, hv, hg', hgh, _⟩
    · subst hv; simp [Value.ownBlock] at hjv
    · subst hv; simp [Value.ownBlock] at hjv; subst hjv; exact ⟨hg', cur, hgh⟩
  · exact Or.inl (hg.block j hj hjv)
theorem GrownT.of_none {w w' : World} {B : Nat} {t : TypeId} (hg : w.grownBy w' none) : GrownT w w' B t := ⟨hg.size, fun j hj => Or.inl (hg.block j hj (by simp))⟩
theorem RowOf.grownT {w w' : World} {B C : Nat} {v : Value} {xs : List Int} {t : TypeId} (h : RowOf w C v xs) (hC : C ≤ B) (ht : t ≠ 3) (hg : GrownT w w' B t) : RowOf w' C v xs := by
  obtain ⟨a, len, cap, hv, h1, h2, hn, h3, h4⟩ := h
  refine ⟨a, len, cap, hv, h1, h2, hn, h3, fun hp => ?_⟩
  obtain ⟨b, off, cs, t', fr, ha, hh, ht', hc⟩ := h4 hp
  refine ⟨b, off, cs, t', fr, ha, ?_, ht', hc⟩
  rcases hg.2 b (lt_of_block hh) with h5 | ⟨h5, cur, h6⟩
  · exact h5.trans hh
  · rw [hh] at h6
    simp only [Option.some.injEq, Obj.cells.injEq] at h6
    rcases ht' with ht' | ht'
    · exact absurd (h6.2.1.symm.trans ht') ht
    · omega

theorem Blk.grownT {w w' : World} {b B : Nat} {vs : Array Value} {t t' : TypeId} (h : Blk w b vs t) (ht : t ≠ t') (hg : GrownT w w' B t') : Blk w' b vs t := by
  rcases hg.2 b h.lt with h5 | ⟨_, cur, h6⟩
  · exact h5.trans h
  · have h7 : w.heap[b]? = some (.cells vs t (0, 0)) := h
    rw [h7] at h6
    simp only [Option.some.injEq, Obj.cells.injEq] at h6
    exact absurd h6.2.1 ht

/-- A list that may be appended to, or a full one that is not written any more: r is the block that an append may write. -/
def OwnFull (w : World) (B : Nat) (e : TypeId) (v : Value) (n : Nat) (xs : List Value) (r : Option Nat) : Prop :=
  (w.ownsRow B e 1 v n xs ∧ r = v.ownBlock) ∨ (∃ g, v = .slice (some ⟨g, 0, none⟩) n n ∧ xs.length = n ∧ n ≤ maxLen ∧ CellRow w (some ⟨g, 0, none⟩) xs ∧ r = none)
theorem OwnFull.of_built (w : World) (B : Nat) (e : TypeId) (vs : List Value) (hm : vs.length ≤ maxLen) : OwnFull (w.alloc (.cells vs.toArray e)) B e (.slice (some ⟨w.heap.size, 0, none⟩) vs.length vs.length) vs.length vs none :=
  Or.inr ⟨w.heap.size, rfl, rfl, hm, CellRow.made w vs e, rfl⟩
theorem OwnFull.later {w w' : World} {B : Nat} {e : TypeId} {v : Value} {n : Nat} {xs : List Value} {r : Option Nat} (h : OwnFull w B e v n xs r) (hb : Below w.heap.size w w') : OwnFull w' B e v n xs r := by
  rcases h with ⟨h, hr⟩ | ⟨g, h1, h2, h3, h4, h5⟩
  · exact Or.inl ⟨own_later h hb, hr⟩
  · exact Or.inr ⟨g, h1, h2, h3, h4.later hb, h5⟩

/-- 'append(v, x...)' of something to such a list. -/
theorem wpList_appF {P : Program} {w : World} {ops : Array Oper} {rest : List Oper} {o : Oper} {a : Act} {Q : Exit → Act → World → Prop} (hgd : o.guard = none) (s x : Operand) (t : TypeId)
    (ho : o.op = .call { callee := .builtin .append, args := #[s, x], argTypes := #[t, t] })
    (base : Nat) (e : TypeId) (z : Value) (bytes : Nat) (ht : P.underlying t = some (.slice e)) (hinfo : (P.info? e).map (fun i => (i.zero, i.size, i.bytes)) = some (some z, 1, bytes)) (hzs : z.cells.size = 1)
    (v : Value) (n : Nat) (xs : List Value) (r : Option Nat) (hs : a.eval s = v) (hown : OwnFull w base e v n xs r)
    (A : Option Addr) (m c : Nat) (news : List Value) (hx : a.eval x = .slice A m c) (hm : 0 < m) (hl : news.length = m) (hrow : CellRow w A news) (h1 : ∀ u ∈ news, u.oneCell' = true)
    (h63 : n + m ≤ maxLen) (hbytes : (n + m) * bytes ≤ 140737488355328) (hbase : base ≤ w.heap.size)
    (h : ∀ v' w', w'.ownsRow base e 1 v' (n + m) (xs ++ news) → w.grownBy w' r → GrownT w w' base e → wpList P ops Q rest (a.put o.dst v') w') : wpList P ops Q (o :: rest) a w := by
  rcases hown with ⟨hown, rfl⟩ | ⟨g, rfl, hxl, hnm, hcr, rfl⟩
  · exact wpList_app hgd s x t ho base e z 1 bytes ht hinfo hzs (by omega) v n xs hs hown A m c news hx (fun hA => by
      subst hA
      obtain ⟨b, off, h0, _⟩ := hrow 0 (news[0]'(by omega)) (by simp)
      cases h0) (by omega) hrow h1 h63 hbytes hbase (fun v' w' h2 h3 => h v' w' h2 h3 (GrownT.of_own hown h3))
  · obtain ⟨i, hi, hzz⟩ := Option.map_eq_some_iff.1 hinfo
    simp only [Prod.mk.injEq] at hzz
    obtain ⟨hz, hsize, hby⟩ := hzz
    obtain ⟨b, off, hA, _⟩ := hrow 0 (news[0]'(by omega)) (by simp)
    subst hA
    have hadd : ∀ (b off j : Nat), (Addr.add ⟨b, off, none⟩ j) = ⟨b, off + j, none⟩ := by
      intro b off j
      by_cases hj : j = 0 <;> simp [Addr.add, hj]
    have hnews : ∀ j u, news[j]? = some u → w.cell? (Addr.add ⟨b, off, none⟩ j) = some u := fun j u hj => by
      obtain ⟨b', off', h0, hc⟩ := hrow j u hj
      cases h0
      rw [hadd]; exact hc
    have holds : ∀ j u, xs[j]? = some u → w.cell? (Addr.add ⟨g, 0, none⟩ j) = some u := fun j u hj => by
      obtain ⟨b', off', h0, hc⟩ := hcr j u hj
      cases h0
      rw [hadd]; exact hc
    have hsmall : n + m ≤ 9223372036854775807 := by simp only [maxLen] at h63; omega
    have hr := run_append_grow (P := P) w t o.type e i z ht hi hz ⟨g, 0, none⟩ n n xs (by rw [hsize]; omega) holds ⟨b, off, none⟩ m c news (by rw [hsize]; omega) hnews (by omega) (by omega) (growslice_fits (by omega) (by rw [hby]; exact hbytes))
    refine wpList_plain hgd fun _ hK => ?_
    unfold Oper.wp execOp
    simp only [ho, resolve, invoke, builtin, Sem.run_bind, Sem.run_pure, Result.andThen_ok, List.map_toArray, List.map_cons, List.map_nil, hs, hx, hr]
    have hge := grownCap_ge w (n + m) n e
    have hcm : grownCap w (n + m) n e ≤ maxLen := grownCap_le_maxLen w (n + m) n e h63
    have hg : w.grownBy (w.drew.alloc (.cells (xs.toArray ++ news.toArray ++ Builtin.zeroCells z.cells (grownCap w (n + m) n e - (n + m))) e)) none := ⟨rfl, rfl, rfl, by simp, fun k hk _ => heap_alloc_old w.drew _ hk⟩
    refine hK _ _ (h _ _ ⟨by rw [List.length_append]; omega, .inr ⟨w.heap.size, _, _, rfl, hbase, heap_alloc_new w.drew _, hge, hcm, ?_, ?_⟩⟩ hg (GrownT.of_none hg))
    · simp only [Array.size_append, List.size_toArray, size_zeroCells, hzs, hxl, hl, Nat.mul_one]; omega
    · simp only [Array.toList_append, List.append_assoc]
      rw [← List.append_assoc, List.take_append_of_le_length (by rw [List.length_append]; omega), List.take_of_length_le (by rw [List.length_append]; omega)]
end Go.Proofs.Ytdladbfjgkejiaa
