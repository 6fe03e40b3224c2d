import Derived.Test.YtdladbfjgkejiaaMgAQ
import Derived.Test.YtdladbfjgkejiaaMgAU
import Derived.Test.YtdladbfjgkejiaaMgAF
import Derived.Test.YtdladbfjgkejiaaMgAI
import Derived.Test.YtdladbfjgkejiaaMgAS
import Derived.Test.YtdladbfjgkejiaaMgAT
namespace Go.Proofs.Ytdladbfjgkejiaa
open Go.RowKit
set_option linter.unusedVariables false
set_option linter.unusedSimpArgs false

theorem fFind_spec {α : Type} {p : α → Bool} {xs : List α} {d : α} (h : fFind p xs ≠ -1) : ∃ k, k < xs.length ∧ fFind p xs = (k : Int) ∧ p (xs.getD k d) = true := by
  have hany : xs.any p = true := by
    cases h2 : xs.any p
    · exact absurd (fFind_none h2) h
    · rfl
  obtain ⟨x, hx, hp⟩ := List.any_eq_true.1 hany
  have hlt := List.findIdx_lt_length_of_exists ⟨x, hx, hp⟩
  have he : fFind p xs = (xs.findIdx p : Int) := by unfold fFind; rw [if_pos hany]
  refine ⟨xs.findIdx p, hlt, he, ?_⟩
  rw [show xs.getD (xs.findIdx p) d = xs[xs.findIdx p] by simp [List.getD, hlt]]
  exact List.findIdx_getElem
/-- A clause's error. -/
def fChk (vars : Int) (c : List Int) : Int := if cCheck c vars ≠ 0 then cCheck c vars else if cTaut c = true then 11 else 0
def fBad (vars : Int) (xss : List (List Int)) : Int := fFind (fun c => decide (fChk vars c ≠ 0)) xss
def fAt (vars : Int) (xss : List (List Int)) : Int := if vars < 0 ∨ 100000 < vars then 0 else if 1000000 < xss.length then 0 else if fBad vars xss = -1 then xss.length else fBad vars xss
def fErr (vars : Int) (xss : List (List Int)) : Int := if vars < 0 ∨ 100000 < vars then 2 else if 1000000 < xss.length then 3 else if fBad vars xss = -1 then 0 else fChk vars (xss.getD (fBad vars xss).toNat [])
theorem fErr_ok {vars : Int} {xss : List (List Int)} (h : fErr vars xss = 0) : 0 ≤ vars ∧ vars ≤ 100000 ∧ xss.length ≤ 1000000 ∧ ∀ c ∈ xss, cCheck c vars = 0 ∧ cTaut c = false := by
  unfold fErr at h
  split at h
  · omega
  · split at h
    · omega
    · refine ⟨by omega, by omega, by omega, ?_⟩
      have hb : fBad vars xss = -1 := by
        split at h
        · assumption
        · rename_i hne
          exfalso
          obtain ⟨k, hk, he, hp⟩ := fFind_spec (d := []) hne
          change fBad vars xss = (k : Int) at he
          rw [he, Int.toNat_natCast] at h
          exact (of_decide_eq_true hp) h
      have hno := fFind_neg.1 hb
      intro c hc
      have := (List.any_eq_false.1 hno) c hc
      simp only [decide_eq_true_eq, Classical.not_not] at this
      unfold fChk at this
      split at this
      · omega
      · rename_i h1
        split at this
        · omega
        · rename_i h2
          exact ⟨by omega, by simpa using h2⟩
set_option maxRecDepth 100000 in
set_option maxHeartbeats 1000000 in
theorem cnf_Check (vars : Int) (a : Option Addr) (len cap : Nat) (xss : List (List Int)) (w : World) (hr : Rows2 w a len xss) (hs : ShortR xss 100000) :
    Calls Try.prog 14 #[.agg #[.int .i64 vars, .slice a len cap]] w fun e w' => e = .returned (.tuple #[.int .i64 (fAt vars xss), .int .i64 (fErr vars xss)]) ∧ Below w.heap.size w w' := by
  have hmx := hr.2.1; unfold maxLen at hmx
  have HL := Lib.hid hr.1
  have HS := Lib.hid hs
  have hb1 : Below w.heap.size w (w.alloc (.cells #[.int .i64 vars, .slice a len cap] 24)) := below_alloc (Below.refl _ _) _
  have hc1 := Blk.made w #[.int .i64 vars, .slice a len cap] 24
  generalize hw1 : w.alloc (.cells #[.int .i64 vars, .slice a len cap] 24) = w1 at *
  have HW1 := Lib.hid hw1
  have e0 := hc1.cell 0
  have e1 := hc1.cell 1
  simp only [List.getElem?_toArray, List.getElem?_cons_zero, List.getElem?_cons_succ] at e0 e1
  have HC1 := Lib.hid hc1
  clear hw1 hc1
  have HR := Lib.hid (hr.later hb1)
  clear hr hs
  by_cases hv : vars < 0 ∨ 100000 < vars
  · have HA : Hid (fAt vars xss = 0) := Lib.hid (by unfold fAt; rw [if_pos hv])
    have HE : Hid (fErr vars xss = 2) := Lib.hid (by unfold fErr; rw [if_pos hv])
    rcases hv with hv | hv
    · go_enter Try.func14, Try.ntmps14
      go_wp2_with fail
      try rw [HW1.out]
      go_ret2
      exact ⟨ret_ii HA.out.symm HE.out.symm, hb1⟩
    · have h2 : ¬ vars < 0 := by omega
      go_enter Try.func14, Try.ntmps14
      go_wp2_with fail
      try rw [HW1.out]
      go_ret2
      exact ⟨ret_ii HA.out.symm HE.out.symm, hb1⟩
  have d1 : decide (vars < 0) = false := decide_eq_false (by omega)
  have d2 : decide (100000 < vars) = false := decide_eq_false (by omega)
  by_cases hbig : 1000000 < len
  · have HA : Hid (fAt vars xss = 0) := Lib.hid (by unfold fAt; rw [if_neg hv, HL.out, if_pos hbig])
    have HE : Hid (fErr vars xss = 3) := Lib.hid (by unfold fErr; rw [if_neg hv, HL.out, if_pos hbig])
    have d3 : decide (1000000 < (len : Int)) = true := decide_eq_true (by omega)
    have d4 : decide (1000000 < len) = true := decide_eq_true hbig
    clear hv hbig
    go_enter Try.func14, Try.ntmps14
    go_wp2_with fail
    try rw [HW1.out]
    go_ret2
    exact ⟨ret_ii HA.out.symm HE.out.symm, hb1⟩
  have HA : Hid (fAt vars xss = if fBad vars xss = -1 then (len : Int) else fBad vars xss) := Lib.hid (by unfold fAt; rw [if_neg hv, HL.out, if_neg hbig])
  have HE : Hid (fErr vars xss = if fBad vars xss = -1 then 0 else fChk vars (xss.getD (fBad vars xss).toNat [])) := Lib.hid (by unfold fErr; rw [if_neg hv, HL.out, if_neg hbig])
  have d3 : decide (1000000 < (len : Int)) = false := decide_eq_false (by omega)
  have d4 : decide (1000000 < len) = false := decide_eq_false hbig
  clear hv hbig
  go_enter Try.func14, Try.ntmps14
  go_wp2_with fail
  try rw [HW1.out]
  clear d1 d2 d3 d4 e0 e1
  go_loopw [4, 5, 6, 22] (fun _ _ _ i wr => ∃ k : Nat, k ≤ len ∧ i = .int .i64 k ∧ (∀ j, j < k → decide (fChk vars (xss.getD j []) ≠ 0) = false) ∧ Below w1.heap.size w1 wr) (fun _ _ _ i _ => len - (intOf i).toNat)
  case atStart => exact ⟨0, Nat.zero_le _, rfl, fun j hj => by omega, Below.refl _ _⟩
  case round =>
    obtain ⟨k, hk, rfl, hno, hbr⟩ := hrel
    have HNO := Lib.hid hno
    clear hno
    have hbw := below_step hb1 hbr
    have t1 : (0 : Int) ≤ (k : Int) := by omega
    have e0 := (HC1.out.later hbr).cell 0
    have e1 := (HC1.out.later hbr).cell 1
    simp only [List.getElem?_toArray, List.getElem?_cons_zero, List.getElem?_cons_succ] at e0 e1
    by_cases hlt : k < len
    · have hra := HR.out.later hbr
      obtain ⟨b, off, u, rfl, hck, ac, lc, cc, rfl, _, _, hrc⟩ := hra.2.2 k hlt
      have t2 : (k : Int) < (len : Int) := by omega
      have HF : Hid (decide (fChk vars (xss.getD k []) ≠ 0) = true → fBad vars xss = (k : Int)) := Lib.hid (fun h => fFind_at (d := []) (by rw [HL.out]; exact hlt) HNO.out h)
      have HEE : Hid (decide (fChk vars (xss.getD k []) ≠ 0) = false → ∀ j, j < k + 1 → decide (fChk vars (xss.getD j []) ≠ 0) = false) := Lib.hid (fun h j hj => by
        rcases Nat.lt_or_ge j k with h1 | h1
        · exact HNO.out j h1
        · rw [show j = k by omega]; exact h)
      have HGK : Hid (xss.getD (k : Int).toNat [] = xss.getD k []) := Lib.hid (by rw [Int.toNat_natCast])
      have HRC := Lib.hid hrc
      have HLC := Lib.hid (show lc ≤ 100000 by rw [← hrc.1]; exact HS.out _ (at_memR HL.out hlt))
      clear hrc hra
      generalize xss.getD k [] = z at *
      go_wp2_with fail
      refine (cla_Check ac lc cc z vars _ HRC.out).mono ?_
      rintro e w5 ⟨rfl, hb5⟩
      have HRC5 := Lib.hid (HRC.out.later hb5)
      have hb5w := below_step hbr hb5
      have f0 := (HC1.out.later hb5w).cell 0
      have f1 := (HC1.out.later hb5w).cell 1
      simp only [List.getElem?_toArray, List.getElem?_cons_zero, List.getElem?_cons_succ] at f0 f1
      by_cases hc : cCheck z vars = 0
      · have d5 : (cCheck z vars != 0) = false := by simpa using hc
        cases ht : cTaut z
        · have HN := Lib.hid (HEE.out (by unfold fChk; rw [hc, ht]; rfl))
          have HT := Lib.hid ht
          clear hc ht
          generalize cCheck z vars = ee at *
          go_wp2_with fail
          refine (cla_Taut ac lc cc z _ HRC5.out HLC.out).mono ?_
          rintro e w6 ⟨rfl, hb6⟩
          rw [HT.out]
          go_wp2_with fail
          go_roundw
          case rel => exact ⟨k + 1, by omega, by go_num, HN.out, below_step hb5w hb6⟩
          case measure => simp [intOf]; omega
        · have hfb := HF.out (by unfold fChk; rw [hc, ht]; rfl)
          have HA2 : Hid (fAt vars xss = (k : Int)) := Lib.hid (by rw [HA.out, hfb, if_neg (by omega)])
          have HE2 : Hid (fErr vars xss = 11) := Lib.hid (by rw [HE.out, hfb, if_neg (by omega), HGK.out]; unfold fChk; rw [hc, ht]; rfl)
          have HT := Lib.hid ht
          clear hc ht hfb
          generalize cCheck z vars = ee at *
          go_wp2_with fail
          refine (cla_Taut ac lc cc z _ HRC5.out HLC.out).mono ?_
          rintro e w6 ⟨rfl, hb6⟩
          rw [HT.out]
          go_wp2_with fail
          go_ret2
          exact ⟨ret_ii HA2.out.symm HE2.out.symm, below_step hb1 (below_step hb5w hb6)⟩
      · have d5 : (cCheck z vars != 0) = true := by simpa using hc
        have hfz : fChk vars z = cCheck z vars := by unfold fChk; rw [if_pos hc]
        have hfb := HF.out (by rw [hfz]; simpa using hc)
        have HA2 : Hid (fAt vars xss = (k : Int)) := Lib.hid (by rw [HA.out, hfb, if_neg (by omega)])
        have HE2 : Hid (fErr vars xss = cCheck z vars) := Lib.hid (by rw [HE.out, hfb, if_neg (by omega), HGK.out, hfz])
        clear hc hfz hfb
        generalize cCheck z vars = ee at *
        go_wp2_with fail
        go_ret2
        exact ⟨ret_ii HA2.out.symm HE2.out.symm, below_step hb1 hb5w⟩
    · have hkn : k = len := by omega
      subst hkn
      have hfb : fBad vars xss = -1 := fFind_none (fFind_no (d := []) (by rw [HL.out]; exact HNO.out))
      have HA2 : Hid (fAt vars xss = (k : Int)) := Lib.hid (by rw [HA.out, if_pos hfb])
      have HE2 : Hid (fErr vars xss = 0) := Lib.hid (by rw [HE.out, if_pos hfb])
      clear hfb
      go_wp2_with fail
      go_ret2
      exact ⟨ret_ii HA2.out.symm HE2.out.symm, hbw⟩
end Go.Proofs.Ytdladbfjgkejiaa
namespace Go.Proofs.Ytdladbfjgkejiaa
open Go.RowKit
set_option linter.unusedVariables false
set_option linter.unusedSimpArgs false
theorem short_max {xss : List (List Int)} {n : Nat} (h : ShortR xss n) (hn : n ≤ 1000000000) : ∀ xs ∈ xss, xs.length ≤ maxLen := fun xs hx => by have := h xs hx; unfold maxLen; omega
theorem tup2 (a b : Value) (G : Gh) : RA 0 G (.tup [lt a, lt b]) (.tuple #[a, b]) := .tup [lt a, lt b] [a, b] rfl (RL.two (.iv _ _ (.lit _)) (.iv _ _ (.lit _))).2
theorem pf_Check (vars : Int) (xss : List (List Int)) (hl : xss.length ≤ 1000000) (hs : ShortR xss 100000) : PF Try.prog 14 [aForm vars xss] fun r H' => r = .tup [lint (fAt vars xss), lint (fErr vars xss)] ∧ H' = [] :=
  PF_of_walk2 ⟨_, Try.func14, by kernel_rfl, rfl⟩ (tup2 _ _) fun G w vs hi hr => by
    obtain ⟨v, us, rfl, h1, hr⟩ := hr.uncons
    rw [hr.unnil]
    obtain ⟨a, cap, rfl, h2⟩ := form_open hi (by unfold maxLen; omega) (short_max hs (by omega)) h1
    exact cnf_Check vars a _ cap xss w h2 hs
theorem pf_Balance (vars : Int) (xss : List (List Int)) (v : Int) (hl : xss.length ≤ 1000000) (hs : ShortR xss 100000) : PF Try.prog 19 [aForm vars xss, lint v] fun r H' => r = .tup [lint (fBalY v xss), lint (fBalN v xss)] ∧ H' = [] :=
  PF_of_walk2 ⟨_, Try.func19, by kernel_rfl, rfl⟩ (tup2 _ _) fun G w vs hi hr => by
    obtain ⟨u, us, rfl, h1, hr⟩ := hr.uncons
    obtain ⟨u2, us, rfl, h3, hr⟩ := hr.uncons
    rw [hr.unnil, h3.lit_inv]
    obtain ⟨a, cap, rfl, h2⟩ := form_open hi (by unfold maxLen; omega) (short_max hs (by omega)) h1
    exact cnf_Balance vars a _ cap xss v w h2 hl hs
theorem pf_Size (vars : Int) (xss : List (List Int)) (hl : xss.length ≤ 1000000) (hs : ShortR xss 100000) : PF Try.prog 21 [aForm vars xss] fun r H' => r = lint (fSize xss : Int) ∧ H' = [] :=
  PF_of_walk ⟨_, Try.func21, by kernel_rfl, rfl⟩ fun G w vs hi hr => by
    obtain ⟨u, us, rfl, h1, hr⟩ := hr.uncons
    rw [hr.unnil]
    obtain ⟨a, cap, rfl, h2⟩ := form_open hi (by unfold maxLen; omega) (short_max hs (by omega)) h1
    exact cnf_Size vars a _ cap xss w h2 hl hs
theorem pf_Few (vars : Int) (xss : List (List Int)) (hl : xss.length ≤ maxLen) (hs : ∀ xs ∈ xss, xs.length ≤ maxLen) : PF Try.prog 6 [aForm vars xss] fun r H' => r = lt (.bool (fFew xss)) ∧ H' = [] :=
  PF_of_walk ⟨_, Try.func6, by kernel_rfl, rfl⟩ fun G w vs hi hr => by
    obtain ⟨u, us, rfl, h1, hr⟩ := hr.uncons
    rw [hr.unnil]
    obtain ⟨a, cap, rfl, h2⟩ := form_open hi hl hs h1
    exact law_Few vars a _ cap xss w h2
theorem pf_First (vars : Int) (xss : List (List Int)) (m : List Bool) (hl : xss.length ≤ 1000000) (hs : ShortR xss 100000) (hm : m.length ≤ 1000000) : PF Try.prog 8 [aForm vars xss, .iv (iBools m)] fun r H' => r = lint (fFirst m xss) ∧ H' = [] :=
  PF_of_walk ⟨_, Try.func8, by kernel_rfl, rfl⟩ fun G w vs hi hr => by
    obtain ⟨u, us, rfl, h1, hr⟩ := hr.uncons
    obtain ⟨u2, us, rfl, h3, hr⟩ := hr.uncons
    rw [hr.unnil]
    cases h3 with
    | iv _ _ h3 =>
      obtain ⟨b, cb, rfl, _, _, h4⟩ := bools_row hi.fz (by unfold maxLen; omega) h3
      obtain ⟨a, cap, rfl, h2⟩ := form_open hi (by unfold maxLen; omega) (short_max hs (by omega)) h1
      exact cnf_First vars a _ cap xss b _ cb m w h2 h4
theorem pf_Holds (vars : Int) (xss : List (List Int)) (m : List Bool) (hl : xss.length ≤ 1000000) (hs : ShortR xss 100000) (hm : m.length ≤ 1000000) : PF Try.prog 10 [aForm vars xss, .iv (iBools m)] fun r H' => r = lt (.bool (fHolds vars m xss)) ∧ H' = [] :=
  PF_of_walk ⟨_, Try.func10, by kernel_rfl, rfl⟩ fun G w vs hi hr => by
    obtain ⟨u, us, rfl, h1, hr⟩ := hr.uncons
    obtain ⟨u2, us, rfl, h3, hr⟩ := hr.uncons
    rw [hr.unnil]
    cases h3 with
    | iv _ _ h3 =>
      obtain ⟨b, cb, rfl, _, _, h4⟩ := bools_row hi.fz (by unfold maxLen; omega) h3
      obtain ⟨a, cap, rfl, h2⟩ := form_open hi (by unfold maxLen; omega) (short_max hs (by omega)) h1
      exact cnf_Holds vars a _ cap xss b _ cb m w h2 h4
theorem pf_Status (vars : Int) (xss : List (List Int)) (l : List Int) (hl : xss.length ≤ 1000000) (hs : ShortR xss 100000) (hll : l.length ≤ 1000000) (hf : Fits' l) (hfr : FitsR' xss) : PF Try.prog 12 [aForm vars xss, .iv (iInts l)] fun r H' => r = lint (fStat l xss) ∧ H' = [] :=
  PF_of_walk ⟨_, Try.func12, by kernel_rfl, rfl⟩ fun G w vs hi hr => by
    obtain ⟨u, us, rfl, h1, hr⟩ := hr.uncons
    obtain ⟨u2, us, rfl, h3, hr⟩ := hr.uncons
    rw [hr.unnil]
    cases h3 with
    | iv _ _ h3 =>
      obtain ⟨b, cb, rfl, _, _, h4⟩ := ints_row hi.fz (by unfold maxLen; omega) h3
      obtain ⟨a, cap, rfl, h2⟩ := form_open hi (by unfold maxLen; omega) (short_max hs (by omega)) h1
      exact cnf_Status vars a _ cap xss b _ cb l w h2 h4 hll hf hfr (fun xs hx => Nat.le_trans (hs xs hx) (by omega))
theorem pf_Same (v1 v2 : Int) (xss yss : List (List Int)) (hl : xss.length ≤ 1000000) (hs : ShortR xss 100000) (hl2 : yss.length ≤ 1000000) (hs2 : ShortR yss 100000) : PF Try.prog 22 [aForm v1 xss, aForm v2 yss] fun r H' => r = lt (.bool (fSame v1 v2 xss yss)) ∧ H' = [] :=
  PF_of_walk ⟨_, Try.func22, by kernel_rfl, rfl⟩ fun G w vs hi hr => by
    obtain ⟨u, us, rfl, h1, hr⟩ := hr.uncons
    obtain ⟨u2, us, rfl, h3, hr⟩ := hr.uncons
    rw [hr.unnil]
    obtain ⟨a, cap, rfl, h2⟩ := form_open hi (by unfold maxLen; omega) (short_max hs (by omega)) h1
    obtain ⟨b, cb, rfl, h4⟩ := form_open hi (by unfold maxLen; omega) (short_max hs2 (by omega)) h3
    exact cnf_Same v1 v2 a b _ cap _ cb xss yss w h2 h4
theorem pf_Pure (vars : Int) (xss : List (List Int)) (hl : xss.length ≤ 1000000) (hs : ShortR xss 100000) : PF Try.prog 17 [aForm vars xss] fun r H' => r = .iv (iInts (pureUp xss (pureV vars))) ∧ H' = [] :=
  PF_of_own ⟨_, Try.func17, by kernel_rfl, rfl⟩ fun G w vs hi hr => by
    obtain ⟨u, us, rfl, h1, hr⟩ := hr.uncons
    rw [hr.unnil]
    obtain ⟨a, cap, rfl, h2⟩ := form_open hi (by unfold maxLen; omega) (short_max hs (by omega)) h1
    exact cnf_Pure vars a _ cap xss w h2 hl hs
theorem pf_Clone (xs : List Int) (hl : xs.length ≤ 1000000) : PF Try.prog 34 [.iv (iInts xs)] fun r H' => r = .iv (iInts xs) ∧ H' = [] :=
  PF_of_own ⟨_, Try.func34, by kernel_rfl, rfl⟩ fun G w vs hi hr => by
    obtain ⟨u, us, rfl, h1, hr⟩ := hr.uncons
    rw [hr.unnil]
    cases h1 with
    | iv _ _ h1 =>
      obtain ⟨b, cb, rfl, _, _, h4⟩ := ints_row hi.fz (by unfold maxLen; omega) h1
      exact sl_Clone b _ cb xs w h4 (by omega)
theorem pf_Most (xs : List Int) (hl : xs.length ≤ 1000000) : PF Try.prog 35 [.iv (iInts xs)] fun r H' => r = lint (lmost xs) ∧ H' = [] :=
  PF_of_walk ⟨_, Try.func35, by kernel_rfl, rfl⟩ fun G w vs hi hr => by
    obtain ⟨u, us, rfl, h1, hr⟩ := hr.uncons
    rw [hr.unnil]
    cases h1 with
    | iv _ _ h1 =>
      obtain ⟨b, cb, rfl, _, _, h4⟩ := ints_row hi.fz (by unfold maxLen; omega) h1
      exact (lit_Most b _ cb xs w h4).mono fun e w' h => ⟨h.1, h.2 ▸ Below.refl _ _⟩
end Go.Proofs.Ytdladbfjgkejiaa
