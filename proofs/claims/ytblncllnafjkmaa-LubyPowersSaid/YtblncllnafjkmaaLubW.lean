/- The contracts of luby's sequence, First, Sum and Next. -/
import Derived.Test.YtblncllnafjkmaaLubV
import Derived.Test.YtblncllnafjkmaaBlk
import Derived.ScopeJumps
import Derived.WalkMore
namespace Go.Proofs.Ytblncllnafjkmaa
open Go.RowKit
set_option linter.unusedVariables false
set_option linter.unusedSimpArgs false

/-- The two boxes of a sequence, at bu and bv, behind n calls. -/
def SqAt (w : World) (bu bv : Nat) (n : Nat) : Prop := bu ≠ bv ∧ Blk w bu #[.int .i64 ((sqU n).1 : Int)] 3 ∧ Blk w bv #[.int .i64 ((sqU n).2 : Int)] 3
theorem SqAt.later {w w' : World} {bu bv n : Nat} (h : SqAt w bu bv n) (hb : Below w.heap.size w w') : SqAt w' bu bv n := ⟨h.1, h.2.1.later hb, h.2.2.later hb⟩
/-- What a call of the sequence leaves: the boxes alone changed. -/
def SqStep (w w' : World) (bu bv : Nat) : Prop := w'.heap.size = w.heap.size ∧ (∀ k, k ≠ bu → k ≠ bv → w'.heap[k]? = w.heap[k]?) ∧ ∀ W : World, Below W.heap.size W w → W.heap.size ≤ bu → W.heap.size ≤ bv → Below W.heap.size W w'

theorem SqStep.refl (w : World) (bu bv : Nat) : SqStep w w bu bv := ⟨rfl, fun k _ _ => rfl, fun W h _ _ => h⟩
theorem SqStep.set {w w1 : World} {bu bv b : Nat} (h : SqStep w w1 bu bv) (hb : b = bu ∨ b = bv) (u : Value) : SqStep w (w1.setCell ⟨b, 0, none⟩ u) bu bv :=
  ⟨by simpa using h.1, fun k h1 h2 => (Below.heap_setCell w1 ⟨b, 0, none⟩ u k (by rcases hb with e | e <;> (show k ≠ b; omega))).trans (h.2.1 k h1 h2), fun W h1 h2 h3 => below_set (h.2.2 W h1 h2 h3) (by rcases hb with e | e <;> omega) 0 u⟩
theorem Blk.step {w w' : World} {bu bv b : Nat} {vs : Array Value} {t : TypeId} (h : Blk w b vs t) (hs : SqStep w w' bu bv) (h1 : b ≠ bu) (h2 : b ≠ bv) : Blk w' b vs t := (hs.2.1 b h1 h2).trans h
theorem set_one (x u : Value) : (#[x].setIfInBounds 0 u) = #[u] := rfl

theorem lub_sequence (w : World) : Calls Try.prog 17 #[] w fun e w' => e = .returned (.func (.func 20) #[] #[.pointer (some ⟨w.heap.size + 1, 0, none⟩), .pointer (some ⟨w.heap.size, 0, none⟩)]) ∧ SqAt w' w.heap.size (w.heap.size + 1) 0 ∧ Below w.heap.size w w' := by
  go_enter Try.func17, Try.ntmps17
  go_wp2_with fail
  go_returns
  refine ⟨rfl, ⟨by omega, (Blk.made w #[.int .i64 1] 3).later (by (repeat (first | (with_reducible exact Below.refl _ _) | (with_reducible assumption) | (with_reducible refine below_alloc ?_ _) | (with_reducible refine below_drew ?_) | (with_reducible refine below_drewN ?_ _) | (with_reducible refine below_step ?_ (by with_reducible assumption))))), ?_⟩, by (repeat (first | (with_reducible exact Below.refl _ _) | (with_reducible assumption) | (with_reducible refine below_alloc ?_ _) | (with_reducible refine below_drew ?_) | (with_reducible refine below_drewN ?_ _) | (with_reducible refine below_step ?_ (by with_reducible assumption))))⟩
  show Blk _ _ #[.int .i64 1] _
  have := Blk.made (w.alloc (.cells #[.int .i64 1] 3)) #[.int .i64 1] 3
  simpa using this
set_option maxRecDepth 100000 in
theorem lub_sequence1 (bu bv n : Nat) (w : World) (h : SqAt w bu bv n) (hn : n < 4611686018427387000) : Calls Try.prog 20 #[.pointer (some ⟨bv, 0, none⟩), .pointer (some ⟨bu, 0, none⟩)] w fun e w' => e = .returned (.int .i64 (lub (n + 1) : Int)) ∧ SqAt w' bu bv (n + 1) ∧ SqStep w w' bu bv := by
  obtain ⟨hne, hu, hv⟩ := h
  have c0 := hu.cell 0; have c1 := hv.cell 0
  have f0 := hu.free 0; have f1 := hv.free 0
  simp at c0 c1
  have hbd := sqU_bd n
  have hl := sqU_lub n
  have hlp := lub_pow (n + 1) (by omega)
  rw [← hl] at hlp ⊢
  have hand := and_neg (sqU n).1 (by omega) (by omega)
  have hyes := @sqU_yes n; have hno := @sqU_no n
  have HU := Lib.hid hu; have HV := Lib.hid hv
  clear hu hv hl
  generalize hs : sqU n = s at *
  obtain ⟨u, v⟩ := s
  dsimp only at *
  have HY := Lib.hid hyes; have HN := Lib.hid hno
  clear hyes hno hs
  by_cases hc : lowb u = v
  · have hd : (bits .and .i64 (u : Int) (-(u : Int)) == (v : Int)) = true := by rw [hand, hc]; simp
    have HC := Lib.hid hc
    clear hc hand
    go_enter Try.func20, Try.ntmps20
    go_wp2_with fail
    go_ret
    refine ⟨rfl, ⟨hne, ?_, ?_⟩, ((SqStep.refl w bu bv).set (Or.inl rfl) _).set (Or.inr rfl) _⟩
    · rw [HY.out HC.out]
      exact (HU.out.set 0 _).other (a := ⟨bv, 0, none⟩) (Ne.symm hne) _
    · rw [HY.out HC.out]
      exact (HV.out.other (a := ⟨bu, 0, none⟩) hne _).set 0 _
  · have hd : (bits .and .i64 (u : Int) (-(u : Int)) == (v : Int)) = false := by rw [hand]; simp; omega
    have HC := Lib.hid hc
    clear hc hand
    go_enter Try.func20, Try.ntmps20
    go_wp2_with fail
    go_ret
    refine ⟨rfl, ⟨hne, ?_, ?_⟩, (SqStep.refl w bu bv).set (Or.inr rfl) _⟩
    · rw [HN.out HC.out]
      exact HU.out.other (a := ⟨bv, 0, none⟩) (Ne.symm hne) _
    · rw [HN.out HC.out]
      have := HV.out.set 0 (.int .i64 ((v : Int) * 2))
      rw [set_one] at this
      show Blk _ bv #[.int .i64 ((2 * v : Nat) : Int)] _
      rw [show ((2 * v : Nat) : Int) = (v : Int) * 2 by omega]
      exact this

theorem lsum_sq (n : Nat) : lsum n ≤ n * n := by
  induction n with
  | zero => exact Nat.le_refl _
  | succ n ih =>
    have := (lub_pow (n + 1) (by omega)).2.2
    rw [lsum, Nat.add_mul, Nat.mul_add]; omega
theorem lub_First_no (n : Int) (w : World) (h : n < 1 ∨ 100000 < n) : Calls Try.prog 10 #[.int .i64 n] w fun e w' => e = .returned (.slice none 0 0) ∧ w = w' := by
  rcases h with h | h
  · go_enter Try.func10, Try.ntmps10
    go_wp2_with fail
    go_returns
    exact ⟨rfl, rfl⟩
  · have h2 : ¬ n < 1 := by omega
    go_enter Try.func10, Try.ntmps10
    go_wp2_with fail
    go_returns
    exact ⟨rfl, rfl⟩
def lubF (i : Nat) : Int := (lub (i + 1) : Int)
theorem lFirst_eq {n : Nat} (h1 : 1 ≤ n) (h2 : n ≤ 100000) : lFirst n = upTo lubF 0 n n := by
  unfold lFirst; rw [if_neg (by omega), upTo_full]; rfl
set_option maxRecDepth 100000 in
theorem lub_First_yes (n : Nat) (w : World) (h1 : 1 ≤ n) (h2 : n ≤ 100000) : Calls Try.prog 10 #[.int .i64 n] w fun e w' => ∃ v, e = .returned v ∧ OwnInts w' w.heap.size v (lFirst n) ∧ Below w.heap.size w w' := by
  have d1 : decide ((n : Int) < 1) = false := decide_eq_false (by omega)
  have d2 : decide (100000 < (n : Int)) = false := decide_eq_false (by omega)
  have d3 : (0 : Int) ≤ n := by omega
  rw [lFirst_eq h1 h2]
  have hmk := run_make_row' (P := Try.prog) 26 3 (.int .i64 0) 8 Try.underlying26 info_int rfl .i64 .i64 n (by omega) (by omega)
  go_enter Try.func10, Try.ntmps10
  go_wp2_with (go_at_call 17; refine (lub_sequence _).mono ?_; rintro e w1 ⟨rfl, hsq, hb1⟩)
  have hb2 : Below w.heap.size w (w1.alloc (.cells (madeCells #[.int .i64 0] n) 3)) := by (repeat (first | (with_reducible exact Below.refl _ _) | (with_reducible assumption) | (with_reducible refine below_alloc ?_ _) | (with_reducible refine below_drew ?_) | (with_reducible refine below_drewN ?_ _) | (with_reducible refine below_step ?_ (by with_reducible assumption))))
  have hz2 := Blk.made w1 (madeCells #[.int .i64 0] n) 3
  have hsq2 : SqAt (w1.alloc (.cells (madeCells #[.int .i64 0] n) 3)) w.heap.size (w.heap.size + 1) 0 := hsq.later (below_alloc (Below.refl _ _) _)
  have hlt1 : w.heap.size + 1 < w1.heap.size := hsq.2.2.lt
  generalize w1.alloc (.cells (madeCells #[.int .i64 0] n) 3) = w2 at *
  rw [madeInts, ← upTo_zero lubF] at hz2
  generalize hbo : w1.heap.size = bo at *
  clear hbo hmk hsq hb1
  go_loopw [5, 17] (fun _ i wr => ∃ k : Nat, k ≤ n ∧ i = .int .i64 k ∧ SqAt wr w.heap.size (w.heap.size + 1) k ∧ Below w.heap.size w wr ∧ Blk wr bo ((upTo lubF 0 n k).map (Value.int .i64)).toArray 3) (fun _ i _ => n - (intOf i).toNat)
  case atStart => exact ⟨0, Nat.zero_le _, rfl, hsq2, hb2, hz2⟩
  case round =>
    obtain ⟨k, hk, rfl, hq, hbr, hz⟩ := hrel
    by_cases hlt : k < n
    · have t1 : (0 : Int) ≤ (k : Int) := by omega
      have t2 : (k : Int) < (n : Int) := by omega
      have HQ := Lib.hid hq; have HZ := Lib.hid hz
      clear hq hz
      go_wp2_with fail
      refine (lub_sequence1 _ _ k _ HQ.out (by omega)).mono ?_
      rintro e w4 ⟨rfl, hq4, hst⟩
      have hz4 := HZ.out.step hst (by omega) (by omega)
      have hb4 := hst.2.2 _ hbr (Nat.le_refl _) (by omega)
      have hck := iblk_cell hz4 (k := k) (by rw [upTo_length]; exact hlt)
      have hfk := hz4.free k
      have HQ4 := Lib.hid hq4; have HZ4 := Lib.hid hz4
      have HU := Lib.hid (upTo_set lubF 0 n k)
      have HCE := Lib.hid hck
      have hck2 := cellAt_of hck
      clear hq4 hst hz4 hck
      go_wp2_with fail
      go_roundw
      case rel =>
        refine ⟨k + 1, by omega, by go_num, ⟨HQ4.out.1, HQ4.out.2.1.other (a := ⟨bo, k, none⟩) (by show bo ≠ _; omega) _, HQ4.out.2.2.other (a := ⟨bo, k, none⟩) (by show bo ≠ _; omega) _⟩, below_set hb4 (by omega) _ _, ?_⟩
        have := iblk_set HZ4.out k (lubF k)
        rw [HU.out] at this
        exact this
      case measure => simp [intOf]; omega
    · have hkn : k = n := by omega
      subst hkn
      go_wp2_with fail
      go_ret
      refine ⟨_, rfl, ?_, hbr⟩
      have := iblk_own (B := w.heap.size) hz (by omega) (by rw [upTo_length]; unfold maxLen; omega)
      rw [upTo_length] at this
      exact this
theorem lub_First (n : Int) (w : World) : Calls Try.prog 10 #[.int .i64 n] w fun e w' => ∃ v, e = .returned v ∧ OwnInts w' w.heap.size v (lFirst n) ∧ Below w.heap.size w w' := by
  by_cases h : n < 1 ∨ 100000 < n
  · refine (lub_First_no n w h).mono ?_
    rintro e w' ⟨rfl, rfl⟩
    exact ⟨_, rfl, by unfold lFirst; rw [if_pos h]; exact OwnInts.nil _ _, Below.refl _ _⟩
  · obtain ⟨m, rfl⟩ : ∃ m : Nat, n = m := ⟨n.toNat, by omega⟩
    exact lub_First_yes m w (by omega) (by omega)

theorem lFirst_len (n : Int) : (lFirst n).length = if n < 1 ∨ 100000 < n then 0 else n.toNat := by unfold lFirst; split <;> simp
set_option maxRecDepth 100000 in
theorem lub_Sum (n : Int) (w : World) : Calls Try.prog 12 #[.int .i64 n] w fun e w' => e = .returned (.int .i64 (lSum n)) ∧ Below w.heap.size w w' := by
  have hN : ∃ N : Nat, N ≤ 100000 ∧ (lFirst n).length = N ∧ lSum n = lsum N ∧ ∀ i, i < N → (lFirst n).getD i 0 = (lub (i + 1) : Int) := by
    by_cases h : n < 1 ∨ 100000 < n
    · exact ⟨0, by omega, by rw [lFirst_len, if_pos h], by unfold lSum; rw [if_pos h]; rfl, fun i hi => by omega⟩
    · refine ⟨n.toNat, by omega, by rw [lFirst_len, if_neg h], by unfold lSum; rw [if_neg h], fun i hi => ?_⟩
      unfold lFirst; rw [if_neg h]; simp [List.getD, hi]
  obtain ⟨N, hN1, hN2, hN3, hN4⟩ := hN
  rw [hN3]
  clear hN3
  go_enter Try.func12, Try.ntmps12
  go_wp2_with fail
  refine (lub_First n _).mono ?_
  rintro e w1 ⟨v, rfl, hown, hb1⟩
  obtain ⟨a, len, cap, rfl, _, _, hr⟩ := hown.ints
  have hlN : len = N := by rw [← hr.1]; exact hN2
  subst hlN
  have HR := Lib.hid hr; have HG := Lib.hid hN4
  clear hr hN4 hN2 hown
  go_wp2_with fail
  go_loopw [3, 5, 9] (fun t _ i wr => ∃ k : Nat, k ≤ len ∧ i = .int .i64 k ∧ t = .int .i64 (lsum k : Int) ∧ Below w1.heap.size w1 wr) (fun _ _ i _ => len - (intOf i).toNat)
  case atStart => exact ⟨0, Nat.zero_le _, rfl, rfl, Below.refl _ _⟩
  case round =>
    obtain ⟨k, hk, rfl, rfl, hbr⟩ := hrel
    by_cases hlt : k < len
    · have hra := HR.out.later hbr
      obtain ⟨b, off, rfl, hc⟩ := hra.2.2 (by omega)
      have hck := hc k hlt
      rw [HG.out k hlt] at hck
      have t1 : (0 : Int) ≤ (k : Int) := by omega
      have t2 : (k : Int) < (len : Int) := by omega
      have hl := (lub_pow (k + 1) (by omega)).2
      have hq := lsum_sq k
      have hq2 : k * k ≤ 100000 * 100000 := Nat.mul_le_mul (by omega) (by omega)
      have HS : Hid (lsum (k + 1) = lsum k + lub (k + 1)) := Lib.hid rfl
      clear hc hra
      generalize lub (k + 1) = x at *
      generalize lsum k = t at *
      go_wp2_with fail
      go_roundw
      case rel => exact ⟨k + 1, by omega, by go_num, by rw [HS.out]; go_num, by (repeat (first | (with_reducible exact Below.refl _ _) | (with_reducible assumption) | (with_reducible refine below_alloc ?_ _) | (with_reducible refine below_drew ?_) | (with_reducible refine below_drewN ?_ _) | (with_reducible refine below_step ?_ (by with_reducible assumption))))⟩
      case measure => simp [intOf]; omega
    · have hkn : k = len := by omega
      subst hkn
      go_wp2_with fail
      go_ret
      exact ⟨rfl, by (repeat (first | (with_reducible exact Below.refl _ _) | (with_reducible assumption) | (with_reducible refine below_alloc ?_ _) | (with_reducible refine below_drew ?_) | (with_reducible refine below_drewN ?_ _) | (with_reducible refine below_step ?_ (by with_reducible assumption))))⟩

theorem lNext_no {c u : Int} (h : ¬ lNextOk c u) : c < 0 ∨ (0 ≤ c ∧ 1000000 < c) ∨ (0 ≤ c ∧ c ≤ 1000000 ∧ u < 1) ∨ (0 ≤ c ∧ c ≤ 1000000 ∧ 1 ≤ u ∧ 1000000 < u) := by unfold lNextOk at h; omega
theorem lub_Next_no (c u : Int) (w : World) (h : ¬ lNextOk c u) : Calls Try.prog 14 #[.int .i64 c, .int .i64 u] w fun e w' => e = .returned (.int .i64 0) ∧ w = w' := by
  rcases lNext_no h with h | ⟨h, h2⟩ | ⟨h, h2, h3⟩ | ⟨h, h2, h3, h4⟩
  all_goals
    go_enter Try.func14, Try.ntmps14
    go_wp2_with fail
    go_step3
    go_wp2_with fail
    all_goals ((try rw [Exit.noGoto_ret]); go_ret; exact ⟨rfl, rfl⟩)
theorem lnext_step {c u k : Nat} (hc : c ≤ 1000000) (hu : u ≤ 1000000) (hu1 : 1 ≤ u) (h : u * lsum k ≤ c) : k ≤ 1000000 ∧ u * lub (k + 1) ≤ 2000000 ∧ u * lsum (k + 1) = u * lsum k + u * lub (k + 1) := by
  have h1 := lsum_ge k
  have h2 := (lub_pow (k + 1) (by omega)).2.2
  have h3 : lsum k ≤ u * lsum k := Nat.le_mul_of_pos_left _ hu1
  have h4 : u * lub (k + 1) ≤ u * (lsum k + 1) := Nat.mul_le_mul_left _ (by omega)
  rw [Nat.mul_add, Nat.mul_one] at h4
  exact ⟨by omega, by omega, by rw [lsum, Nat.mul_add]⟩
set_option maxHeartbeats 2000000 in
theorem lub_Next_yes (c u : Nat) (w : World) (h : lNextOk c u) : Calls Try.prog 14 #[.int .i64 c, .int .i64 u] w fun e w' => e = .returned (.int .i64 ((u * lsum (lmany c u) : Nat) : Int)) ∧ Below w.heap.size w w' := by
  obtain ⟨h1, h2, h3, h4⟩ := h
  have d1 : decide ((c : Int) < 0) = false := decide_eq_false (by omega)
  have d2 : decide (1000000 < (c : Int)) = false := decide_eq_false (by omega)
  have d3 : decide ((u : Int) < 1) = false := decide_eq_false (by omega)
  have d4 : decide (1000000 < (u : Int)) = false := decide_eq_false (by omega)
  go_enter Try.func14, Try.ntmps14
  have HI := Lib.hid (lmany_is (c := c) (u := u) (by omega))
  go_wp2_with fail
  refine wp_scope_jumps 0 (fun a' w' => ∃ (k : Nat) (v6 v7 v8 v9 v10 v11 v12 v13 v14 v15 v16 v17 v18 v19 v20 v21 v22 v23 v24 v25 v26 v27 v28 v29 v30 : Value),
    a' = { tmps := #[.int .i64 c, .int .i64 u, undef, undef, .int .i64 0, .func (.func 20) #[] #[.pointer (some ⟨w.heap.size + 1, 0, none⟩), .pointer (some ⟨w.heap.size, 0, none⟩)], v6, v7, v8, v9, v10, v11, v12, v13, v14, v15, v16, v17, v18, v19, v20, v21, v22, v23, v24, v25, v26, v27, v28, v29, v30, undef], defers := [] } ∧ v6 = .int .i64 ((u * lsum k : Nat) : Int) ∧ 1 ≤ k ∧ u * lsum k ≤ c ∧ SqAt w' w.heap.size (w.heap.size + 1) k ∧ Below w.heap.size w w') (fun a' _ => c + 1 - (intOf (a'.tmps.getD 6 undef)).toNat) rfl ?_ ?_
  · go_wp2_with (go_at_call 17; refine (lub_sequence _).mono ?_; rintro e w1 ⟨rfl, hsq, hb1⟩)
    go_step3
    clear d1 d2 d3 d4
    have H0 : Hid (u * lsum 0 = 0) := Lib.hid (by rw [lsum, Nat.mul_zero])
    obtain ⟨k, hk0⟩ : ∃ k : Nat, k = 0 := ⟨0, rfl⟩
    have hle : u * lsum k ≤ c := by rw [hk0, H0.out]; omega
    have hsq : SqAt w1 w.heap.size (w.heap.size + 1) k := by rw [hk0]; exact hsq
    have HK := Lib.hid hk0
    clear hk0
    have hx := lnext_step (c := c) (u := u) (k := k) (by omega) (by omega) (by omega) hle
    have HLM : Hid (c < u * lsum (k + 1) → lmany c u = k + 1) := Lib.hid (fun h => lmany_eq (by omega) h (fun j hj => Nat.le_trans (Nat.mul_le_mul_left _ (lsum_le (m := j) (n := k) (by omega))) hle))
    obtain ⟨hx1, hx2, hx3⟩ := hx
    have HX := Lib.hid hx3
    have HQ := Lib.hid hsq
    clear hsq hx3
    go_wp2_with fail
    refine (lub_sequence1 _ _ k _ HQ.out (by omega)).mono ?_
    rintro e w4 ⟨rfl, hq4, hst⟩
    have hb4 := hst.2.2 _ hb1 (Nat.le_refl _) (by omega)
    have e1 : wrap64 ((u : Int) * (lub (k + 1) : Int)) = ((u * lub (k + 1) : Nat) : Int) := by rw [← Int.natCast_mul]; exact IntWalk.wrap64_in _ ⟨by omega, by omega⟩
    have HQ4 := Lib.hid hq4
    clear hq4 hst
    have hpos : 0 < u * lub (k + 1) := Nat.mul_pos (by omega) (by have := (lub_pow (k + 1) (by omega)).2.1; omega)
    generalize hT : u * lub (k + 1) = T at *
    generalize lub (k + 1) = L at *
    generalize hS : u * lsum k = S at *
    generalize hS2 : u * lsum (k + 1) = S2 at *
    have HS := Lib.hid hS; have HS2 := Lib.hid hS2
    clear hT hS hS2
    have HZ : Hid (S = 0) := Lib.hid (by rw [← HS.out, HK.out, H0.out])
    by_cases hc : T ≤ c
    · have d1 : decide ((T : Int) ≤ (c : Int)) = true := by simpa using hc
      go_wp2_with fail
      go_step3
      refine ⟨rfl, k + 1, _, _, _, _, _, _, _, _, _, _, _, _, _, _, _, _, _, _, _, _, _, _, _, _, _, rfl, ?_, by omega, ?_, HQ4.out, hb4⟩
      · rw [HS2.out, HX.out, HZ.out, Nat.zero_add]
      · rw [HS2.out, HX.out, HZ.out]; omega
    · have d1 : decide ((T : Int) ≤ (c : Int)) = false := by simpa using hc
      go_wp2_with fail
      simp only [Exit.jump]
      go_ret
      refine ⟨ret_int ?_, hb4⟩
      rw [HLM.out (by rw [HX.out, HZ.out]; omega), HS2.out, HX.out, HZ.out, Nat.zero_add]
  · rintro a' w1 ⟨k, v6, v7, v8, v9, v10, v11, v12, v13, v14, v15, v16, v17, v18, v19, v20, v21, v22, v23, v24, v25, v26, v27, v28, v29, v30, rfl, rfl, hk1, hle, hsq, hb1⟩
    clear d1 d2 d3 d4
    have hx := lnext_step (c := c) (u := u) (k := k) (by omega) (by omega) (by omega) hle
    have HLM : Hid (c < u * lsum (k + 1) → lmany c u = k + 1) := Lib.hid (fun h => lmany_eq (by omega) h (fun j hj => Nat.le_trans (Nat.mul_le_mul_left _ (lsum_le (m := j) (n := k) (by omega))) hle))
    obtain ⟨hx1, hx2, hx3⟩ := hx
    have HX := Lib.hid hx3
    have HQ := Lib.hid hsq
    clear hsq hx3
    go_wp2_with fail
    refine (lub_sequence1 _ _ k _ HQ.out (by omega)).mono ?_
    rintro e w4 ⟨rfl, hq4, hst⟩
    have hb4 := hst.2.2 _ hb1 (Nat.le_refl _) (by omega)
    have e1 : wrap64 ((u : Int) * (lub (k + 1) : Int)) = ((u * lub (k + 1) : Nat) : Int) := by rw [← Int.natCast_mul]; exact IntWalk.wrap64_in _ ⟨by omega, by omega⟩
    have HQ4 := Lib.hid hq4
    clear hq4 hst
    have hpos : 0 < u * lub (k + 1) := Nat.mul_pos (by omega) (by have := (lub_pow (k + 1) (by omega)).2.1; omega)
    generalize hT : u * lub (k + 1) = T at *
    generalize lub (k + 1) = L at *
    generalize hS : u * lsum k = S at *
    generalize hS2 : u * lsum (k + 1) = S2 at *
    have HS := Lib.hid hS; have HS2 := Lib.hid hS2
    clear hT hS hS2
    by_cases hc : S + T ≤ c
    · have d1 : decide ((S : Int) + (T : Int) ≤ (c : Int)) = true := by rw [decide_eq_true_eq]; omega
      go_wp2_with fail
      go_step3
      refine ⟨rfl, ⟨k + 1, _, _, _, _, _, _, _, _, _, _, _, _, _, _, _, _, _, _, _, _, _, _, _, _, _, rfl, ?_, by omega, ?_, HQ4.out, hb4⟩, ?_⟩
      · rw [HS2.out, HX.out, Int.natCast_add]
      · rw [HS2.out, HX.out]; omega
      · simp [intOf]
        have h9 : (u : Int) * (lsum k : Int) = (S : Int) := by exact_mod_cast HS.out
        rw [h9]; omega
    · have d1 : decide ((S : Int) + (T : Int) ≤ (c : Int)) = false := by rw [decide_eq_false_iff_not]; omega
      go_wp2_with fail
      simp only [Exit.jump]
      go_ret
      refine ⟨ret_int ?_, hb4⟩
      rw [HLM.out (by rw [HX.out]; omega), HS2.out, HX.out, Int.natCast_add]
theorem lub_Next (c u : Int) (w : World) : Calls Try.prog 14 #[.int .i64 c, .int .i64 u] w fun e w' => e = .returned (.int .i64 (lNext c u)) ∧ Below w.heap.size w w' := by
  unfold lNext
  by_cases h : lNextOk c u
  · rw [if_pos h]
    have h2 := h
    unfold lNextOk at h2
    obtain ⟨m, rfl⟩ : ∃ m : Nat, c = m := ⟨c.toNat, by omega⟩
    obtain ⟨n, rfl⟩ : ∃ n : Nat, u = n := ⟨u.toNat, by omega⟩
    exact lub_Next_yes m n w h
  · rw [if_neg h]
    refine (lub_Next_no c u w h).mono ?_
    rintro e w' ⟨rfl, rfl⟩
    exact ⟨rfl, Below.refl _ _⟩
end Go.Proofs.Ytblncllnafjkmaa
