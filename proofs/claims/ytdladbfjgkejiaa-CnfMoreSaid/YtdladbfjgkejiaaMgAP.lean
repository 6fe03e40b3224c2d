import Derived.Test.YtdladbfjgkejiaaMgAO
import Derived.Laws.EntriesVeiled
import Derived.Test.YtdladbfjgkejiaaMgAM
namespace Go.Proofs.Ytdladbfjgkejiaa
open Go.RowKit
set_option linter.unusedVariables false
set_option linter.unusedSimpArgs false

def cntC (h g o : Nat) : Array Value := #[.int .i64 h, .int .i64 g, .int .i64 o]
theorem set0 (x y z u : Value) : (#[x, y, z].setIfInBounds 0 u) = #[u, y, z] := rfl
theorem set1 (x y z u : Value) : (#[x, y, z].setIfInBounds 1 u) = #[x, u, z] := rfl
theorem set2 (x y z u : Value) : (#[x, y, z].setIfInBounds 2 u) = #[x, y, u] := rfl
/-- One more literal. -/
def cnt1 (l : List Int) (v x : Int) (n : Nat) : Nat := n + if aIs l v x = true then 1 else 0

set_option maxRecDepth 100000 in
set_option maxHeartbeats 2000000 in
theorem asg_Count1 (b5 b6 B : Nat) (f : Value) (a : Option Addr) (len cap : Nat) (xs : List Int) (x : Int) (h g o : Nat) (w : World) (hr : IntRow w a len xs) (hf : ValFn B w f a len cap xs) (hbB : b5 < B) (h56 : b5 ≠ b6)
    (hc : Blk w b5 (cntC h g o) 76) (h6 : w.cell? ⟨b6, 0, none⟩ = some f) (hx1 : -9223372036854775808 ≤ x) (hx2 : x ≤ 9223372036854775807) (hh : h ≤ 1000000 ∧ g ≤ 1000000 ∧ o ≤ 1000000) :
    Calls Try.prog 56 #[.int .i64 x, .pointer (some ⟨b6, 0, none⟩), .pointer (some ⟨b5, 0, none⟩)] w fun e w' => e = .returned (.tuple #[]) ∧ Blk w' b5 (cntC (cnt1 xs 1 x h) (cnt1 xs (-1) x g) (cnt1 xs 0 x o)) 76 ∧ OneKeep w w' b5 := by
  have hcall : ∃ N c, f = .func (.func N) #[] #[.pointer (some c)] ∧ (N = 58 ∨ N = 60) := by
    rcases hf with ⟨b, _, e, _⟩ | ⟨b, m, n, _, _, e, _⟩
    · exact ⟨_, _, e, Or.inl rfl⟩
    · exact ⟨_, _, e, Or.inr rfl⟩
  have HC := Lib.hid hc
  rcases hf with ⟨b, _, rfl, hbc⟩ | ⟨b, m, n, _, _, rfl, hbc, hM⟩
  · clear hcall hc
    go_enter Try.func56, Try.ntmps56
    go_wp2_with fail
    refine (asg_values1 b a len cap xs x _ hbc hr).mono ?_
    rintro e w2 ⟨rfl, hbv⟩
    have hb : Below w.heap.size w w2 := hbv
    have hc2 := HC.out.later hb
    have q0 := hc2.cell 0; have q1 := hc2.cell 1; have q2 := hc2.cell 2
    have f0 := hc2.free 0; have f1 := hc2.free 1; have f2 := hc2.free 2
    simp [cntC] at q0 q1 q2
    have HC2 := Lib.hid hc2
    have hok := OneKeep.of_below (b := b5) hb
    clear hc2
    rcases aVal_cases xs x with ⟨k, k2⟩ | ⟨k, ⟨_, k2⟩ | ⟨_, _, k2⟩ | ⟨_, _, k2⟩⟩
    all_goals
      have i1 : aIs xs 1 x = decide (lvar x ≠ 0 ∧ aVal xs x = 1) := rfl
      have i2 : aIs xs (-1) x = decide (lvar x ≠ 0 ∧ aVal xs x = -1) := rfl
      have i3 : aIs xs 0 x = decide (lvar x ≠ 0 ∧ aVal xs x = 0) := rfl
      rw [k2] at i1 i2 i3
      simp [k] at i1 i2 i3
      have I1 := Lib.hid i1; have I2 := Lib.hid i2; have I3 := Lib.hid i3
      obtain ⟨t0, d0, k0⟩ : ∃ t0, (lvar x != 0) = t0 ∧ (t0 = decide (lvar x ≠ 0)) := ⟨_, rfl, by by_cases h : lvar x = 0 <;> simp [h]⟩
      first
      | (have k9 : t0 = false := by (rw [k0, decide_eq_false]; simpa using k))
        subst k9
      | (have k9 : t0 = true := by (rw [k0, decide_eq_true]; exact k))
        subst k9
      clear k0
      rw [k2]
      clear i1 i2 i3 k k2
      go_wp2_with (go_at_call 24; refine (lit_Var _ _).mono ?_; rintro e w' ⟨rfl, rfl⟩)
      go_returns
      refine ⟨rfl, ?_, ?_⟩
      · have z := HC2.out
        unfold cnt1
        rw [I1.out, I2.out, I3.out]
        simp only [if_true, if_false, Bool.false_eq_true, Nat.add_zero]
        first
        | exact z
        | (have := z.set 0 (.int .i64 ((h : Int) + 1)); unfold cntC at this ⊢; rw [set0] at this; exact this)
        | (have := z.set 1 (.int .i64 ((g : Int) + 1)); unfold cntC at this ⊢; rw [set1] at this; exact this)
        | (have := z.set 2 (.int .i64 ((o : Int) + 1)); unfold cntC at this ⊢; rw [set2] at this; exact this)
      · first
        | exact hok
        | exact hok.set _ _
  · clear hcall hc
    go_enter Try.func56, Try.ntmps56
    go_wp2_with fail
    refine (asg_values2 b m n xs x _ hbc hM hx1 hx2).mono ?_
    rintro e w2 ⟨rfl, hbv⟩
    have hb : Below w.heap.size w w2 := hbv
    have hc2 := HC.out.later hb
    have q0 := hc2.cell 0; have q1 := hc2.cell 1; have q2 := hc2.cell 2
    have f0 := hc2.free 0; have f1 := hc2.free 1; have f2 := hc2.free 2
    simp [cntC] at q0 q1 q2
    have HC2 := Lib.hid hc2
    have hok := OneKeep.of_below (b := b5) hb
    clear hc2
    rcases aVal_cases xs x with ⟨k, k2⟩ | ⟨k, ⟨_, k2⟩ | ⟨_, _, k2⟩ | ⟨_, _, k2⟩⟩
    all_goals
      have i1 : aIs xs 1 x = decide (lvar x ≠ 0 ∧ aVal xs x = 1) := rfl
      have i2 : aIs xs (-1) x = decide (lvar x ≠ 0 ∧ aVal xs x = -1) := rfl
      have i3 : aIs xs 0 x = decide (lvar x ≠ 0 ∧ aVal xs x = 0) := rfl
      rw [k2] at i1 i2 i3
      simp [k] at i1 i2 i3
      have I1 := Lib.hid i1; have I2 := Lib.hid i2; have I3 := Lib.hid i3
      obtain ⟨t0, d0, k0⟩ : ∃ t0, (lvar x != 0) = t0 ∧ (t0 = decide (lvar x ≠ 0)) := ⟨_, rfl, by by_cases h : lvar x = 0 <;> simp [h]⟩
      first
      | (have k9 : t0 = false := by (rw [k0, decide_eq_false]; simpa using k))
        subst k9
      | (have k9 : t0 = true := by (rw [k0, decide_eq_true]; exact k))
        subst k9
      clear k0
      rw [k2]
      clear i1 i2 i3 k k2
      go_wp2_with (go_at_call 24; refine (lit_Var _ _).mono ?_; rintro e w' ⟨rfl, rfl⟩)
      go_returns
      refine ⟨rfl, ?_, ?_⟩
      · have z := HC2.out
        unfold cnt1
        rw [I1.out, I2.out, I3.out]
        simp only [if_true, if_false, Bool.false_eq_true, Nat.add_zero]
        first
        | exact z
        | (have := z.set 0 (.int .i64 ((h : Int) + 1)); unfold cntC at this ⊢; rw [set0] at this; exact this)
        | (have := z.set 1 (.int .i64 ((g : Int) + 1)); unfold cntC at this ⊢; rw [set1] at this; exact this)
        | (have := z.set 2 (.int .i64 ((o : Int) + 1)); unfold cntC at this ⊢; rw [set2] at this; exact this)
      · first
        | exact hok
        | exact hok.set _ _

theorem cnt1_step (l c : List Int) (v x : Int) : cnt1 l v x (aN l c v) = aN l (c ++ [x]) v := (aN_snoc l c x v).symm
def cntV (l c : List Int) : Value := .agg (cntC (aN l c 1) (aN l c (-1)) (aN l c 0))
set_option maxRecDepth 100000 in
set_option maxHeartbeats 2000000 in
theorem asg_Count (a : Option Addr) (len cap : Nat) (l : List Int) (a2 : Option Addr) (m cap2 : Nat) (c : List Int) (w : World) (hr : IntRow w a len l) (hr2 : IntRow w a2 m c) (hlen : len ≤ 1000000) (hlen2 : m ≤ 1000000) (hf : Fits' l) (hf2 : Fits' c) :
    Calls Try.prog 51 #[.slice a len cap, .slice a2 m cap2] w fun e w' => e = .returned (cntV l c) ∧ Below w.heap.size w w' := by
  have HR := Lib.hid hr; have HR2 := Lib.hid hr2
  have HL2 := Lib.hid hr2.1
  have HF2 := Lib.hid hf2
  have h4 : Blk ((w.alloc (.cells #[.int .i64 0, .int .i64 0, .int .i64 0] 76)).alloc (.cells #[.int .i64 0, .int .i64 0, .int .i64 0] 76)) w.heap.size (cntC 0 0 0) 76 := (Blk.made w _ _).later (below_alloc (Below.refl _ _) _)
  have h5 : Blk ((w.alloc (.cells #[.int .i64 0, .int .i64 0, .int .i64 0] 76)).alloc (.cells #[.int .i64 0, .int .i64 0, .int .i64 0] 76)) (w.heap.size + 1) (cntC 0 0 0) 76 := by
    have := Blk.made (w.alloc (.cells #[.int .i64 0, .int .i64 0, .int .i64 0] 76)) #[.int .i64 0, .int .i64 0, .int .i64 0] 76
    rw [World.size_alloc] at this
    exact this
  have hB0 : Below w.heap.size w ((w.alloc (.cells #[.int .i64 0, .int .i64 0, .int .i64 0] 76)).alloc (.cells #[.int .i64 0, .int .i64 0, .int .i64 0] 76)) := by (repeat (first | (with_reducible exact Below.refl _ _) | (with_reducible assumption) | (with_reducible refine below_alloc ?_ _) | (with_reducible refine below_drew ?_) | (with_reducible refine below_drewN ?_ _) | (with_reducible refine below_step ?_ (by with_reducible assumption))))
  clear hr hr2 hf2
  go_enter Try.func51, Try.ntmps51
  go_wp2_with fail
  generalize ((w.alloc (.cells #[.int .i64 0, .int .i64 0, .int .i64 0] 76)).alloc (.cells #[.int .i64 0, .int .i64 0, .int .i64 0] 76)) = w1 at *
  refine (asg_values a len cap l m w1 (HR.out.later hB0) hlen hf).mono ?_
  rintro e w2 ⟨f, rfl, hv, hb2⟩
  have hv0 := hv
  rcases hv with ⟨bb, _, rfl, _⟩ | ⟨bb, mm, nn, _, _, rfl, _, _⟩
  · have hv := hv0
    clear hv0
    have hl5 := h5.lt
    have h42 := h4.later hb2; have h52 := h5.later hb2
    have hB2 := below_step hB0 hb2
    have hsz2 := hb2.size
    have hb3 : Below w2.heap.size w2 (w2.alloc (.cells #[.func (.func 58) #[] #[.pointer (some ⟨bb, 0, none⟩)]] 46)) := by (repeat (first | (with_reducible exact Below.refl _ _) | (with_reducible assumption) | (with_reducible refine below_alloc ?_ _) | (with_reducible refine below_drew ?_) | (with_reducible refine below_drewN ?_ _) | (with_reducible refine below_step ?_ (by with_reducible assumption))))
    have h43 := h42.later hb3; have h53 := h52.later hb3; have hv3 := hv.later hb3
    have hB3 := below_step hB2 hb3
    have h63 : (w2.alloc (.cells #[.func (.func 58) #[] #[.pointer (some ⟨bb, 0, none⟩)]] 46)).cell? ⟨w2.heap.size, 0, none⟩ = some (.func (.func 58) #[] #[.pointer (some ⟨bb, 0, none⟩)]) := (Blk.made w2 #[.func (.func 58) #[] #[.pointer (some ⟨bb, 0, none⟩)]] 46).cell 0
    clear h4 h5 h42 h52 hv hB0 hb2 hB2 hb3
    go_wp2_with fail
    generalize w2.alloc (.cells #[.func (.func 58) #[] #[.pointer (some ⟨bb, 0, none⟩)]] 46) = w3 at *
    have hgf : ∃ f, f = (.func (.func 58) #[] #[.pointer (some ⟨bb, 0, none⟩)] : Value) := ⟨_, rfl⟩
    obtain ⟨f, hfe⟩ := hgf
    rw [← hfe] at hv3 h63
    have HFE := Lib.hid hfe
    clear hfe
    generalize hb6 : w2.heap.size = b6 at *
    clear hb6
    have H0 : Hid (∀ v, aN l (c.take 0) v = 0) := Lib.hid (fun v => rfl)
    go_loopw [9, 17] (fun _ i wr => ∃ k : Nat, k ≤ m ∧ i = .int .i64 k ∧ Blk wr (w.heap.size + 1) (cntC (aN l (c.take k) 1) (aN l (c.take k) (-1)) (aN l (c.take k) 0)) 76 ∧ Blk wr w.heap.size (cntC 0 0 0) 76 ∧ ValFn w1.heap.size wr f a len cap l ∧ wr.cell? ⟨b6, 0, none⟩ = some f ∧ Below w.heap.size w wr) (fun _ i _ => m - (intOf i).toNat)
    case atStart => exact ⟨0, Nat.zero_le _, rfl, by rw [H0.out, H0.out, H0.out]; exact h53, h43, hv3, h63, hB3⟩
    case round =>
      clear h53 h43 hv3 h63 hB3
      obtain ⟨k, hk, rfl, h5, h4, hv, h6, hB⟩ := hrel
      have H5 := Lib.hid h5; have H4 := Lib.hid h4; have HV := Lib.hid hv
      have t1 : (0 : Int) ≤ (k : Int) := by omega
      by_cases hlt : k < m
      · have hra := HR2.out.later hB
        obtain ⟨b, off, rfl, hc⟩ := hra.2.2 (by omega)
        have hck := hc k hlt
        have t2 : (k : Int) < (m : Int) := by omega
        obtain ⟨n1, n2⟩ := HF2.out _ (at_mem HL2.out hlt)
        have HT : Hid (c.take (k + 1) = c.take k ++ [c.getD k 0]) := Lib.hid (take_snoc c k (by rw [HL2.out]; exact hlt))
        have hct := asg_Count1 (w.heap.size + 1) b6 w1.heap.size f a len cap l (c.getD k 0) (aN l (c.take k) 1) (aN l (c.take k) (-1)) (aN l (c.take k) 0) wr (HR.out.later hB) hv hl5 (by omega) h5 h6 n1 n2 ⟨Nat.le_trans (aN_le _ _ _) (by rw [List.length_take]; omega), Nat.le_trans (aN_le _ _ _) (by rw [List.length_take]; omega), Nat.le_trans (aN_le _ _ _) (by rw [List.length_take]; omega)⟩
        rw [cnt1_step, cnt1_step, cnt1_step, ← HT.out] at hct
        have HCT := Lib.hid hct
        clear hct hc hra h5 h4 hv
        generalize c.getD k 0 = z at *
        go_wp2_with fail
        refine HCT.out.mono ?_
        rintro e w4 ⟨rfl, h54, hok⟩
        have h64 := hok.cell h6 (by show b6 ≠ _; omega)
        have H54 := Lib.hid h54
        have H44 : Hid (Blk w4 w.heap.size (cntC 0 0 0) 76) := Lib.hid ((hok.2.1 _ H4.out.lt (by omega)).trans H4.out)
        have HV4 := Lib.hid (HV.out.step hok hl5)
        have hB4 := hok.2.2 _ hB (by omega)
        clear h54 hok
        go_wp2_with fail
        go_roundw
        case rel => exact ⟨k + 1, by omega, by go_num, H54.out, H44.out, HV4.out, h64, hB4⟩
        case measure => simp [intOf]; omega
      · have hkm : k = m := by omega
        subst hkm
        have HT : Hid (c.take k = c) := Lib.hid (List.take_of_length_le (by rw [HL2.out]; exact Nat.le_refl _))
        rw [HT.out] at h5
        have q0 := h5.cell 0; have q1 := h5.cell 1; have q2 := h5.cell 2
        have r0 := h4.cell 0; have r1 := h4.cell 1; have r2 := h4.cell 2
        have g0 := h4.free 0; have g1 := h4.free 1; have g2 := h4.free 2
        simp [cntC] at q0 q1 q2 r0 r1 r2
        have z := ((h4.set 0 (.int .i64 (aN l c 1 : Int))).set 1 (.int .i64 (aN l c (-1) : Int))).set 2 (.int .i64 (aN l c 0 : Int))
        have z0 := z.cell 0; have z1 := z.cell 1; have z2 := z.cell 2
        simp only [cntC, set0, set1, set2] at z0 z1 z2
        have Z0 := Lib.hid z0; have Z1 := Lib.hid z1; have Z2 := Lib.hid z2
        clear h5 h4 hv z z0 z1 z2
        go_wp2_with fail
        have z0 := Z0.out; have z1 := Z1.out; have z2 := Z2.out
        have hbe : Below w.heap.size w (((wr.setCell ⟨w.heap.size, 0, none⟩ (.int .i64 (aN l c 1 : Int))).setCell ⟨w.heap.size, 1, none⟩ (.int .i64 (aN l c (-1) : Int))).setCell ⟨w.heap.size, 2, none⟩ (.int .i64 (aN l c 0 : Int))) := below_set (below_set (below_set hB (Nat.le_refl _) _ _) (Nat.le_refl _) _ _) (Nat.le_refl _) _ _
        generalize (((wr.setCell ⟨w.heap.size, 0, none⟩ (.int .i64 (aN l c 1 : Int))).setCell ⟨w.heap.size, 1, none⟩ (.int .i64 (aN l c (-1) : Int))).setCell ⟨w.heap.size, 2, none⟩ (.int .i64 (aN l c 0 : Int))) = wz at *
        simp at z0 z1 z2
        exact bodyPost_ret (v := cntV l c) (by simp [results, Try.results51, go_sem, z0, z1, z2, cntV, cntC]) rfl ⟨rfl, hbe⟩
  · have hv := hv0
    clear hv0
    have hl5 := h5.lt
    have h42 := h4.later hb2; have h52 := h5.later hb2
    have hB2 := below_step hB0 hb2
    have hsz2 := hb2.size
    have hb3 : Below w2.heap.size w2 (w2.alloc (.cells #[.func (.func 60) #[] #[.pointer (some ⟨bb, 0, none⟩)]] 46)) := by (repeat (first | (with_reducible exact Below.refl _ _) | (with_reducible assumption) | (with_reducible refine below_alloc ?_ _) | (with_reducible refine below_drew ?_) | (with_reducible refine below_drewN ?_ _) | (with_reducible refine below_step ?_ (by with_reducible assumption))))
    have h43 := h42.later hb3; have h53 := h52.later hb3; have hv3 := hv.later hb3
    have hB3 := below_step hB2 hb3
    have h63 : (w2.alloc (.cells #[.func (.func 60) #[] #[.pointer (some ⟨bb, 0, none⟩)]] 46)).cell? ⟨w2.heap.size, 0, none⟩ = some (.func (.func 60) #[] #[.pointer (some ⟨bb, 0, none⟩)]) := (Blk.made w2 #[.func (.func 60) #[] #[.pointer (some ⟨bb, 0, none⟩)]] 46).cell 0
    clear h4 h5 h42 h52 hv hB0 hb2 hB2 hb3
    go_wp2_with fail
    generalize w2.alloc (.cells #[.func (.func 60) #[] #[.pointer (some ⟨bb, 0, none⟩)]] 46) = w3 at *
    have hgf : ∃ f, f = (.func (.func 60) #[] #[.pointer (some ⟨bb, 0, none⟩)] : Value) := ⟨_, rfl⟩
    obtain ⟨f, hfe⟩ := hgf
    rw [← hfe] at hv3 h63
    have HFE := Lib.hid hfe
    clear hfe
    generalize hb6 : w2.heap.size = b6 at *
    clear hb6
    have H0 : Hid (∀ v, aN l (c.take 0) v = 0) := Lib.hid (fun v => rfl)
    go_loopw [9, 17] (fun _ i wr => ∃ k : Nat, k ≤ m ∧ i = .int .i64 k ∧ Blk wr (w.heap.size + 1) (cntC (aN l (c.take k) 1) (aN l (c.take k) (-1)) (aN l (c.take k) 0)) 76 ∧ Blk wr w.heap.size (cntC 0 0 0) 76 ∧ ValFn w1.heap.size wr f a len cap l ∧ wr.cell? ⟨b6, 0, none⟩ = some f ∧ Below w.heap.size w wr) (fun _ i _ => m - (intOf i).toNat)
    case atStart => exact ⟨0, Nat.zero_le _, rfl, by rw [H0.out, H0.out, H0.out]; exact h53, h43, hv3, h63, hB3⟩
    case round =>
      clear h53 h43 hv3 h63 hB3
      obtain ⟨k, hk, rfl, h5, h4, hv, h6, hB⟩ := hrel
      have H5 := Lib.hid h5; have H4 := Lib.hid h4; have HV := Lib.hid hv
      have t1 : (0 : Int) ≤ (k : Int) := by omega
      by_cases hlt : k < m
      · have hra := HR2.out.later hB
        obtain ⟨b, off, rfl, hc⟩ := hra.2.2 (by omega)
        have hck := hc k hlt
        have t2 : (k : Int) < (m : Int) := by omega
        obtain ⟨n1, n2⟩ := HF2.out _ (at_mem HL2.out hlt)
        have HT : Hid (c.take (k + 1) = c.take k ++ [c.getD k 0]) := Lib.hid (take_snoc c k (by rw [HL2.out]; exact hlt))
        have hct := asg_Count1 (w.heap.size + 1) b6 w1.heap.size f a len cap l (c.getD k 0) (aN l (c.take k) 1) (aN l (c.take k) (-1)) (aN l (c.take k) 0) wr (HR.out.later hB) hv hl5 (by omega) h5 h6 n1 n2 ⟨Nat.le_trans (aN_le _ _ _) (by rw [List.length_take]; omega), Nat.le_trans (aN_le _ _ _) (by rw [List.length_take]; omega), Nat.le_trans (aN_le _ _ _) (by rw [List.length_take]; omega)⟩
        rw [cnt1_step, cnt1_step, cnt1_step, ← HT.out] at hct
        have HCT := Lib.hid hct
        clear hct hc hra h5 h4 hv
        generalize c.getD k 0 = z at *
        go_wp2_with fail
        refine HCT.out.mono ?_
        rintro e w4 ⟨rfl, h54, hok⟩
        have h64 := hok.cell h6 (by show b6 ≠ _; omega)
        have H54 := Lib.hid h54
        have H44 : Hid (Blk w4 w.heap.size (cntC 0 0 0) 76) := Lib.hid ((hok.2.1 _ H4.out.lt (by omega)).trans H4.out)
        have HV4 := Lib.hid (HV.out.step hok hl5)
        have hB4 := hok.2.2 _ hB (by omega)
        clear h54 hok
        go_wp2_with fail
        go_roundw
        case rel => exact ⟨k + 1, by omega, by go_num, H54.out, H44.out, HV4.out, h64, hB4⟩
        case measure => simp [intOf]; omega
      · have hkm : k = m := by omega
        subst hkm
        have HT : Hid (c.take k = c) := Lib.hid (List.take_of_length_le (by rw [HL2.out]; exact Nat.le_refl _))
        rw [HT.out] at h5
        have q0 := h5.cell 0; have q1 := h5.cell 1; have q2 := h5.cell 2
        have r0 := h4.cell 0; have r1 := h4.cell 1; have r2 := h4.cell 2
        have g0 := h4.free 0; have g1 := h4.free 1; have g2 := h4.free 2
        simp [cntC] at q0 q1 q2 r0 r1 r2
        have z := ((h4.set 0 (.int .i64 (aN l c 1 : Int))).set 1 (.int .i64 (aN l c (-1) : Int))).set 2 (.int .i64 (aN l c 0 : Int))
        have z0 := z.cell 0; have z1 := z.cell 1; have z2 := z.cell 2
        simp only [cntC, set0, set1, set2] at z0 z1 z2
        have Z0 := Lib.hid z0; have Z1 := Lib.hid z1; have Z2 := Lib.hid z2
        clear h5 h4 hv z z0 z1 z2
        go_wp2_with fail
        have z0 := Z0.out; have z1 := Z1.out; have z2 := Z2.out
        have hbe : Below w.heap.size w (((wr.setCell ⟨w.heap.size, 0, none⟩ (.int .i64 (aN l c 1 : Int))).setCell ⟨w.heap.size, 1, none⟩ (.int .i64 (aN l c (-1) : Int))).setCell ⟨w.heap.size, 2, none⟩ (.int .i64 (aN l c 0 : Int))) := below_set (below_set (below_set hB (Nat.le_refl _) _ _) (Nat.le_refl _) _ _) (Nat.le_refl _) _ _
        generalize (((wr.setCell ⟨w.heap.size, 0, none⟩ (.int .i64 (aN l c 1 : Int))).setCell ⟨w.heap.size, 1, none⟩ (.int .i64 (aN l c (-1) : Int))).setCell ⟨w.heap.size, 2, none⟩ (.int .i64 (aN l c 0 : Int))) = wz at *
        simp at z0 z1 z2
        exact bodyPost_ret (v := cntV l c) (by simp [results, Try.results51, go_sem, z0, z1, z2, cntV, cntC]) rfl ⟨rfl, hbe⟩
end Go.Proofs.Ytdladbfjgkejiaa
namespace Go.Proofs.Ytdladbfjgkejiaa
open Go.RowKit
set_option linter.unusedVariables false
set_option linter.unusedSimpArgs false

theorem asg_CountE (a : Option Addr) (len cap : Nat) (l : List Int) (a2 : Option Addr) (m cap2 : Nat) (c : List Int) (w : World) (hr : IntRow w a len l) (hr2 : IntRow w a2 m c) (hlen : len ≤ 1000000) (hlen2 : m ≤ 1000000) (hf : Fits' l) (hf2 : Fits' c) (h g o : Nat) (hh : aN l c 1 = h ∧ aN l c (-1) = g ∧ aN l c 0 = o) :
    Calls Try.prog 51 #[.slice a len cap, .slice a2 m cap2] w fun e w' => e = .returned (.agg #[.int .i64 h, .int .i64 g, .int .i64 o]) ∧ Below w.heap.size w w' :=
  (asg_Count a len cap l a2 m cap2 c w hr hr2 hlen hlen2 hf hf2).mono fun e w' hq => ⟨by rw [hq.1]; unfold cntV cntC; rw [hh.1, hh.2.1, hh.2.2], hq.2⟩
set_option maxRecDepth 100000 in
theorem asg_Clause (a : Option Addr) (len cap : Nat) (l : List Int) (a2 : Option Addr) (m cap2 : Nat) (c : List Int) (w : World) (hr : IntRow w a len l) (hr2 : IntRow w a2 m c) (hlen : len ≤ 1000000) (hlen2 : m ≤ 1000000) (hf : Fits' l) (hf2 : Fits' c) :
    Calls Try.prog 44 #[.slice a len cap, .slice a2 m cap2] w fun e w' => e = .returned (.int .i64 (aCl l c)) ∧ Below w.heap.size w w' := by
  have hct := fun h g o hh => asg_CountE a len cap l a2 m cap2 c w hr hr2 hlen hlen2 hf hf2 h g o hh
  have HA : Hid (aCl l c = if 0 < aN l c 1 then 1 else if 0 < aN l c 0 then 0 else -1) := Lib.hid rfl
  obtain ⟨h, hh⟩ : ∃ h, aN l c 1 = h := ⟨_, rfl⟩
  obtain ⟨g, hg⟩ : ∃ g, aN l c (-1) = g := ⟨_, rfl⟩
  obtain ⟨o, ho⟩ : ∃ o, aN l c 0 = o := ⟨_, rfl⟩
  have HCT := Lib.hid (hct h g o ⟨hh, hg, ho⟩)
  rw [hh, ho] at HA
  clear hct hr hr2 hh hg ho
  by_cases c1 : 0 < h
  · have HV : Hid (aCl l c = 1) := Lib.hid (by rw [HA.out, if_pos c1])
    have d1 : decide (0 < h) = true := decide_eq_true c1
    have d2 : decide (0 < (h : Int)) = true := decide_eq_true (by omega)
    go_enter Try.func44, Try.ntmps44
    go_wp2_with (refine HCT.out.mono ?_; rintro e w' ⟨rfl, hb⟩)
    go_ret
    exact ⟨ret_int HV.out.symm, by (repeat (first | (with_reducible exact Below.refl _ _) | (with_reducible assumption) | (with_reducible refine below_alloc ?_ _) | (with_reducible refine below_drew ?_) | (with_reducible refine below_drewN ?_ _) | (with_reducible refine below_step ?_ (by with_reducible assumption))))⟩
  · have d1 : decide (0 < h) = false := decide_eq_false c1
    have d2 : decide (0 < (h : Int)) = false := decide_eq_false (by omega)
    by_cases c2 : 0 < o
    · have HV : Hid (aCl l c = 0) := Lib.hid (by rw [HA.out, if_neg c1, if_pos c2])
      have d3 : decide (0 < o) = true := decide_eq_true c2
      have d4 : decide (0 < (o : Int)) = true := decide_eq_true (by omega)
      go_enter Try.func44, Try.ntmps44
      go_wp2_with (refine HCT.out.mono ?_; rintro e w' ⟨rfl, hb⟩)
      go_ret
      exact ⟨ret_int HV.out.symm, by (repeat (first | (with_reducible exact Below.refl _ _) | (with_reducible assumption) | (with_reducible refine below_alloc ?_ _) | (with_reducible refine below_drew ?_) | (with_reducible refine below_drewN ?_ _) | (with_reducible refine below_step ?_ (by with_reducible assumption))))⟩
    · have HV : Hid (aCl l c = -1) := Lib.hid (by rw [HA.out, if_neg c1, if_neg c2])
      have d3 : decide (0 < o) = false := decide_eq_false c2
      have d4 : decide (0 < (o : Int)) = false := decide_eq_false (by omega)
      go_enter Try.func44, Try.ntmps44
      go_wp2_with (refine HCT.out.mono ?_; rintro e w' ⟨rfl, hb⟩)
      go_ret
      exact ⟨ret_int HV.out.symm, by (repeat (first | (with_reducible exact Below.refl _ _) | (with_reducible assumption) | (with_reducible refine below_alloc ?_ _) | (with_reducible refine below_drew ?_) | (with_reducible refine below_drewN ?_ _) | (with_reducible refine below_step ?_ (by with_reducible assumption))))⟩

theorem unit_ways (h o : Nat) : (¬ (h = 0 ∧ o = 1) ∧ (decide (0 < h) = true ∧ decide (0 < (h : Int)) = true ∨ (decide (0 < h) = false ∧ decide (0 < (h : Int)) = false) ∧ ((o : Int) != 1) = true)) ∨ ((h = 0 ∧ o = 1) ∧ decide (0 < h) = false ∧ decide (0 < (h : Int)) = false ∧ ((o : Int) != 1) = false) := by
  simp only [decide_eq_true_eq, decide_eq_false_iff_not, bne_iff_ne, ne_eq, bne_eq_false_iff_eq]
  omega
end Go.Proofs.Ytdladbfjgkejiaa
namespace Go.Proofs.Ytdladbfjgkejiaa
open Go.RowKit
set_option linter.unusedVariables false
set_option linter.unusedSimpArgs false

theorem aCl_cases (l c : List Int) : aCl l c = 1 ∨ aCl l c = 0 ∨ aCl l c = -1 := by unfold aCl; split <;> (try split) <;> simp
def stUp (l : List Int) (xss : List (List Int)) : Int := if xss.all (fun c => decide (aCl l c = 1)) then 1 else 0
theorem stUp_snoc (l : List Int) (xss : List (List Int)) (c : List Int) : stUp l (xss ++ [c]) = if aCl l c = 1 then stUp l xss else 0 := by
  unfold stUp
  rw [List.all_append]
  by_cases h : aCl l c = 1 <;> simp [h]
theorem fStat_neg {l : List Int} {xss : List (List Int)} {c : List Int} (hc : c ∈ xss) (h : aCl l c = -1) : fStat l xss = -1 := by
  unfold fStat
  rw [if_pos (List.any_eq_true.2 ⟨c, hc, decide_eq_true h⟩)]
theorem fStat_end {l : List Int} {xss : List (List Int)} {len : Nat} (hl : xss.length = len) (h : ∀ j, j < len → aCl l (xss.getD j []) ≠ -1) : fStat l xss = stUp l xss := by
  unfold fStat stUp
  rw [if_neg]
  rw [Bool.not_eq_true, List.any_eq_false]
  intro c hc
  obtain ⟨j, hj, rfl⟩ := List.mem_iff_getElem.1 hc
  have := h j (by omega)
  rw [show xss.getD j [] = xss[j] by simp [List.getD, hj]] at this
  simpa using this
theorem take_snocR (xss : List (List Int)) (k : Nat) (h : k < xss.length) : xss.take (k + 1) = xss.take k ++ [xss.getD k []] := by
  rw [List.take_succ_eq_append_getElem h]; simp [List.getD, h]
theorem at_memR {xss : List (List Int)} {k len : Nat} (h : xss.length = len) (hk : k < len) : xss.getD k [] ∈ xss := by
  have hk' : k < xss.length := by rw [h]; exact hk
  simp [List.getD, hk']
def FitsR' (xss : List (List Int)) : Prop := ∀ xs ∈ xss, Fits' xs
/-- All rows are no longer than this. -/
def ShortR (xss : List (List Int)) (n : Nat) : Prop := ∀ xs ∈ xss, xs.length ≤ n

set_option maxRecDepth 100000 in
theorem cnf_values1 (B : Nat) (la : Option Addr) (ll lc : Nat) (l : List Int) (a : Option Addr) (len cap : Nat) (c : List Int) (w : World) (hc : w.cell? ⟨B, 0, none⟩ = some (.slice la ll lc)) (hl : IntRow w la ll l) (hr : IntRow w a len c) (h1 : ll ≤ 1000000) (h2 : len ≤ 1000000) (hf : Fits' l) (hf2 : Fits' c) :
    Calls Try.prog 43 #[.slice a len cap, .pointer (some ⟨B, 0, none⟩)] w fun e w' => e = .returned (.int .i64 (aCl l c)) ∧ Below w.heap.size w w' := by
  have HCON := Lib.hid (asg_Clause la ll lc l a len cap c w hl hr h1 h2 hf hf2)
  clear hl hr hf hf2
  generalize aCl l c = V at *
  go_enter Try.func43, Try.ntmps43
  go_wp2_with fail
  refine HCON.out.mono ?_
  rintro e w2 ⟨rfl, hb⟩
  go_wp2_with fail
  go_ret
  exact ⟨rfl, hb⟩
set_option maxRecDepth 100000 in
theorem cnf_values2 (B T : Nat) (bs : List Bool) (l : List Int) (a : Option Addr) (len cap : Nat) (c : List Int) (w : World) (hc : w.cell? ⟨B, 0, none⟩ = some (.pointer (some ⟨T, 0, none⟩))) (ht : TabAt w ⟨T, 0, none⟩ bs) (hrep : Rep bs l) (hr : IntRow w a len c) :
    Calls Try.prog 46 #[.slice a len cap, .pointer (some ⟨B, 0, none⟩)] w fun e w' => e = .returned (.int .i64 (aCl l c)) ∧ Below w.heap.size w w' := by
  have HCON := Lib.hid (tab_Clause T bs l a len cap c w ht hrep hr)
  clear ht hr hrep
  generalize aCl l c = V at *
  generalize tabUnit l c = U at *
  go_enter Try.func46, Try.ntmps46
  go_wp2_with fail
  refine HCON.out.mono ?_
  rintro e w2 ⟨rfl, hq⟩
  obtain rfl := hq
  go_wp2_with fail
  go_ret
  exact ⟨rfl, Below.refl _ _⟩
/-- A function value that tells clauses' values: told of one of the two functions. -/
def ValsAt (N : Nat) (cb : Array Value) (l : List Int) (w : World) : Prop := ∀ W, Below w.heap.size w W → ∀ (a : Option Addr) (len cap : Nat) (c : List Int), IntRow W a len c → len ≤ 1000000 → Fits' c → Calls Try.prog N (#[.slice a len cap] ++ cb) W fun e w' => e = .returned (.int .i64 (aCl l c)) ∧ Below W.heap.size W w'
theorem ValsAt.later {N : Nat} {cb : Array Value} {l : List Int} {w w' : World} (h : ValsAt N cb l w) (hb : Below w.heap.size w w') : ValsAt N cb l w' := fun W hW => h W (below_step hb hW)
def ValsPost (N : Nat) (l : List Int) (w : World) (e : Ending) (w' : World) : Prop := ∃ cb, e = .returned (.func (.func N) #[] cb) ∧ ValsAt N cb l w' ∧ Below w.heap.size w w'
set_option maxRecDepth 100000 in
theorem cnf_clauseValues1 (vars : Int) (a : Option Addr) (len cap : Nat) (la : Option Addr) (ll lc : Nat) (l : List Int) (w : World) (hlen : len < 4) (hl : IntRow w la ll l) (h1 : ll ≤ 1000000) (hf : Fits' l) :
    Calls Try.prog 29 #[.agg #[.int .i64 vars, .slice a len cap], .slice la ll lc] w (ValsPost 43 l w) := by
  have hb1 : Below w.heap.size w (w.alloc (.cells #[.int .i64 vars, .slice a len cap] 24)) := by (repeat (first | (with_reducible exact Below.refl _ _) | (with_reducible assumption) | (with_reducible refine below_alloc ?_ _) | (with_reducible refine below_drew ?_) | (with_reducible refine below_drewN ?_ _) | (with_reducible refine below_step ?_ (by with_reducible assumption))))
  have hz1 : (w.alloc (.cells #[.int .i64 vars, .slice a len cap] 24)).heap.size = w.heap.size + 1 := by simp
  have hc1 := Blk.made w #[.int .i64 vars, .slice a len cap] 24
  generalize hw1 : w.alloc (.cells #[.int .i64 vars, .slice a len cap] 24) = w1 at *
  have hb2 : Below w1.heap.size w1 (w1.alloc (.cells #[.slice la ll lc] 26)) := by (repeat (first | (with_reducible exact Below.refl _ _) | (with_reducible assumption) | (with_reducible refine below_alloc ?_ _) | (with_reducible refine below_drew ?_) | (with_reducible refine below_drewN ?_ _) | (with_reducible refine below_step ?_ (by with_reducible assumption))))
  have hc2 := Blk.made w1 #[.slice la ll lc] 26
  have f1 := (hc1.later (w' := w1.alloc (.cells #[.slice la ll lc] 26)) hb2).cell 1
  generalize hw2 : w1.alloc (.cells #[.slice la ll lc] 26) = w2 at *
  rw [hz1] at hc2
  have e2 := hc2.cell 0
  simp at e2 f1
  have HB2 := Lib.hid (below_step hb1 hb2)
  have HV : Hid (ValsAt 43 #[.pointer (some ⟨w.heap.size + 1, 0, none⟩)] l w2) := Lib.hid (fun W hW a len cap c hr h2 hf2 => cnf_values1 _ la ll lc l a len cap c W (cell_later hW e2) ((hl.later HB2.out).later hW) hr h1 h2 hf hf2)
  have d1 : decide ((len : Int) < 4) = true := decide_eq_true (by omega)
  have d2 : decide (len < 4) = true := decide_eq_true hlen
  have HW1 := Lib.hid hw1; have HW2 := Lib.hid hw2
  clear hw1 hw2 hb1 hb2 hc1 hc2 hl hf e2 hz1 f1
  go_enter Try.func29, Try.ntmps29
  go_wp2_with fail
  rw [HW1.out, HW2.out]
  go_ret
  exact ⟨_, rfl, HV.out, HB2.out⟩
set_option maxRecDepth 100000 in
theorem cnf_clauseValues2 (vars : Int) (a : Option Addr) (len cap : Nat) (la : Option Addr) (ll lc : Nat) (l : List Int) (w : World) (hlen : ¬ len < 4) (hl : IntRow w la ll l) :
    Calls Try.prog 29 #[.agg #[.int .i64 vars, .slice a len cap], .slice la ll lc] w (ValsPost 46 l w) := by
  have hb1 : Below w.heap.size w (w.alloc (.cells #[.int .i64 vars, .slice a len cap] 24)) := by (repeat (first | (with_reducible exact Below.refl _ _) | (with_reducible assumption) | (with_reducible refine below_alloc ?_ _) | (with_reducible refine below_drew ?_) | (with_reducible refine below_drewN ?_ _) | (with_reducible refine below_step ?_ (by with_reducible assumption))))
  have hz1 : (w.alloc (.cells #[.int .i64 vars, .slice a len cap] 24)).heap.size = w.heap.size + 1 := by simp
  generalize hw1 : w.alloc (.cells #[.int .i64 vars, .slice a len cap] 24) = w1 at *
  have hb2 : Below w1.heap.size w1 (w1.alloc (.cells #[.slice la ll lc] 26)) := by (repeat (first | (with_reducible exact Below.refl _ _) | (with_reducible assumption) | (with_reducible refine below_alloc ?_ _) | (with_reducible refine below_drew ?_) | (with_reducible refine below_drewN ?_ _) | (with_reducible refine below_step ?_ (by with_reducible assumption))))
  generalize hw2 : w1.alloc (.cells #[.slice la ll lc] 26) = w2 at *
  have HB2 := Lib.hid (below_step hb1 hb2)
  have HCON := Lib.hid (tab_Of la ll lc l w2 (hl.later HB2.out))
  have d1 : decide ((len : Int) < 4) = false := decide_eq_false (by omega)
  have d2 : decide (len < 4) = false := decide_eq_false hlen
  have HW1 := Lib.hid hw1; have HW2 := Lib.hid hw2
  clear hw1 hw2 hb1 hb2 hl hz1
  go_enter Try.func29, Try.ntmps29
  go_wp2_with fail
  rw [HW1.out, HW2.out]
  refine HCON.out.mono ?_
  rintro e w3 ⟨T, bs, rfl, hT, htab, hrep, hb3⟩
  have hb4 : Below w3.heap.size w3 (w3.alloc (.cells #[.pointer (some ⟨T, 0, none⟩)] 68)) := by (repeat (first | (with_reducible exact Below.refl _ _) | (with_reducible assumption) | (with_reducible refine below_alloc ?_ _) | (with_reducible refine below_drew ?_) | (with_reducible refine below_drewN ?_ _) | (with_reducible refine below_step ?_ (by with_reducible assumption))))
  have hc4 := Blk.made w3 #[.pointer (some ⟨T, 0, none⟩)] 68
  have HB4 := Lib.hid (below_step (below_step HB2.out hb3) hb4)
  have e4 := hc4.cell 0
  simp only [List.getElem?_toArray, List.getElem?_cons_zero] at e4
  have HV : Hid (ValsAt 46 #[.pointer (some ⟨w3.heap.size, 0, none⟩)] l (w3.alloc (.cells #[.pointer (some ⟨T, 0, none⟩)] 68))) := Lib.hid (fun W hW a len cap c hr h2 hf2 => cnf_values2 _ T bs l a len cap c W (cell_later hW e4) ((htab.later hb4).later hW) hrep hr)
  clear htab hrep hb3 hb4 hc4 e4
  go_wp2_with fail
  go_ret
  exact ⟨_, rfl, HV.out, HB4.out⟩
set_option maxRecDepth 100000 in
set_option maxHeartbeats 1000000 in
theorem cnf_Status1 (vars : Int) (a : Option Addr) (len cap : Nat) (xss : List (List Int)) (la : Option Addr) (ll lc : Nat) (l : List Int) (w : World) (hr : Rows2 w a len xss) (hl : IntRow w la ll l) (hvals : ∀ W, Below w.heap.size w W → Calls Try.prog 29 #[.agg #[.int .i64 vars, .slice a len cap], .slice la ll lc] W (ValsPost 43 l W)) (hf : FitsR' xss) (hs : ShortR xss 1000000) :
    Calls Try.prog 12 #[.agg #[.int .i64 vars, .slice a len cap], .slice la ll lc] w fun e w' => e = .returned (.int .i64 (fStat l xss)) ∧ Below w.heap.size w w' := by
  have hm := hr.2.1; unfold maxLen at hm
  have HR := Lib.hid hr
  have HL := Lib.hid hr.1
  have HF := Lib.hid hf; have HS := Lib.hid hs
  have hb1 : Below w.heap.size w (w.alloc (.cells #[.int .i64 vars, .slice a len cap] 24)) := by (repeat (first | (with_reducible exact Below.refl _ _) | (with_reducible assumption) | (with_reducible refine below_alloc ?_ _) | (with_reducible refine below_drew ?_) | (with_reducible refine below_drewN ?_ _) | (with_reducible refine below_step ?_ (by with_reducible assumption))))
  have HVL := Lib.hid (hvals _ hb1)
  have hc1 := Blk.made w #[.int .i64 vars, .slice a len cap] 24
  generalize hw1 : w.alloc (.cells #[.int .i64 vars, .slice a len cap] 24) = w1 at *
  have HC1 := Lib.hid hc1
  have HW1 := Lib.hid hw1
  clear hr hl hvals hf hs hw1 hc1
  go_enter Try.func12, Try.ntmps12
  go_wp2_with fail
  rw [HW1.out]
  refine HVL.out.mono ?_
  rintro e w2 ⟨cb, rfl, hv, hb2⟩
  have e1 := (HC1.out.later hb2).cell 1
  simp only [List.getElem?_toArray, List.getElem?_cons_zero, List.getElem?_cons_succ] at e1
  have hB2 := below_step hb1 hb2
  have HV := Lib.hid hv
  clear hv hb2 hb1
  go_wp2_with fail
  clear e1
  have H0 : Hid (stUp l (xss.take 0) = 1) := Lib.hid rfl
  go_loopw [6, 8, 15] (fun s _ i wr => ∃ k : Nat, k ≤ len ∧ i = .int .i64 k ∧ s = .int .i64 (stUp l (xss.take k)) ∧ (∀ j, j < k → aCl l (xss.getD j []) ≠ -1) ∧ Below w2.heap.size w2 wr) (fun _ _ i _ => len - (intOf i).toNat)
  case atStart => exact ⟨0, Nat.zero_le _, rfl, by rw [H0.out], fun j hj => by omega, Below.refl _ _⟩
  case round =>
    obtain ⟨k, hk, rfl, rfl, hno, hbr⟩ := hrel
    have HNO := Lib.hid hno
    clear hno
    have hbw := below_step hB2 hbr
    have t1 : (0 : Int) ≤ (k : Int) := by omega
    by_cases hlt : k < len
    · have hra := HR.out.later hbw
      obtain ⟨b, off, u, rfl, hck, ac, lc2, cc, rfl, _, _, hrc⟩ := hra.2.2 k hlt
      have t2 : (k : Int) < (len : Int) := by omega
      have HT : Hid (stUp l (xss.take (k + 1)) = if aCl l (xss.getD k []) = 1 then stUp l (xss.take k) else 0) := Lib.hid (by rw [take_snocR xss k (by rw [HL.out]; exact hlt), stUp_snoc])
      have hmem := at_memR HL.out hlt
      have HVC := Lib.hid (HV.out wr hbr ac lc2 cc _ hrc (by rw [← hrc.1]; exact HS.out _ hmem) (HF.out _ hmem))
      have HNEG := Lib.hid (fStat_neg (l := l) hmem)
      have HE : Hid (aCl l (xss.getD k []) ≠ -1 → ∀ j, j < k + 1 → aCl l (xss.getD j []) ≠ -1) := Lib.hid (fun h j hj => by
        rcases Nat.lt_or_ge j k with h1 | h1
        · exact HNO.out j h1
        · rw [show j = k by omega]; exact h)
      have hcas := aCl_cases l (xss.getD k [])
      clear hra hrc hmem
      generalize xss.getD k [] = z at *
      generalize stUp l (xss.take k) = SU at *
      rcases hcas with h | h | h
      · have H := Lib.hid h
        have HN := Lib.hid (HE.out (by rw [h]; decide))
        have HT2 : Hid (stUp l (xss.take (k + 1)) = SU) := Lib.hid (by rw [HT.out, if_pos h])
        clear h
        go_wp2_with fail
        refine HVC.out.mono ?_
        rintro e w5 ⟨rfl, hb5⟩
        rw [H.out]
        go_wp2_with fail
        go_roundw
        case rel => exact ⟨k + 1, by omega, by go_num, by rw [HT2.out], HN.out, below_step hbr hb5⟩
        case measure => simp [intOf]; omega
      · have H := Lib.hid h
        have HN := Lib.hid (HE.out (by rw [h]; decide))
        have HT2 : Hid (stUp l (xss.take (k + 1)) = 0) := Lib.hid (by rw [HT.out, h]; rfl)
        clear h
        go_wp2_with fail
        refine HVC.out.mono ?_
        rintro e w5 ⟨rfl, hb5⟩
        rw [H.out]
        go_wp2_with fail
        go_roundw
        case rel => exact ⟨k + 1, by omega, by go_num, by rw [HT2.out], HN.out, below_step hbr hb5⟩
        case measure => simp [intOf]; omega
      · have H := Lib.hid h
        have HN := Lib.hid (HNEG.out h)
        clear h
        go_wp2_with fail
        refine HVC.out.mono ?_
        rintro e w5 ⟨rfl, hb5⟩
        rw [H.out]
        go_wp2_with fail
        go_ret
        exact ⟨ret_int HN.out.symm, below_step hbw hb5⟩
    · have hkn : k = len := by omega
      subst hkn
      have HE : Hid (stUp l (xss.take k) = fStat l xss) := Lib.hid (by rw [fStat_end HL.out HNO.out, List.take_of_length_le (by rw [HL.out]; exact Nat.le_refl _)])
      generalize stUp l (xss.take k) = SU at *
      go_wp2_with fail
      go_ret
      exact ⟨ret_int HE.out, hbw⟩
set_option maxRecDepth 100000 in
set_option maxHeartbeats 1000000 in
theorem cnf_Status2 (vars : Int) (a : Option Addr) (len cap : Nat) (xss : List (List Int)) (la : Option Addr) (ll lc : Nat) (l : List Int) (w : World) (hr : Rows2 w a len xss) (hl : IntRow w la ll l) (hvals : ∀ W, Below w.heap.size w W → Calls Try.prog 29 #[.agg #[.int .i64 vars, .slice a len cap], .slice la ll lc] W (ValsPost 46 l W)) (hf : FitsR' xss) (hs : ShortR xss 1000000) :
    Calls Try.prog 12 #[.agg #[.int .i64 vars, .slice a len cap], .slice la ll lc] w fun e w' => e = .returned (.int .i64 (fStat l xss)) ∧ Below w.heap.size w w' := by
  have hm := hr.2.1; unfold maxLen at hm
  have HR := Lib.hid hr
  have HL := Lib.hid hr.1
  have HF := Lib.hid hf; have HS := Lib.hid hs
  have hb1 : Below w.heap.size w (w.alloc (.cells #[.int .i64 vars, .slice a len cap] 24)) := by (repeat (first | (with_reducible exact Below.refl _ _) | (with_reducible assumption) | (with_reducible refine below_alloc ?_ _) | (with_reducible refine below_drew ?_) | (with_reducible refine below_drewN ?_ _) | (with_reducible refine below_step ?_ (by with_reducible assumption))))
  have HVL := Lib.hid (hvals _ hb1)
  have hc1 := Blk.made w #[.int .i64 vars, .slice a len cap] 24
  generalize hw1 : w.alloc (.cells #[.int .i64 vars, .slice a len cap] 24) = w1 at *
  have HC1 := Lib.hid hc1
  have HW1 := Lib.hid hw1
  clear hr hl hvals hf hs hw1 hc1
  go_enter Try.func12, Try.ntmps12
  go_wp2_with fail
  rw [HW1.out]
  refine HVL.out.mono ?_
  rintro e w2 ⟨cb, rfl, hv, hb2⟩
  have e1 := (HC1.out.later hb2).cell 1
  simp only [List.getElem?_toArray, List.getElem?_cons_zero, List.getElem?_cons_succ] at e1
  have hB2 := below_step hb1 hb2
  have HV := Lib.hid hv
  clear hv hb2 hb1
  go_wp2_with fail
  clear e1
  have H0 : Hid (stUp l (xss.take 0) = 1) := Lib.hid rfl
  go_loopw [6, 8, 15] (fun s _ i wr => ∃ k : Nat, k ≤ len ∧ i = .int .i64 k ∧ s = .int .i64 (stUp l (xss.take k)) ∧ (∀ j, j < k → aCl l (xss.getD j []) ≠ -1) ∧ Below w2.heap.size w2 wr) (fun _ _ i _ => len - (intOf i).toNat)
  case atStart => exact ⟨0, Nat.zero_le _, rfl, by rw [H0.out], fun j hj => by omega, Below.refl _ _⟩
  case round =>
    obtain ⟨k, hk, rfl, rfl, hno, hbr⟩ := hrel
    have HNO := Lib.hid hno
    clear hno
    have hbw := below_step hB2 hbr
    have t1 : (0 : Int) ≤ (k : Int) := by omega
    by_cases hlt : k < len
    · have hra := HR.out.later hbw
      obtain ⟨b, off, u, rfl, hck, ac, lc2, cc, rfl, _, _, hrc⟩ := hra.2.2 k hlt
      have t2 : (k : Int) < (len : Int) := by omega
      have HT : Hid (stUp l (xss.take (k + 1)) = if aCl l (xss.getD k []) = 1 then stUp l (xss.take k) else 0) := Lib.hid (by rw [take_snocR xss k (by rw [HL.out]; exact hlt), stUp_snoc])
      have hmem := at_memR HL.out hlt
      have HVC := Lib.hid (HV.out wr hbr ac lc2 cc _ hrc (by rw [← hrc.1]; exact HS.out _ hmem) (HF.out _ hmem))
      have HNEG := Lib.hid (fStat_neg (l := l) hmem)
      have HE : Hid (aCl l (xss.getD k []) ≠ -1 → ∀ j, j < k + 1 → aCl l (xss.getD j []) ≠ -1) := Lib.hid (fun h j hj => by
        rcases Nat.lt_or_ge j k with h1 | h1
        · exact HNO.out j h1
        · rw [show j = k by omega]; exact h)
      have hcas := aCl_cases l (xss.getD k [])
      clear hra hrc hmem
      generalize xss.getD k [] = z at *
      generalize stUp l (xss.take k) = SU at *
      rcases hcas with h | h | h
      · have H := Lib.hid h
        have HN := Lib.hid (HE.out (by rw [h]; decide))
        have HT2 : Hid (stUp l (xss.take (k + 1)) = SU) := Lib.hid (by rw [HT.out, if_pos h])
        clear h
        go_wp2_with fail
        refine HVC.out.mono ?_
        rintro e w5 ⟨rfl, hb5⟩
        rw [H.out]
        go_wp2_with fail
        go_roundw
        case rel => exact ⟨k + 1, by omega, by go_num, by rw [HT2.out], HN.out, below_step hbr hb5⟩
        case measure => simp [intOf]; omega
      · have H := Lib.hid h
        have HN := Lib.hid (HE.out (by rw [h]; decide))
        have HT2 : Hid (stUp l (xss.take (k + 1)) = 0) := Lib.hid (by rw [HT.out, h]; rfl)
        clear h
        go_wp2_with fail
        refine HVC.out.mono ?_
        rintro e w5 ⟨rfl, hb5⟩
        rw [H.out]
        go_wp2_with fail
        go_roundw
        case rel => exact ⟨k + 1, by omega, by go_num, by rw [HT2.out], HN.out, below_step hbr hb5⟩
        case measure => simp [intOf]; omega
      · have H := Lib.hid h
        have HN := Lib.hid (HNEG.out h)
        clear h
        go_wp2_with fail
        refine HVC.out.mono ?_
        rintro e w5 ⟨rfl, hb5⟩
        rw [H.out]
        go_wp2_with fail
        go_ret
        exact ⟨ret_int HN.out.symm, below_step hbw hb5⟩
    · have hkn : k = len := by omega
      subst hkn
      have HE : Hid (stUp l (xss.take k) = fStat l xss) := Lib.hid (by rw [fStat_end HL.out HNO.out, List.take_of_length_le (by rw [HL.out]; exact Nat.le_refl _)])
      generalize stUp l (xss.take k) = SU at *
      go_wp2_with fail
      go_ret
      exact ⟨ret_int HE.out, hbw⟩
theorem cnf_Status (vars : Int) (a : Option Addr) (len cap : Nat) (xss : List (List Int)) (la : Option Addr) (ll lc : Nat) (l : List Int) (w : World) (hr : Rows2 w a len xss) (hl : IntRow w la ll l) (h1 : ll ≤ 1000000) (hfl : Fits' l) (hf : FitsR' xss) (hs : ShortR xss 1000000) :
    Calls Try.prog 12 #[.agg #[.int .i64 vars, .slice a len cap], .slice la ll lc] w fun e w' => e = .returned (.int .i64 (fStat l xss)) ∧ Below w.heap.size w w' := by
  by_cases h : len < 4
  · exact cnf_Status1 vars a len cap xss la ll lc l w hr hl (fun W hW => cnf_clauseValues1 vars a len cap la ll lc l W h (hl.later hW) h1 hfl) hf hs
  · exact cnf_Status2 vars a len cap xss la ll lc l w hr hl (fun W hW => cnf_clauseValues2 vars a len cap la ll lc l W h (hl.later hW)) hf hs
end Go.Proofs.Ytdladbfjgkejiaa
