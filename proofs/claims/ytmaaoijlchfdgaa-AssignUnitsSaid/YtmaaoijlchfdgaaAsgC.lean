/- The contracts of assign's Count, Clause and Unit. -/
import Derived.Test.YtmaaoijlchfdgaaAsgW
import Derived.Laws.EntriesVeiled
namespace Go.Proofs.Ytmaaoijlchfdgaa
open Go.RowKit
set_option linter.unusedVariables false
set_option linter.unusedSimpArgs false

def cntC (h g o : Nat) : Array Value := #[.int .i64 h, .int .i64 g, .int .i64 o]
theorem set0 (x y z u : Value) : (#[x, y, z].setIfInBounds 0 u) = #[u, y, z] := rfl
theorem set1 (x y z u : Value) : (#[x, y, z].setIfInBounds 1 u) = #[x, u, z] := rfl
theorem set2 (x y z u : Value) : (#[x, y, z].setIfInBounds 2 u) = #[x, y, u] := rfl
/-- One more literal. -/
def cnt1 (l : List Int) (v x : Int) (n : Nat) : Nat := n + if aIs l v x = true then 1 else 0

set_option maxRecDepth 100000 in
set_option maxHeartbeats 2000000 in
theorem asg_Count1 (b5 b6 B : Nat) (f : Value) (a : Option Addr) (len cap : Nat) (xs : List Int) (x : Int) (h g o : Nat) (w : World) (hr : IntRow w a len xs) (hf : ValFn B w f a len cap xs) (hbB : b5 < B) (h56 : b5 ≠ b6)
    (hc : Blk w b5 (cntC h g o) 31) (h6 : w.cell? ⟨b6, 0, none⟩ = some f) (hx1 : -9223372036854775808 ≤ x) (hx2 : x ≤ 9223372036854775807) (hh : h ≤ 1000000 ∧ g ≤ 1000000 ∧ o ≤ 1000000) :
    Calls Try.prog 33 #[.int .i64 x, .pointer (some ⟨b6, 0, none⟩), .pointer (some ⟨b5, 0, none⟩)] w fun e w' => e = .returned (.tuple #[]) ∧ Blk w' b5 (cntC (cnt1 xs 1 x h) (cnt1 xs (-1) x g) (cnt1 xs 0 x o)) 31 ∧ OneKeep w w' b5 := by
  have hcall : ∃ N c, f = .func (.func N) #[] #[.pointer (some c)] ∧ (N = 37 ∨ N = 38) := by
    rcases hf with ⟨b, _, e, _⟩ | ⟨b, m, n, _, _, e, _⟩
    · exact ⟨_, _, e, Or.inl rfl⟩
    · exact ⟨_, _, e, Or.inr rfl⟩
  have HC := Lib.hid hc
  rcases hf with ⟨b, _, rfl, hbc⟩ | ⟨b, m, n, _, _, rfl, hbc, hM⟩
  · clear hcall hc
    go_enter Try.func33, Try.ntmps33
    go_wp2_with fail
    refine (asg_values1 b a len cap xs x _ hbc hr).mono ?_
    rintro e w2 ⟨rfl, hbv⟩
    have hb : Below w.heap.size w w2 := hbv
    have hc2 := HC.out.later hb
    have q0 := hc2.cell 0; have q1 := hc2.cell 1; have q2 := hc2.cell 2
    have f0 := hc2.free 0; have f1 := hc2.free 1; have f2 := hc2.free 2
    simp [cntC] at q0 q1 q2
    have HC2 := Lib.hid hc2
    have hok := OneKeep.of_below (b := b5) hb
    clear hc2
    rcases aVal_cases xs x with ⟨k, k2⟩ | ⟨k, ⟨_, k2⟩ | ⟨_, _, k2⟩ | ⟨_, _, k2⟩⟩
    all_goals
      have i1 : aIs xs 1 x = decide (lvar x ≠ 0 ∧ aVal xs x = 1) := rfl
      have i2 : aIs xs (-1) x = decide (lvar x ≠ 0 ∧ aVal xs x = -1) := rfl
      have i3 : aIs xs 0 x = decide (lvar x ≠ 0 ∧ aVal xs x = 0) := rfl
      rw [k2] at i1 i2 i3
      simp [k] at i1 i2 i3
      have I1 := Lib.hid i1; have I2 := Lib.hid i2; have I3 := Lib.hid i3
      obtain ⟨t0, d0, k0⟩ : ∃ t0, (lvar x != 0) = t0 ∧ (t0 = decide (lvar x ≠ 0)) := ⟨_, rfl, by by_cases h : lvar x = 0 <;> simp [h]⟩
      first
      | (have k9 : t0 = false := by (rw [k0, decide_eq_false]; simpa using k))
        subst k9
      | (have k9 : t0 = true := by (rw [k0, decide_eq_true]; exact k))
        subst k9
      clear k0
      rw [k2]
      clear i1 i2 i3 k k2
      go_wp2_with (go_at_call 29; refine (lit_Var _ _).mono ?_; rintro e w' ⟨rfl, rfl⟩)
      go_returns
      refine ⟨rfl, ?_, ?_⟩
      · have z := HC2.out
        unfold cnt1
        rw [I1.out, I2.out, I3.out]
        simp only [if_true, if_false, Bool.false_eq_true, Nat.add_zero]
        first
        | exact z
        | (have := z.set 0 (.int .i64 ((h : Int) + 1)); unfold cntC at this ⊢; rw [set0] at this; exact this)
        | (have := z.set 1 (.int .i64 ((g : Int) + 1)); unfold cntC at this ⊢; rw [set1] at this; exact this)
        | (have := z.set 2 (.int .i64 ((o : Int) + 1)); unfold cntC at this ⊢; rw [set2] at this; exact this)
      · first
        | exact hok
        | exact hok.set _ _
  · clear hcall hc
    go_enter Try.func33, Try.ntmps33
    go_wp2_with fail
    refine (asg_values2 b m n xs x _ hbc hM hx1 hx2).mono ?_
    rintro e w2 ⟨rfl, hbv⟩
    have hb : Below w.heap.size w w2 := hbv
    have hc2 := HC.out.later hb
    have q0 := hc2.cell 0; have q1 := hc2.cell 1; have q2 := hc2.cell 2
    have f0 := hc2.free 0; have f1 := hc2.free 1; have f2 := hc2.free 2
    simp [cntC] at q0 q1 q2
    have HC2 := Lib.hid hc2
    have hok := OneKeep.of_below (b := b5) hb
    clear hc2
    rcases aVal_cases xs x with ⟨k, k2⟩ | ⟨k, ⟨_, k2⟩ | ⟨_, _, k2⟩ | ⟨_, _, k2⟩⟩
    all_goals
      have i1 : aIs xs 1 x = decide (lvar x ≠ 0 ∧ aVal xs x = 1) := rfl
      have i2 : aIs xs (-1) x = decide (lvar x ≠ 0 ∧ aVal xs x = -1) := rfl
      have i3 : aIs xs 0 x = decide (lvar x ≠ 0 ∧ aVal xs x = 0) := rfl
      rw [k2] at i1 i2 i3
      simp [k] at i1 i2 i3
      have I1 := Lib.hid i1; have I2 := Lib.hid i2; have I3 := Lib.hid i3
      obtain ⟨t0, d0, k0⟩ : ∃ t0, (lvar x != 0) = t0 ∧ (t0 = decide (lvar x ≠ 0)) := ⟨_, rfl, by by_cases h : lvar x = 0 <;> simp [h]⟩
      first
      | (have k9 : t0 = false := by (rw [k0, decide_eq_false]; simpa using k))
        subst k9
      | (have k9 : t0 = true := by (rw [k0, decide_eq_true]; exact k))
        subst k9
      clear k0
      rw [k2]
      clear i1 i2 i3 k k2
      go_wp2_with (go_at_call 29; refine (lit_Var _ _).mono ?_; rintro e w' ⟨rfl, rfl⟩)
      go_returns
      refine ⟨rfl, ?_, ?_⟩
      · have z := HC2.out
        unfold cnt1
        rw [I1.out, I2.out, I3.out]
        simp only [if_true, if_false, Bool.false_eq_true, Nat.add_zero]
        first
        | exact z
        | (have := z.set 0 (.int .i64 ((h : Int) + 1)); unfold cntC at this ⊢; rw [set0] at this; exact this)
        | (have := z.set 1 (.int .i64 ((g : Int) + 1)); unfold cntC at this ⊢; rw [set1] at this; exact this)
        | (have := z.set 2 (.int .i64 ((o : Int) + 1)); unfold cntC at this ⊢; rw [set2] at this; exact this)
      · first
        | exact hok
        | exact hok.set _ _

theorem cnt1_step (l c : List Int) (v x : Int) : cnt1 l v x (aN l c v) = aN l (c ++ [x]) v := (aN_snoc l c x v).symm
def cntV (l c : List Int) : Value := .agg (cntC (aN l c 1) (aN l c (-1)) (aN l c 0))
set_option maxRecDepth 100000 in
set_option maxHeartbeats 2000000 in
theorem asg_Count (a : Option Addr) (len cap : Nat) (l : List Int) (a2 : Option Addr) (m cap2 : Nat) (c : List Int) (w : World) (hr : IntRow w a len l) (hr2 : IntRow w a2 m c) (hlen : len ≤ 1000000) (hlen2 : m ≤ 1000000) (hf : Fits' l) (hf2 : Fits' c) :
    Calls Try.prog 16 #[.slice a len cap, .slice a2 m cap2] w fun e w' => e = .returned (cntV l c) ∧ Below w.heap.size w w' := by
  have HR := Lib.hid hr; have HR2 := Lib.hid hr2
  have HL2 := Lib.hid hr2.1
  have HF2 := Lib.hid hf2
  have h4 : Blk ((w.alloc (.cells #[.int .i64 0, .int .i64 0, .int .i64 0] 31)).alloc (.cells #[.int .i64 0, .int .i64 0, .int .i64 0] 31)) w.heap.size (cntC 0 0 0) 31 := (Blk.made w _ _).later (below_alloc (Below.refl _ _) _)
  have h5 : Blk ((w.alloc (.cells #[.int .i64 0, .int .i64 0, .int .i64 0] 31)).alloc (.cells #[.int .i64 0, .int .i64 0, .int .i64 0] 31)) (w.heap.size + 1) (cntC 0 0 0) 31 := by
    have := Blk.made (w.alloc (.cells #[.int .i64 0, .int .i64 0, .int .i64 0] 31)) #[.int .i64 0, .int .i64 0, .int .i64 0] 31
    rw [World.size_alloc] at this
    exact this
  have hB0 : Below w.heap.size w ((w.alloc (.cells #[.int .i64 0, .int .i64 0, .int .i64 0] 31)).alloc (.cells #[.int .i64 0, .int .i64 0, .int .i64 0] 31)) := by (repeat (first | (with_reducible exact Below.refl _ _) | (with_reducible assumption) | (with_reducible refine below_alloc ?_ _) | (with_reducible refine below_drew ?_) | (with_reducible refine below_drewN ?_ _) | (with_reducible refine below_step ?_ (by with_reducible assumption))))
  clear hr hr2 hf2
  go_enter Try.func16, Try.ntmps16
  go_wp2_with fail
  generalize ((w.alloc (.cells #[.int .i64 0, .int .i64 0, .int .i64 0] 31)).alloc (.cells #[.int .i64 0, .int .i64 0, .int .i64 0] 31)) = w1 at *
  refine (asg_values a len cap l m w1 (HR.out.later hB0) hlen hf).mono ?_
  rintro e w2 ⟨f, rfl, hv, hb2⟩
  have hv0 := hv
  rcases hv with ⟨bb, _, rfl, _⟩ | ⟨bb, mm, nn, _, _, rfl, _, _⟩
  · have hv := hv0
    clear hv0
    have hl5 := h5.lt
    have h42 := h4.later hb2; have h52 := h5.later hb2
    have hB2 := below_step hB0 hb2
    have hsz2 := hb2.size
    have hb3 : Below w2.heap.size w2 (w2.alloc (.cells #[.func (.func 37) #[] #[.pointer (some ⟨bb, 0, none⟩)]] 44)) := by (repeat (first | (with_reducible exact Below.refl _ _) | (with_reducible assumption) | (with_reducible refine below_alloc ?_ _) | (with_reducible refine below_drew ?_) | (with_reducible refine below_drewN ?_ _) | (with_reducible refine below_step ?_ (by with_reducible assumption))))
    have h43 := h42.later hb3; have h53 := h52.later hb3; have hv3 := hv.later hb3
    have hB3 := below_step hB2 hb3
    have h63 : (w2.alloc (.cells #[.func (.func 37) #[] #[.pointer (some ⟨bb, 0, none⟩)]] 44)).cell? ⟨w2.heap.size, 0, none⟩ = some (.func (.func 37) #[] #[.pointer (some ⟨bb, 0, none⟩)]) := (Blk.made w2 #[.func (.func 37) #[] #[.pointer (some ⟨bb, 0, none⟩)]] 44).cell 0
    clear h4 h5 h42 h52 hv hB0 hb2 hB2 hb3
    go_wp2_with fail
    generalize w2.alloc (.cells #[.func (.func 37) #[] #[.pointer (some ⟨bb, 0, none⟩)]] 44) = w3 at *
    have hgf : ∃ f, f = (.func (.func 37) #[] #[.pointer (some ⟨bb, 0, none⟩)] : Value) := ⟨_, rfl⟩
    obtain ⟨f, hfe⟩ := hgf
    rw [← hfe] at hv3 h63
    have HFE := Lib.hid hfe
    clear hfe
    generalize hb6 : w2.heap.size = b6 at *
    clear hb6
    have H0 : Hid (∀ v, aN l (c.take 0) v = 0) := Lib.hid (fun v => rfl)
    go_loopw [9, 17] (fun _ i wr => ∃ k : Nat, k ≤ m ∧ i = .int .i64 k ∧ Blk wr (w.heap.size + 1) (cntC (aN l (c.take k) 1) (aN l (c.take k) (-1)) (aN l (c.take k) 0)) 31 ∧ Blk wr w.heap.size (cntC 0 0 0) 31 ∧ ValFn w1.heap.size wr f a len cap l ∧ wr.cell? ⟨b6, 0, none⟩ = some f ∧ Below w.heap.size w wr) (fun _ i _ => m - (intOf i).toNat)
    case atStart => exact ⟨0, Nat.zero_le _, rfl, by rw [H0.out, H0.out, H0.out]; exact h53, h43, hv3, h63, hB3⟩
    case round =>
      clear h53 h43 hv3 h63 hB3
      obtain ⟨k, hk, rfl, h5, h4, hv, h6, hB⟩ := hrel
      have H5 := Lib.hid h5; have H4 := Lib.hid h4; have HV := Lib.hid hv
      have t1 : (0 : Int) ≤ (k : Int) := by omega
      by_cases hlt : k < m
      · have hra := HR2.out.later hB
        obtain ⟨b, off, rfl, hc⟩ := hra.2.2 (by omega)
        have hck := hc k hlt
        have t2 : (k : Int) < (m : Int) := by omega
        obtain ⟨n1, n2⟩ := HF2.out _ (at_mem HL2.out hlt)
        have HT : Hid (c.take (k + 1) = c.take k ++ [c.getD k 0]) := Lib.hid (take_snoc c k (by rw [HL2.out]; exact hlt))
        have hct := asg_Count1 (w.heap.size + 1) b6 w1.heap.size f a len cap l (c.getD k 0) (aN l (c.take k) 1) (aN l (c.take k) (-1)) (aN l (c.take k) 0) wr (HR.out.later hB) hv hl5 (by omega) h5 h6 n1 n2 ⟨Nat.le_trans (aN_le _ _ _) (by rw [List.length_take]; omega), Nat.le_trans (aN_le _ _ _) (by rw [List.length_take]; omega), Nat.le_trans (aN_le _ _ _) (by rw [List.length_take]; omega)⟩
        rw [cnt1_step, cnt1_step, cnt1_step, ← HT.out] at hct
        have HCT := Lib.hid hct
        clear hct hc hra h5 h4 hv
        generalize c.getD k 0 = z at *
        go_wp2_with fail
        refine HCT.out.mono ?_
        rintro e w4 ⟨rfl, h54, hok⟩
        have h64 := hok.cell h6 (by show b6 ≠ _; omega)
        have H54 := Lib.hid h54
        have H44 : Hid (Blk w4 w.heap.size (cntC 0 0 0) 31) := Lib.hid ((hok.2.1 _ H4.out.lt (by omega)).trans H4.out)
        have HV4 := Lib.hid (HV.out.step hok hl5)
        have hB4 := hok.2.2 _ hB (by omega)
        clear h54 hok
        go_wp2_with fail
        go_roundw
        case rel => exact ⟨k + 1, by omega, by go_num, H54.out, H44.out, HV4.out, h64, hB4⟩
        case measure => simp [intOf]; omega
      · have hkm : k = m := by omega
        subst hkm
        have HT : Hid (c.take k = c) := Lib.hid (List.take_of_length_le (by rw [HL2.out]; exact Nat.le_refl _))
        rw [HT.out] at h5
        have q0 := h5.cell 0; have q1 := h5.cell 1; have q2 := h5.cell 2
        have r0 := h4.cell 0; have r1 := h4.cell 1; have r2 := h4.cell 2
        have g0 := h4.free 0; have g1 := h4.free 1; have g2 := h4.free 2
        simp [cntC] at q0 q1 q2 r0 r1 r2
        have z := ((h4.set 0 (.int .i64 (aN l c 1 : Int))).set 1 (.int .i64 (aN l c (-1) : Int))).set 2 (.int .i64 (aN l c 0 : Int))
        have z0 := z.cell 0; have z1 := z.cell 1; have z2 := z.cell 2
        simp only [cntC, set0, set1, set2] at z0 z1 z2
        have Z0 := Lib.hid z0; have Z1 := Lib.hid z1; have Z2 := Lib.hid z2
        clear h5 h4 hv z z0 z1 z2
        go_wp2_with fail
        have z0 := Z0.out; have z1 := Z1.out; have z2 := Z2.out
        have hbe : Below w.heap.size w (((wr.setCell ⟨w.heap.size, 0, none⟩ (.int .i64 (aN l c 1 : Int))).setCell ⟨w.heap.size, 1, none⟩ (.int .i64 (aN l c (-1) : Int))).setCell ⟨w.heap.size, 2, none⟩ (.int .i64 (aN l c 0 : Int))) := below_set (below_set (below_set hB (Nat.le_refl _) _ _) (Nat.le_refl _) _ _) (Nat.le_refl _) _ _
        generalize (((wr.setCell ⟨w.heap.size, 0, none⟩ (.int .i64 (aN l c 1 : Int))).setCell ⟨w.heap.size, 1, none⟩ (.int .i64 (aN l c (-1) : Int))).setCell ⟨w.heap.size, 2, none⟩ (.int .i64 (aN l c 0 : Int))) = wz at *
        simp at z0 z1 z2
        exact bodyPost_ret (v := cntV l c) (by simp [results, Try.results16, go_sem, z0, z1, z2, cntV, cntC]) rfl ⟨rfl, hbe⟩
  · have hv := hv0
    clear hv0
    have hl5 := h5.lt
    have h42 := h4.later hb2; have h52 := h5.later hb2
    have hB2 := below_step hB0 hb2
    have hsz2 := hb2.size
    have hb3 : Below w2.heap.size w2 (w2.alloc (.cells #[.func (.func 38) #[] #[.pointer (some ⟨bb, 0, none⟩)]] 44)) := by (repeat (first | (with_reducible exact Below.refl _ _) | (with_reducible assumption) | (with_reducible refine below_alloc ?_ _) | (with_reducible refine below_drew ?_) | (with_reducible refine below_drewN ?_ _) | (with_reducible refine below_step ?_ (by with_reducible assumption))))
    have h43 := h42.later hb3; have h53 := h52.later hb3; have hv3 := hv.later hb3
    have hB3 := below_step hB2 hb3
    have h63 : (w2.alloc (.cells #[.func (.func 38) #[] #[.pointer (some ⟨bb, 0, none⟩)]] 44)).cell? ⟨w2.heap.size, 0, none⟩ = some (.func (.func 38) #[] #[.pointer (some ⟨bb, 0, none⟩)]) := (Blk.made w2 #[.func (.func 38) #[] #[.pointer (some ⟨bb, 0, none⟩)]] 44).cell 0
    clear h4 h5 h42 h52 hv hB0 hb2 hB2 hb3
    go_wp2_with fail
    generalize w2.alloc (.cells #[.func (.func 38) #[] #[.pointer (some ⟨bb, 0, none⟩)]] 44) = w3 at *
    have hgf : ∃ f, f = (.func (.func 38) #[] #[.pointer (some ⟨bb, 0, none⟩)] : Value) := ⟨_, rfl⟩
    obtain ⟨f, hfe⟩ := hgf
    rw [← hfe] at hv3 h63
    have HFE := Lib.hid hfe
    clear hfe
    generalize hb6 : w2.heap.size = b6 at *
    clear hb6
    have H0 : Hid (∀ v, aN l (c.take 0) v = 0) := Lib.hid (fun v => rfl)
    go_loopw [9, 17] (fun _ i wr => ∃ k : Nat, k ≤ m ∧ i = .int .i64 k ∧ Blk wr (w.heap.size + 1) (cntC (aN l (c.take k) 1) (aN l (c.take k) (-1)) (aN l (c.take k) 0)) 31 ∧ Blk wr w.heap.size (cntC 0 0 0) 31 ∧ ValFn w1.heap.size wr f a len cap l ∧ wr.cell? ⟨b6, 0, none⟩ = some f ∧ Below w.heap.size w wr) (fun _ i _ => m - (intOf i).toNat)
    case atStart => exact ⟨0, Nat.zero_le _, rfl, by rw [H0.out, H0.out, H0.out]; exact h53, h43, hv3, h63, hB3⟩
    case round =>
      clear h53 h43 hv3 h63 hB3
      obtain ⟨k, hk, rfl, h5, h4, hv, h6, hB⟩ := hrel
      have H5 := Lib.hid h5; have H4 := Lib.hid h4; have HV := Lib.hid hv
      have t1 : (0 : Int) ≤ (k : Int) := by omega
      by_cases hlt : k < m
      · have hra := HR2.out.later hB
        obtain ⟨b, off, rfl, hc⟩ := hra.2.2 (by omega)
        have hck := hc k hlt
        have t2 : (k : Int) < (m : Int) := by omega
        obtain ⟨n1, n2⟩ := HF2.out _ (at_mem HL2.out hlt)
        have HT : Hid (c.take (k + 1) = c.take k ++ [c.getD k 0]) := Lib.hid (take_snoc c k (by rw [HL2.out]; exact hlt))
        have hct := asg_Count1 (w.heap.size + 1) b6 w1.heap.size f a len cap l (c.getD k 0) (aN l (c.take k) 1) (aN l (c.take k) (-1)) (aN l (c.take k) 0) wr (HR.out.later hB) hv hl5 (by omega) h5 h6 n1 n2 ⟨Nat.le_trans (aN_le _ _ _) (by rw [List.length_take]; omega), Nat.le_trans (aN_le _ _ _) (by rw [List.length_take]; omega), Nat.le_trans (aN_le _ _ _) (by rw [List.length_take]; omega)⟩
        rw [cnt1_step, cnt1_step, cnt1_step, ← HT.out] at hct
        have HCT := Lib.hid hct
        clear hct hc hra h5 h4 hv
        generalize c.getD k 0 = z at *
        go_wp2_with fail
        refine HCT.out.mono ?_
        rintro e w4 ⟨rfl, h54, hok⟩
        have h64 := hok.cell h6 (by show b6 ≠ _; omega)
        have H54 := Lib.hid h54
        have H44 : Hid (Blk w4 w.heap.size (cntC 0 0 0) 31) := Lib.hid ((hok.2.1 _ H4.out.lt (by omega)).trans H4.out)
        have HV4 := Lib.hid (HV.out.step hok hl5)
        have hB4 := hok.2.2 _ hB (by omega)
        clear h54 hok
        go_wp2_with fail
        go_roundw
        case rel => exact ⟨k + 1, by omega, by go_num, H54.out, H44.out, HV4.out, h64, hB4⟩
        case measure => simp [intOf]; omega
      · have hkm : k = m := by omega
        subst hkm
        have HT : Hid (c.take k = c) := Lib.hid (List.take_of_length_le (by rw [HL2.out]; exact Nat.le_refl _))
        rw [HT.out] at h5
        have q0 := h5.cell 0; have q1 := h5.cell 1; have q2 := h5.cell 2
        have r0 := h4.cell 0; have r1 := h4.cell 1; have r2 := h4.cell 2
        have g0 := h4.free 0; have g1 := h4.free 1; have g2 := h4.free 2
        simp [cntC] at q0 q1 q2 r0 r1 r2
        have z := ((h4.set 0 (.int .i64 (aN l c 1 : Int))).set 1 (.int .i64 (aN l c (-1) : Int))).set 2 (.int .i64 (aN l c 0 : Int))
        have z0 := z.cell 0; have z1 := z.cell 1; have z2 := z.cell 2
        simp only [cntC, set0, set1, set2] at z0 z1 z2
        have Z0 := Lib.hid z0; have Z1 := Lib.hid z1; have Z2 := Lib.hid z2
        clear h5 h4 hv z z0 z1 z2
        go_wp2_with fail
        have z0 := Z0.out; have z1 := Z1.out; have z2 := Z2.out
        have hbe : Below w.heap.size w (((wr.setCell ⟨w.heap.size, 0, none⟩ (.int .i64 (aN l c 1 : Int))).setCell ⟨w.heap.size, 1, none⟩ (.int .i64 (aN l c (-1) : Int))).setCell ⟨w.heap.size, 2, none⟩ (.int .i64 (aN l c 0 : Int))) := below_set (below_set (below_set hB (Nat.le_refl _) _ _) (Nat.le_refl _) _ _) (Nat.le_refl _) _ _
        generalize (((wr.setCell ⟨w.heap.size, 0, none⟩ (.int .i64 (aN l c 1 : Int))).setCell ⟨w.heap.size, 1, none⟩ (.int .i64 (aN l c (-1) : Int))).setCell ⟨w.heap.size, 2, none⟩ (.int .i64 (aN l c 0 : Int))) = wz at *
        simp at z0 z1 z2
        exact bodyPost_ret (v := cntV l c) (by simp [results, Try.results16, go_sem, z0, z1, z2, cntV, cntC]) rfl ⟨rfl, hbe⟩
end Go.Proofs.Ytmaaoijlchfdgaa
