/- Layer 32: PlacesReads is true for every input. -/
import Derived.Test.YthfcbjfeepindaaLaw32
namespace Go.Proofs.Ythfcbjfeepindaa
open Go.RowKit
set_option linter.unusedVariables false
set_option linter.unusedSimpArgs false

def OrdRes (o s : Int) (ml : Nat) (bs : List Bool) (ok : Bool) (l : List Int) : Prop := (ok = true ∧ nOk o s ∧ (ml : Int) = nVars o s ∧ Ord o.toNat (Mx o.toNat bs) l) ∨ (ok = false ∧ l = [] ∧ ∀ l', ¬ (nOk o s ∧ (ml : Int) = nVars o s ∧ Ord o.toNat (Mx o.toNat bs) l'))
theorem OrdRes.uniq {o s : Int} {ml : Nat} {bs : List Bool} {ok ok' : Bool} {l l' : List Int} (h : OrdRes o s ml bs ok l) (h' : OrdRes o s ml bs ok' l') : ok = ok' ∧ l = l' := by
  rcases h with ⟨h1, h2, h3, h4⟩ | ⟨h1, h2, h3⟩ <;> rcases h' with ⟨k1, k2, k3, k4⟩ | ⟨k1, k2, k3⟩
  · exact ⟨h1.trans k1.symm, h4.uniq k4⟩
  · exact absurd ⟨h2, h3, h4⟩ (k3 l)
  · exact absurd ⟨k2, k3, k4⟩ (h3 l')
  · exact ⟨h1.trans k1.symm, h2.trans k2.symm⟩
def OrdAny (o s : Int) (ml : Nat) (bs : List Bool) (w : World) (e : Ending) (w' : World) : Prop := ∃ ok l v, e = .returned (.tuple #[v, .bool ok]) ∧ OrdRes o s ml bs ok l ∧ OwnInts w' w.heap.size v l ∧ Below w.heap.size w w'
theorem OrdAny.of {n : Nat} {s : Int} {ml : Nat} {bs : List Bool} {w : World} (hok : nOk n s) (hml : (ml : Int) = nVars n s) {e : Ending} {w' : World} (h : OrdPost n bs w e w') : OrdAny n s ml bs w e w' := by
  rcases h with ⟨l, v, h1, h2, h3, h4⟩ | ⟨h1, h2, h3⟩
  · exact ⟨true, l, v, h1, Or.inl ⟨rfl, hok, hml, h2⟩, h3, h4⟩
  · exact ⟨false, [], _, h2, Or.inr ⟨rfl, rfl, fun l' hl => h1 l' hl.2.2⟩, OwnInts.nil _ _, h3⟩
theorem pla_Order_any (o s : Int) (ma : Option Addr) (ml mc : Nat) (bs : List Bool) (w : World) (hm : BoolRow w ma ml bs) : Calls Try.prog 36 #[.agg #[.int .i64 o, .int .i64 s], .slice ma ml mc] w (OrdAny o s ml bs w) := by
  by_cases h : nOk o s ∧ (ml : Int) = nVars o s
  · obtain ⟨n, rfl⟩ : ∃ n : Nat, o = n := ⟨o.toNat, by have := h.1.1; omega⟩
    exact (pla_Order n s ma ml mc bs w h.1 h.2 hm).mono fun e w' hp => OrdAny.of h.1 h.2 hp
  · refine (pla_Order_no o s ma ml mc w ?_).mono ?_
    · by_cases h1 : nOk o s
      · exact Or.inr fun h2 => h ⟨h1, h2⟩
      · exact Or.inl h1
    · rintro e w' ⟨rfl, hb⟩
      exact ⟨false, [], _, rfl, Or.inr ⟨rfl, rfl, fun l' hl => h ⟨hl.1, hl.2.1⟩⟩, OwnInts.nil _ _, hb⟩
theorem ref_Order_any (o s : Int) (ma : Option Addr) (ml mc : Nat) (bs : List Bool) (w : World) (hm : BoolRow w ma ml bs) : Calls Try.prog 37 #[.int .i64 o, .int .i64 s, .slice ma ml mc] w (OrdAny o s ml bs w) := by
  by_cases h : nOk o s ∧ (ml : Int) = nVars o s
  · obtain ⟨n, rfl⟩ : ∃ n : Nat, o = n := ⟨o.toNat, by have := h.1.1; omega⟩
    exact (ref_Order n s ma ml mc bs w h.1 h.2 hm).mono fun e w' hp => OrdAny.of h.1 h.2 hp
  · refine (ref_Order_no o s ma ml mc w ?_).mono ?_
    · by_cases h1 : nOk o s
      · exact Or.inr fun h2 => h ⟨h1, h2⟩
      · exact Or.inl h1
    · rintro e w' ⟨rfl, rfl⟩
      exact ⟨false, [], _, rfl, Or.inr ⟨rfl, rfl, fun l' hl => h ⟨hl.1, hl.2.1⟩⟩, OwnInts.nil _ _, Below.refl _ _⟩

def TruRes (o s : Int) (ml : Nat) (l : List Int) (ok : Bool) (bs : List Bool) : Prop := (ok = true ∧ nOk o s ∧ (ml : Int) = o ∧ Pm o.toNat o.toNat l ∧ IsTru o.toNat o.toNat (nVars o s).toNat l bs) ∨ (ok = false ∧ bs = [] ∧ ¬ (nOk o s ∧ (ml : Int) = o ∧ Pm o.toNat o.toNat l))
theorem TruRes.uniq {o s : Int} {ml : Nat} {l : List Int} {ok ok' : Bool} {bs bs' : List Bool} (h : TruRes o s ml l ok bs) (h' : TruRes o s ml l ok' bs') : ok = ok' ∧ bs = bs' := by
  rcases h with ⟨h1, h2, h3, h4, h5⟩ | ⟨h1, h2, h3⟩ <;> rcases h' with ⟨k1, k2, k3, k4, k5⟩ | ⟨k1, k2, k3⟩
  · exact ⟨h1.trans k1.symm, h5.uniq k5⟩
  · exact absurd ⟨h2, h3, h4⟩ k3
  · exact absurd ⟨k2, k3, k4⟩ h3
  · exact ⟨h1.trans k1.symm, h2.trans k2.symm⟩
def TruAny (o s : Int) (ml : Nat) (l : List Int) (w : World) (e : Ending) (w' : World) : Prop := ∃ ok bs v, e = .returned (.tuple #[v, .bool ok]) ∧ TruRes o s ml l ok bs ∧ OwnBools w' w.heap.size v bs ∧ Below w.heap.size w w'
theorem TruAny.of {n : Nat} {s : Int} {l : List Int} {w : World} (hok : nOk n s) {e : Ending} {w' : World} (h : TruPost n (nVars n s).toNat l w e w') : TruAny n s n l w e w' := by
  rcases h with ⟨h0, bs, v, h1, h2, h3, h4⟩ | ⟨h1, h2, h3⟩
  · exact ⟨true, bs, v, h1, Or.inl ⟨rfl, hok, rfl, h0, h2⟩, h3, h4⟩
  · exact ⟨false, [], _, h2, Or.inr ⟨rfl, rfl, fun hl => h1 hl.2.2⟩, OwnBools.nil _ _, h3⟩
theorem pla_Truths_any (o s : Int) (ma : Option Addr) (ml mc : Nat) (l : List Int) (w : World) (hm : IntRow w ma ml l) : Calls Try.prog 38 #[.agg #[.int .i64 o, .int .i64 s], .slice ma ml mc] w (TruAny o s ml l w) := by
  by_cases h : nOk o s ∧ (ml : Int) = o
  · obtain ⟨h1, rfl⟩ := h
    exact (pla_Truths ml s ma mc l w h1 hm).mono fun e w' hp => TruAny.of h1 hp
  · refine (pla_Truths_no o s ma ml mc w ?_).mono ?_
    · by_cases h1 : nOk o s
      · exact Or.inr fun h2 => h ⟨h1, h2⟩
      · exact Or.inl h1
    · rintro e w' ⟨rfl, hb⟩
      exact ⟨false, [], _, rfl, Or.inr ⟨rfl, rfl, fun hl => h ⟨hl.1, hl.2.1⟩⟩, OwnBools.nil _ _, hb⟩
theorem ref_Truths_any (o s : Int) (ma : Option Addr) (ml mc : Nat) (l : List Int) (w : World) (hm : IntRow w ma ml l) : Calls Try.prog 39 #[.int .i64 o, .int .i64 s, .slice ma ml mc] w (TruAny o s ml l w) := by
  by_cases h : nOk o s ∧ (ml : Int) = o
  · obtain ⟨h1, rfl⟩ := h
    exact (ref_Truths ml s ma mc l w h1 hm).mono fun e w' hp => TruAny.of h1 hp
  · refine (ref_Truths_no o s ma ml mc w ?_).mono ?_
    · by_cases h1 : nOk o s
      · exact Or.inr fun h2 => h ⟨h1, h2⟩
      · exact Or.inl h1
    · rintro e w' ⟨rfl, rfl⟩
      exact ⟨false, [], _, rfl, Or.inr ⟨rfl, rfl, fun hl => h ⟨hl.1, hl.2.1⟩⟩, OwnBools.nil _ _, Below.refl _ _⟩

set_option maxHeartbeats 2000000 in
theorem placesReads_walk (w : World) (o s : Int) (wo : (Lit.int .i64 o).wf = true) (ws : (Lit.int .i64 s).wf = true) (ma : Option Addr) (ml mc : Nat) (bs : List Bool) (hm : BoolRow w ma ml bs) (hmc : ml ≤ mc ∧ mc ≤ maxLen ∧ (ma = none → mc = 0))
    (va : Option Addr) (vl vc : Nat) (xs : List Int) (hr : IntRow w va vl xs) (hf : Fits xs) (hvc : vl ≤ vc ∧ vc ≤ maxLen ∧ (va = none → vc = 0)) :
    Calls Try.prog 7 #[.agg #[.int .i64 o, .int .i64 s], .slice ma ml mc, .slice va vl vc] w fun e w' => e = .returned (.bool true) ∧ Below w.heap.size w w' := by
  clear wo ws hf hmc hvc
  have HM := Lib.hid hm; have HR := Lib.hid hr
  clear hm hr
  have hb1 : Below w.heap.size w (w.alloc (.cells #[.int .i64 o, .int .i64 s] 23)) := by (repeat (first | (with_reducible exact Below.refl _ _) | (with_reducible assumption) | (with_reducible refine below_alloc ?_ _) | (with_reducible refine below_drew ?_) | (with_reducible refine below_drewN ?_ _) | (with_reducible refine below_step ?_ (by with_reducible assumption))))
  have hs1 := Blk.made w #[.int .i64 o, .int .i64 s] 23
  generalize hw1 : w.alloc (.cells #[.int .i64 o, .int .i64 s] 23) = W1 at hb1 hs1
  have HW1 := Lib.hid hw1; clear hw1
  have c0 := hs1.cell 0; have c1 := hs1.cell 1
  simp at c0 c1
  by_cases hbig : 1000 < (ml : Int) ∨ 100 < (vl : Int)
  · go_enter Try.func7, Try.ntmps7
    go_wp2_with fail
    all_goals (try rw [HW1.out])
    all_goals
      go_wp2_with (go_at_call 30; refine (law32_awake _).mono ?_; rintro e w' ⟨rfl, hbAw⟩)
      all_goals first | (exfalso; omega) | (go_returns; exact ⟨rfl, by (repeat (first | (with_reducible exact Below.refl _ _) | (with_reducible assumption) | (with_reducible refine below_alloc ?_ _) | (with_reducible refine below_drew ?_) | (with_reducible refine below_drewN ?_ _) | (with_reducible refine below_step ?_ (by with_reducible assumption))))⟩)
  · have h1 : ¬ 1000 < (ml : Int) := by omega
    have h2 : ¬ 100 < (vl : Int) := by omega
    have d1 : decide (1000 < (ml : Int)) = false := by simpa using h1
    have d2 : decide (100 < (vl : Int)) = false := by simpa using h2
    clear hbig
    go_enter Try.func7, Try.ntmps7
    go_wp2_with fail
    rw [HW1.out]
    refine (pla_Order_any o s _ _ _ bs _ (HM.out.later hb1)).mono ?_
    rintro e w2 ⟨ok, l, v, rfl, hA, hvA, hb2⟩
    have c0 := cell_later hb2 c0; have c1 := cell_later hb2 c1
    go_wp2_with fail
    refine (ref_Order_any o s _ _ _ bs _ (HM.out.later (by (repeat (first | (with_reducible exact Below.refl _ _) | (with_reducible assumption) | (with_reducible refine below_alloc ?_ _) | (with_reducible refine below_drew ?_) | (with_reducible refine below_drewN ?_ _) | (with_reducible refine below_step ?_ (by with_reducible assumption))))))).mono ?_
    rintro e w3 ⟨ok', l', v', rfl, hB, hvB, hb3⟩
    obtain ⟨rfl, rfl⟩ := hA.uniq hB
    have c0 := cell_later hb3 c0; have c1 := cell_later hb3 c1
    go_wp2_with fail
    refine (pla_Truths_any o s _ _ _ xs _ (HR.out.later (by (repeat (first | (with_reducible exact Below.refl _ _) | (with_reducible assumption) | (with_reducible refine below_alloc ?_ _) | (with_reducible refine below_drew ?_) | (with_reducible refine below_drewN ?_ _) | (with_reducible refine below_step ?_ (by with_reducible assumption))))))).mono ?_
    rintro e w4 ⟨ok2, m, u, rfl, hC, hvC, hb4⟩
    have c0 := cell_later hb4 c0; have c1 := cell_later hb4 c1
    go_wp2_with fail
    refine (ref_Truths_any o s _ _ _ xs _ (HR.out.later (by (repeat (first | (with_reducible exact Below.refl _ _) | (with_reducible assumption) | (with_reducible refine below_alloc ?_ _) | (with_reducible refine below_drew ?_) | (with_reducible refine below_drewN ?_ _) | (with_reducible refine below_step ?_ (by with_reducible assumption))))))).mono ?_
    rintro e w5 ⟨ok2', m', u', rfl, hD, hvD, hb5⟩
    obtain ⟨rfl, rfl⟩ := hC.uniq hD
    go_wp2_with fail
    refine (same_IntsV _ _ _ _ _ (hvA.ints.later (by (repeat (first | (with_reducible exact Below.refl _ _) | (with_reducible assumption) | (with_reducible refine below_alloc ?_ _) | (with_reducible refine below_drew ?_) | (with_reducible refine below_drewN ?_ _) | (with_reducible refine below_step ?_ (by with_reducible assumption)))))) (hvB.ints.later (by (repeat (first | (with_reducible exact Below.refl _ _) | (with_reducible assumption) | (with_reducible refine below_alloc ?_ _) | (with_reducible refine below_drew ?_) | (with_reducible refine below_drewN ?_ _) | (with_reducible refine below_step ?_ (by with_reducible assumption))))))).mono ?_
    rintro e w6 ⟨rfl, hb6⟩
    rw [decide_eq_true rfl]
    go_wp2_with fail
    refine (same_BoolsV _ _ _ _ _ (hvC.later (by (repeat (first | (with_reducible exact Below.refl _ _) | (with_reducible assumption) | (with_reducible refine below_alloc ?_ _) | (with_reducible refine below_drew ?_) | (with_reducible refine below_drewN ?_ _) | (with_reducible refine below_step ?_ (by with_reducible assumption)))))) (hvD.later (by (repeat (first | (with_reducible exact Below.refl _ _) | (with_reducible assumption) | (with_reducible refine below_alloc ?_ _) | (with_reducible refine below_drew ?_) | (with_reducible refine below_drewN ?_ _) | (with_reducible refine below_step ?_ (by with_reducible assumption))))))).mono ?_
    rintro e w7 ⟨rfl, hb7⟩
    rw [decide_eq_true rfl]
    go_wp2_with (go_at_call 30; refine (law32_awake _).mono ?_; rintro e w' ⟨rfl, hbAw⟩)
    go_returns
    exact ⟨rfl, by (repeat (first | (with_reducible exact Below.refl _ _) | (with_reducible assumption) | (with_reducible refine below_alloc ?_ _) | (with_reducible refine below_drew ?_) | (with_reducible refine below_drewN ?_ _) | (with_reducible refine below_step ?_ (by with_reducible assumption))))⟩
end Go.Proofs.Ythfcbjfeepindaa
