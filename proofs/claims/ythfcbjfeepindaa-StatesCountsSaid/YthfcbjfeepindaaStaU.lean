/- The contracts of states.Truths and of its reference. -/
import Derived.Test.YthfcbjfeepindaaStaT
import Derived.Test.YthfcbjfeepindaaStaS
import Derived.Test.YthfcbjfeepindaaPlaY
namespace Go.Proofs.Ythfcbjfeepindaa
open Go.RowKit
set_option linter.unusedVariables false
set_option linter.unusedSimpArgs false

def StTruPost (o s : Int) (rl : Nat) (row : List Int) (w : World) (e : Ending) (w' : World) : Prop := ∃ v, e = .returned (.tuple #[v, .bool (stTOk o s rl row)]) ∧ OwnBools w' w.heap.size v (stTru o s rl row) ∧ Below w.heap.size w w'
theorem StTruPost.no {o s : Int} {rl : Nat} {row : List Int} {w w' : World} {e : Ending} (h : ¬ (nOk o s ∧ (rl : Int) = o + 1 ∧ stMay o s row (o.toNat + 1))) (he : e = .returned (.tuple #[.slice none 0 0, .bool false])) (hb : Below w.heap.size w w') : StTruPost o s rl row w e w' := by
  have h1 : stTOk o s rl row = false := by unfold stTOk; rw [decide_eq_false h]
  refine ⟨_, by rw [he, h1], ?_, hb⟩
  unfold stTru; rw [h1, if_neg (by decide)]; exact OwnBools.nil _ _
theorem StTruPost.yes {n m rl : Nat} {row : List Int} {w w' : World} {e : Ending} {v : Value} (hok : nOk n m) (hrl : rl = n + 1) (hall : stMay n m row (n + 1)) (he : e = .returned (.tuple #[v, .bool true])) (hv : OwnBools w' w.heap.size v (stTs n m row (n + 1))) (hb : Below w.heap.size w w') : StTruPost n m rl row w e w' := by
  have h1 : stTOk n m rl row = true := by unfold stTOk; rw [decide_eq_true]; exact ⟨hok, by omega, by simpa using hall⟩
  refine ⟨_, by rw [he, h1], ?_, hb⟩
  unfold stTru; rw [h1, if_pos rfl]; simpa using hv

set_option maxHeartbeats 1000000 in
theorem sta_Truths (o s : Int) (ra : Option Addr) (rl rc : Nat) (row : List Int) (w : World) (hr : IntRow w ra rl row) :
    Calls Try.prog 56 #[.agg #[.int .i64 o, .int .i64 s], .slice ra rl rc] w (StTruPost o s rl row w) := by
  have hb1 : Below w.heap.size w ((w.alloc (.cells #[.int .i64 o, .int .i64 s] 23)).alloc (.cells #[.slice ra rl rc] 41)) := by (repeat (first | (with_reducible exact Below.refl _ _) | (with_reducible assumption) | (with_reducible refine below_alloc ?_ _) | (with_reducible refine below_drew ?_) | (with_reducible refine below_drewN ?_ _) | (with_reducible refine below_step ?_ (by with_reducible assumption))))
  have c0 : ((w.alloc (.cells #[.int .i64 o, .int .i64 s] 23)).alloc (.cells #[.slice ra rl rc] 41)).cell? ⟨w.heap.size, 0, none⟩ = some (.int .i64 o) := by simp [go_sem]
  have c1 : ((w.alloc (.cells #[.int .i64 o, .int .i64 s] 23)).alloc (.cells #[.slice ra rl rc] 41)).cell? ⟨w.heap.size, 1, none⟩ = some (.int .i64 s) := by simp [go_sem]
  have c2 : ((w.alloc (.cells #[.int .i64 o, .int .i64 s] 23)).alloc (.cells #[.slice ra rl rc] 41)).cell? ⟨w.heap.size + 1, 0, none⟩ = some (.slice ra rl rc) := by simp [go_sem]
  generalize hw1 : (w.alloc (.cells #[.int .i64 o, .int .i64 s] 23)).alloc (.cells #[.slice ra rl rc] 41) = W1 at *
  have HW1 := Lib.hid hw1; clear hw1
  have HR := Lib.hid (hr.later hb1)
  have hrm := hr.2.1; unfold maxLen at hrm
  clear hr
  by_cases hok : nOk o s
  · obtain ⟨n, rfl⟩ : ∃ n : Nat, o = n := ⟨o.toNat, by have := hok.1; omega⟩
    obtain ⟨m, rfl⟩ : ∃ m : Nat, s = m := ⟨s.toNat, by have := hok.2.2.1; omega⟩
    have hk : (nCheck n m != 0) = false := by rw [nCheck_yes hok]; rfl
    have hn64 : n ≤ 64 := by unfold nOk at hok; omega
    have HOK := Lib.hid hok
    by_cases hrl : rl = n + 1
    · have hV6 := stVars_le hok
      have HVE := Lib.hid (stVars hok)
      have HVV : Hid (∀ k, (stTs n m row k).length = n * n + n + (n + 1) * m) := Lib.hid (stTs_length n m row)
      have HV0 := Lib.hid (stTs_zero n m row)
      have hmk := run_make_row' (P := Try.prog) 49 4 (.bool false) 1 Try.underlying49 info_bool rfl .i64 .i64 (n * n + n + (n + 1) * m) (by omega) (by omega)
      have HQL : Hid (∀ k j : Nat, k < n + 1 → j < m → n * n + n + k * m + j < n * n + n + (n + 1) * m) := Lib.hid (fun k j h1 h2 => stAt_lt h1 h2)
      have HSET : Hid (∀ k j : Nat, k < n + 1 → row.getD k 0 = (j : Int) → j < m → stTs n m row (k + 1) = (stTs n m row k).set (n * n + n + k * m + j) true) := Lib.hid (fun k j h1 h2 h3 => stTs_set n m row k hok h1 j h2 h3)
      generalize n * n + n + (n + 1) * m = V at *
      subst hrl
      have hgd : (((n + 1 : Nat) : Int) != (n : Int) + 1) = false := by simp
      obtain ⟨rb, ro, rfl, hrc⟩ := HR.out.2.2 (by omega)
      have HRC := Lib.hid hrc
      clear hok hrc
      go_enter Try.func56, Try.ntmps56
      go_wp2_with fail
      rw [HW1.out]
      refine (num_Check _ _ _).mono ?_
      rintro e w2 ⟨rfl, hb2⟩
      have d0 := cell_later hb2 c0; have d1 := cell_later hb2 c1; have d2 := cell_later hb2 c2
      have hcall := fun (i : Nat) (wr : World) (hi : i < n + 1) (hb : Below w2.heap.size w2 wr) => sta_tru1 n m w.heap.size (w.heap.size + 1) rb ro (n + 1) rc (row.getD i 0) i hi wr (cell_later hb d0) (cell_later hb d1) (cell_later hb d2) (cell_later hb (cell_later hb2 (HRC.out i hi)))
      have G := sta_gather_tru #[.pointer (some ⟨w.heap.size, 0, none⟩), .pointer (some ⟨w.heap.size + 1, 0, none⟩)] (n + 1) (fun i : Nat => (nVar n m 3 i (row.getD i 0), (nVar n m 3 i (row.getD i 0) != 0))) w2 (by omega) hcall
      have HG := Lib.hid G
      clear hcall G
      go_wp2_with fail
      refine HG.out.mono ?_
      rintro e w5 (⟨hall, v, rfl, hv, hb5⟩ | ⟨⟨i, hi, hno⟩, rfl, hb5⟩)
      · have hmay : stMay n m row (n + 1) := fun a ha => (stVar_ne HOK.out ha).1 (by have := hall a ha; simpa using this)
        have HMAY := Lib.hid hmay
        clear hall hmay
        obtain ⟨va, vl, vc, rfl, _, _, hvr⟩ := hv.ints
        have hvl : vl = n + 1 := by rw [← hvr.1]; simp
        subst hvl
        have HVR := Lib.hid hvr
        clear hv hvr
        have e0 := cell_later hb5 d0; have e1 := cell_later hb5 d1
        clear c0 c1 c2 d0 d1 d2
        have hzl := World.block_lt_of_cell? _ _ e0
        dsimp only at hzl
        go_wp2_with fail
        refine (num_Vars _ _ _).mono ?_
        rintro e w6 ⟨rfl, hb6⟩
        rw [HVE.out]
        have hB6 : Below w.heap.size w w6 := by (repeat (first | (with_reducible exact Below.refl _ _) | (with_reducible assumption) | (with_reducible refine below_alloc ?_ _) | (with_reducible refine below_drew ?_) | (with_reducible refine below_drewN ?_ _) | (with_reducible refine below_step ?_ (by with_reducible assumption))))
        have hz6 := hB6.size
        clear e0 e1
        have HVR6 := Lib.hid (HVR.out.later hb6)
        go_wp2_with fail
        go_loopw [10, 36] (fun x i wr => ∃ k : Nat, k ≤ n + 1 ∧ i = .int .i64 k ∧ Below w6.heap.size w6 wr ∧ Blk wr w6.heap.size ((stTs n m row k).map Value.bool).toArray 4) (fun _ i _ => n + 1 - (intOf i).toNat)
        case atStart => exact ⟨0, Nat.zero_le _, rfl, by (repeat (first | (with_reducible exact Below.refl _ _) | (with_reducible assumption) | (with_reducible refine below_alloc ?_ _) | (with_reducible refine below_drew ?_) | (with_reducible refine below_drewN ?_ _) | (with_reducible refine below_step ?_ (by with_reducible assumption)))), by rw [HV0.out, ← madeBools]; exact Blk.made _ _ _⟩
        case round =>
          obtain ⟨k, hk, rfl, hbr, hblk⟩ := hrel
          have HBLK := Lib.hid hblk; clear hblk
          by_cases hlt : k < n + 1
          · have hlt2 : (k : Int) < (n : Int) + 1 := by omega
            obtain ⟨xb, xo, rfl, hxc⟩ := (HVR6.out.later hbr).2.2 (by omega)
            have hx := hxc k hlt
            clear hxc
            obtain ⟨j, hj⟩ : ∃ j : Nat, row.getD k 0 = j := ⟨(row.getD k 0).toNat, by have := HMAY.out k hlt; omega⟩
            have hjm : j < m := by have := HMAY.out k hlt; omega
            have hxx : ((List.range (n + 1)).map fun i : Nat => nVar n m 3 i (row.getD i 0)).getD k 0 = ((n * n + n + k * m + j : Nat) : Int) + 1 := by
              rw [← stVar HOK.out hlt hjm, ← hj]; simp [List.getD, hlt]
            rw [hxx] at hx
            clear hxx
            have hqV := HQL.out k j hlt hjm
            have HS2 := Lib.hid (HSET.out k j hlt hj hjm)
            have HJ := Lib.hid hj
            clear hj
            generalize n * n + n + k * m + j = q at *
            have t8 := bblk_cell HBLK.out (k := q) (by rw [HVV.out]; exact hqV)
            have f8 := HBLK.out.free q
            have hlb := HBLK.out.lt
            go_wp2_with fail
            go_roundw
            case rel => exact ⟨k + 1, by omega, by go_num, below_set hbr (Nat.le_refl _) _ _, by rw [HS2.out]; exact bblk_set HBLK.out q true⟩
            case measure => simp [intOf]; omega
          · have hkn : k = n + 1 := by omega
            have HKN := Lib.hid hkn; clear hkn
            go_wp2_with fail
            go_ret2
            have hw := bblk_own (B := w.heap.size) HBLK.out hz6 (by rw [HVV.out]; unfold maxLen; omega)
            rw [HVV.out, HKN.out] at hw
            exact StTruPost.yes HOK.out rfl HMAY.out rfl hw (by (repeat (first | (with_reducible exact Below.refl _ _) | (with_reducible assumption) | (with_reducible refine below_alloc ?_ _) | (with_reducible refine below_drew ?_) | (with_reducible refine below_drewN ?_ _) | (with_reducible refine below_step ?_ (by with_reducible assumption)))))
      · have HNO := Lib.hid hno; clear hno
        go_wp2_with fail
        go_ret2
        refine StTruPost.no (fun h => ?_) rfl (by (repeat (first | (with_reducible exact Below.refl _ _) | (with_reducible assumption) | (with_reducible refine below_alloc ?_ _) | (with_reducible refine below_drew ?_) | (with_reducible refine below_drewN ?_ _) | (with_reducible refine below_step ?_ (by with_reducible assumption)))))
        have h2 := h.2.2 i (by simpa using hi)
        have h3 := (stVar_ne HOK.out hi).2 h2
        have h4 := HNO.out
        simp at h4
        exact h3 (by simpa using h4)
    · have hv : ((rl : Int) != (n : Int) + 1) = true := by simp; omega
      have HNO := Lib.hid hrl
      clear hok hrl
      go_enter Try.func56, Try.ntmps56
      go_wp2_with fail
      rw [HW1.out]
      refine (num_Check _ _ _).mono ?_
      rintro e w2 ⟨rfl, hb2⟩
      have d0 := cell_later hb2 c0; have d1 := cell_later hb2 c1; have d2 := cell_later hb2 c2
      go_wp2_with fail
      go_ret2
      exact StTruPost.no (fun h => HNO.out (by omega)) rfl (by (repeat (first | (with_reducible exact Below.refl _ _) | (with_reducible assumption) | (with_reducible refine below_alloc ?_ _) | (with_reducible refine below_drew ?_) | (with_reducible refine below_drewN ?_ _) | (with_reducible refine below_step ?_ (by with_reducible assumption)))))
  · have hk : (nCheck o s != 0) = true := by rw [nCheck_no hok]; rfl
    have HNO := Lib.hid hok
    clear hok
    go_enter Try.func56, Try.ntmps56
    go_wp2_with fail
    rw [HW1.out]
    refine (num_Check _ _ _).mono ?_
    rintro e w2 ⟨rfl, hb2⟩
    go_wp2_with fail
    go_ret2
    exact StTruPost.no (fun h => HNO.out h.1) rfl (by (repeat (first | (with_reducible exact Below.refl _ _) | (with_reducible assumption) | (with_reducible refine below_alloc ?_ _) | (with_reducible refine below_drew ?_) | (with_reducible refine below_drewN ?_ _) | (with_reducible refine below_step ?_ (by with_reducible assumption)))))
end Go.Proofs.Ythfcbjfeepindaa
