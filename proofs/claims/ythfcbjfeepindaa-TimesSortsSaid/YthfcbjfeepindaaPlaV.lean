/- The contracts of places.vars, ofOper and ofPlace: the variables of an operation, and of a place. -/
import Derived.Test.YthfcbjfeepindaaNumV
import Derived.Test.YthfcbjfeepindaaPlaM
import Derived.Deep.OwnRows
namespace Go.Proofs.Ythfcbjfeepindaa
open Go.RowKit
set_option linter.unusedVariables false

theorem pla_ofOper1 (i q : Int) (p : Addr) (w : World) (hp : w.cell? p = some (.int .i64 q)) : Calls Try.prog 108 #[.int .i64 i, .pointer (some p)] w fun e w' => e = .returned (.agg #[.int .i64 1, .int .i64 q, .int .i64 i]) ∧ Below w.heap.size w w' := by
  have hlt := World.block_lt_of_cell? _ _ hp
  obtain ⟨pb, po, ps⟩ := p
  dsimp only at hlt
  go_enter Try.func108, Try.ntmps108
  go_wp2
  refine bodyPost_ret (v := .agg #[.int .i64 1, .int .i64 q, .int .i64 i]) (by simp [results, Try.results108, go_sem]) rfl ⟨rfl, ?_⟩
  (repeat (first | (with_reducible exact Below.refl _ _) | (with_reducible assumption) | (with_reducible refine below_alloc ?_ _) | (with_reducible refine below_drew ?_) | (with_reducible refine below_drewN ?_ _) | (with_reducible refine below_step ?_ (by with_reducible assumption))))

set_option maxHeartbeats 2000000 in
theorem pla_vars_ofOper (n : Nat) (s q : Int) (p : Addr) (w : World) (hok : nOk n s) (hp : w.cell? p = some (.int .i64 q)) (hps : p.spot = none) :
    Calls Try.prog 107 #[.agg #[.int .i64 n, .int .i64 s], .func (Fn.func 108) #[] #[.pointer (some p)]] w fun e w' => ∃ v, e = .returned v ∧ OwnInts w' w.heap.size v ((List.range n).map fun i : Nat => nVar n s 1 q i) ∧ Below w.heap.size w w' := by
  have HOK := Lib.hid hok
  have hn : n ≤ 64 := by have := hok.2.1; omega
  obtain ⟨pb, po, ps⟩ := p
  dsimp only at hps; subst hps
  have hlt := World.block_lt_of_cell? _ _ hp
  dsimp only at hlt
  have hb1 : Below w.heap.size w (w.alloc (.cells #[.int .i64 n, .int .i64 s] 23)) := by (repeat (first | (with_reducible exact Below.refl _ _) | (with_reducible assumption) | (with_reducible refine below_alloc ?_ _) | (with_reducible refine below_drew ?_) | (with_reducible refine below_drewN ?_ _) | (with_reducible refine below_step ?_ (by with_reducible assumption))))
  have hs1 := Blk.made w #[.int .i64 n, .int .i64 s] 23
  have hp1 := cell_later hb1 hp
  have hmk := run_make_row' (P := Try.prog) 41 3 (.int .i64 0) 8 Try.underlying41 info_int rfl .i64 .i64 n (by omega) (by omega)
  generalize hw1 : w.alloc (.cells #[.int .i64 n, .int .i64 s] 23) = w1 at hb1 hs1 hp1
  have HW1 := Lib.hid hw1; clear hw1
  have c0 := hs1.cell 0; have c1 := hs1.cell 1
  simp at c0 c1
  go_enter Try.func107, Try.ntmps107
  have hsz : w.heap.size + 1 = w1.heap.size := by rw [← HW1.out]; simp
  have HSZ := Lib.hid hsz; clear hsz
  have hb2 : Below w1.heap.size w1 (w1.alloc (.cells (madeCells #[.int .i64 0] n) 3)) := by (repeat (first | (with_reducible exact Below.refl _ _) | (with_reducible assumption) | (with_reducible refine below_alloc ?_ _) | (with_reducible refine below_drew ?_) | (with_reducible refine below_drewN ?_ _) | (with_reducible refine below_step ?_ (by with_reducible assumption))))
  have hz2 := Blk.made w1 (madeCells #[.int .i64 0] n) 3
  go_wp2_with fail
  rw [HW1.out, HSZ.out]
  generalize w1.alloc (.cells (madeCells #[.int .i64 0] n) 3) = w2 at *
  rw [madeInts, ← upTo_zero (fun i : Nat => nVar n s 1 q i)] at hz2
  have hfe : ∀ i : Nat, nVar n s 1 q i = (fun i : Nat => nVar n s 1 q i) i := fun _ => rfl
  generalize (fun i : Nat => nVar n s 1 q i) = f at *
  have HF := Lib.hid hfe; clear hfe hmk
  go_loopw [12] (fun i wr => ∃ k : Nat, k ≤ n ∧ i = .int .i64 k ∧ Below w1.heap.size w1 wr ∧ Blk wr w1.heap.size ((upTo f 0 n k).map (Value.int .i64)).toArray 3) (fun i _ => n - (intOf i).toNat)
  case atStart => exact ⟨0, Nat.zero_le _, rfl, hb2, hz2⟩
  case round =>
    obtain ⟨k, hk, rfl, hbr, hz⟩ := hrel
    by_cases hlt : k < n
    · have d0 := cell_later hbr c0; have d1 := cell_later hbr c1; have d2 := cell_later hbr hp1
      have hck := iblk_cell hz (k := k) (by rw [upTo_length]; exact hlt)
      have hfk := hz.free k
      have hbl := hz.lt
      have HU := Lib.hid (upTo_set f 0 n k)
      have t1 : (0 : Int) ≤ (k : Int) := by omega
      have t2 : (k : Int) < (n : Int) := by omega
      have HZ := Lib.hid hz; clear hz
      go_wp2_with fail
      go_region_held3 (fun wx => Below w1.heap.size w1 wx ∧ wx.cell? ⟨w.heap.size, 0, none⟩ = some (.int .i64 n) ∧ wx.cell? ⟨w.heap.size, 1, none⟩ = some (.int .i64 s) ∧ wx.cell? ⟨pb, po, none⟩ = some (.int .i64 q) ∧ wx.cell? ⟨w1.heap.size, k, none⟩ = some (cellAt wx ⟨w1.heap.size, k, none⟩) ∧ wx.frozen? ⟨w1.heap.size, k, none⟩ = false)
        (first | (refine ⟨?_, ?_, ?_, ?_, ?_, ?_⟩; (repeat (first | (with_reducible exact Below.refl _ _) | (with_reducible assumption) | (with_reducible refine below_alloc ?_ _) | (with_reducible refine below_drew ?_) | (with_reducible refine below_drewN ?_ _) | (with_reducible refine below_step ?_ (by with_reducible assumption)) | (with_reducible refine below_set ?_ (Nat.le_refl _) _ _))); all_goals (first | (refine cell_later (w := w1) ?_ ?_ <;> (repeat (first | (with_reducible exact Below.refl _ _) | (with_reducible assumption) | (with_reducible refine below_alloc ?_ _) | (with_reducible refine below_drew ?_) | (with_reducible refine below_drewN ?_ _) | (with_reducible refine below_step ?_ (by with_reducible assumption)) | (with_reducible refine below_set ?_ (Nat.le_refl _) _ _))); done) | (refine cellAt_of (cell_later (w := wr) ?_ hck); (repeat (first | (with_reducible exact Below.refl _ _) | (with_reducible assumption) | (with_reducible refine below_alloc ?_ _) | (with_reducible refine below_drew ?_) | (with_reducible refine below_drewN ?_ _) | (with_reducible refine below_step ?_ (by with_reducible assumption)))); done) | (apply cellAt_set; assumption) | (refine froz_later (w := wr) ?_ hbl hfk; (repeat (first | (with_reducible exact Below.refl _ _) | (with_reducible assumption) | (with_reducible refine below_alloc ?_ _) | (with_reducible refine below_drew ?_) | (with_reducible refine below_drewN ?_ _) | (with_reducible refine below_step ?_ (by with_reducible assumption)))); done) | (simp only [World.frozen?_setCell]; assumption))) | (go_split_ands; refine ⟨?_, ?_, ?_, ?_, ?_, ?_⟩; (repeat (first | (with_reducible exact Below.refl _ _) | (with_reducible assumption) | (with_reducible refine below_alloc ?_ _) | (with_reducible refine below_drew ?_) | (with_reducible refine below_drewN ?_ _) | (with_reducible refine below_step ?_ (by with_reducible assumption)) | (with_reducible refine below_set ?_ (Nat.le_refl _) _ _))); all_goals (first | (refine cell_later (w := w1) ?_ ?_ <;> (repeat (first | (with_reducible exact Below.refl _ _) | (with_reducible assumption) | (with_reducible refine below_alloc ?_ _) | (with_reducible refine below_drew ?_) | (with_reducible refine below_drewN ?_ _) | (with_reducible refine below_step ?_ (by with_reducible assumption)) | (with_reducible refine below_set ?_ (Nat.le_refl _) _ _))); done) | (refine cellAt_of (cell_later (w := wr) ?_ hck); (repeat (first | (with_reducible exact Below.refl _ _) | (with_reducible assumption) | (with_reducible refine below_alloc ?_ _) | (with_reducible refine below_drew ?_) | (with_reducible refine below_drewN ?_ _) | (with_reducible refine below_step ?_ (by with_reducible assumption)))); done) | (apply cellAt_set; assumption) | (refine froz_later (w := wr) ?_ hbl hfk; (repeat (first | (with_reducible exact Below.refl _ _) | (with_reducible assumption) | (with_reducible refine below_alloc ?_ _) | (with_reducible refine below_drew ?_) | (with_reducible refine below_drewN ?_ _) | (with_reducible refine below_step ?_ (by with_reducible assumption)))); done) | (simp only [World.frozen?_setCell]; assumption))))
        (first | (go_at_call 108; refine (pla_ofOper1 _ q _ _ (by assumption)).mono ?_; rintro e w' ⟨rfl, hbA⟩) | (go_at_call 28; refine (num_Var _ _ _ _ _ _).mono ?_; rintro e w' ⟨rfl, hbB⟩))
      go_wp2
      go_roundw
      case rel =>
        refine ⟨k + 1, by omega, by go_num, ?_, ?_⟩
        · (repeat (first | (with_reducible exact Below.refl _ _) | (with_reducible assumption) | (with_reducible refine below_alloc ?_ _) | (with_reducible refine below_drew ?_) | (with_reducible refine below_drewN ?_ _) | (with_reducible refine below_step ?_ (by with_reducible assumption)) | (with_reducible refine below_set ?_ (Nat.le_refl _) _ _)))
        · rw [← HU.out, HF.out k]
          exact iblk_set (Blk.later HZ.out (by (repeat (first | (with_reducible exact Below.refl _ _) | (with_reducible assumption) | (with_reducible refine below_alloc ?_ _) | (with_reducible refine below_drew ?_) | (with_reducible refine below_drewN ?_ _) | (with_reducible refine below_step ?_ (by with_reducible assumption)))))) k (f k)
      case measure => simp [intOf]; omega
    · have hkn : k = n := by omega
      have HKN := Lib.hid hkn; clear hkn
      go_wp2_with fail
      go_ret
      rw [HKN.out] at hz
      have hw := iblk_own (B := w.heap.size) hz (by have := HSZ.out; omega) (by rw [upTo_length]; unfold maxLen; omega)
      rw [upTo_length, upTo_full] at hw
      refine ⟨_, rfl, ?_, below_step hb1 hbr⟩
      rw [List.map_congr_left fun i _ => HF.out i]
      exact hw

theorem pla_ofPlace1 (i q : Int) (p : Addr) (w : World) (hp : w.cell? p = some (.int .i64 q)) : Calls Try.prog 109 #[.int .i64 i, .pointer (some p)] w fun e w' => e = .returned (.agg #[.int .i64 1, .int .i64 i, .int .i64 q]) ∧ Below w.heap.size w w' := by
  have hlt := World.block_lt_of_cell? _ _ hp
  obtain ⟨pb, po, ps⟩ := p
  dsimp only at hlt
  go_enter Try.func109, Try.ntmps109
  go_wp2
  refine bodyPost_ret (v := .agg #[.int .i64 1, .int .i64 i, .int .i64 q]) (by simp [results, Try.results109, go_sem]) rfl ⟨rfl, ?_⟩
  (repeat (first | (with_reducible exact Below.refl _ _) | (with_reducible assumption) | (with_reducible refine below_alloc ?_ _) | (with_reducible refine below_drew ?_) | (with_reducible refine below_drewN ?_ _) | (with_reducible refine below_step ?_ (by with_reducible assumption))))

set_option maxHeartbeats 2000000 in
theorem pla_vars_ofPlace (n : Nat) (s q : Int) (p : Addr) (w : World) (hok : nOk n s) (hp : w.cell? p = some (.int .i64 q)) (hps : p.spot = none) :
    Calls Try.prog 107 #[.agg #[.int .i64 n, .int .i64 s], .func (Fn.func 109) #[] #[.pointer (some p)]] w fun e w' => ∃ v, e = .returned v ∧ OwnInts w' w.heap.size v ((List.range n).map fun i : Nat => nVar n s 1 i q) ∧ Below w.heap.size w w' := by
  have HOK := Lib.hid hok
  have hn : n ≤ 64 := by have := hok.2.1; omega
  obtain ⟨pb, po, ps⟩ := p
  dsimp only at hps; subst hps
  have hlt := World.block_lt_of_cell? _ _ hp
  dsimp only at hlt
  have hb1 : Below w.heap.size w (w.alloc (.cells #[.int .i64 n, .int .i64 s] 23)) := by (repeat (first | (with_reducible exact Below.refl _ _) | (with_reducible assumption) | (with_reducible refine below_alloc ?_ _) | (with_reducible refine below_drew ?_) | (with_reducible refine below_drewN ?_ _) | (with_reducible refine below_step ?_ (by with_reducible assumption))))
  have hs1 := Blk.made w #[.int .i64 n, .int .i64 s] 23
  have hp1 := cell_later hb1 hp
  have hmk := run_make_row' (P := Try.prog) 41 3 (.int .i64 0) 8 Try.underlying41 info_int rfl .i64 .i64 n (by omega) (by omega)
  generalize hw1 : w.alloc (.cells #[.int .i64 n, .int .i64 s] 23) = w1 at hb1 hs1 hp1
  have HW1 := Lib.hid hw1; clear hw1
  have c0 := hs1.cell 0; have c1 := hs1.cell 1
  simp at c0 c1
  go_enter Try.func107, Try.ntmps107
  have hsz : w.heap.size + 1 = w1.heap.size := by rw [← HW1.out]; simp
  have HSZ := Lib.hid hsz; clear hsz
  have hb2 : Below w1.heap.size w1 (w1.alloc (.cells (madeCells #[.int .i64 0] n) 3)) := by (repeat (first | (with_reducible exact Below.refl _ _) | (with_reducible assumption) | (with_reducible refine below_alloc ?_ _) | (with_reducible refine below_drew ?_) | (with_reducible refine below_drewN ?_ _) | (with_reducible refine below_step ?_ (by with_reducible assumption))))
  have hz2 := Blk.made w1 (madeCells #[.int .i64 0] n) 3
  go_wp2_with fail
  rw [HW1.out, HSZ.out]
  generalize w1.alloc (.cells (madeCells #[.int .i64 0] n) 3) = w2 at *
  rw [madeInts, ← upTo_zero (fun i : Nat => nVar n s 1 i q)] at hz2
  have hfe : ∀ i : Nat, nVar n s 1 i q = (fun i : Nat => nVar n s 1 i q) i := fun _ => rfl
  generalize (fun i : Nat => nVar n s 1 i q) = f at *
  have HF := Lib.hid hfe; clear hfe hmk
  go_loopw [12] (fun i wr => ∃ k : Nat, k ≤ n ∧ i = .int .i64 k ∧ Below w1.heap.size w1 wr ∧ Blk wr w1.heap.size ((upTo f 0 n k).map (Value.int .i64)).toArray 3) (fun i _ => n - (intOf i).toNat)
  case atStart => exact ⟨0, Nat.zero_le _, rfl, hb2, hz2⟩
  case round =>
    obtain ⟨k, hk, rfl, hbr, hz⟩ := hrel
    by_cases hlt : k < n
    · have d0 := cell_later hbr c0; have d1 := cell_later hbr c1; have d2 := cell_later hbr hp1
      have hck := iblk_cell hz (k := k) (by rw [upTo_length]; exact hlt)
      have hfk := hz.free k
      have hbl := hz.lt
      have HU := Lib.hid (upTo_set f 0 n k)
      have t1 : (0 : Int) ≤ (k : Int) := by omega
      have t2 : (k : Int) < (n : Int) := by omega
      have HZ := Lib.hid hz; clear hz
      go_wp2_with fail
      go_region_held3 (fun wx => Below w1.heap.size w1 wx ∧ wx.cell? ⟨w.heap.size, 0, none⟩ = some (.int .i64 n) ∧ wx.cell? ⟨w.heap.size, 1, none⟩ = some (.int .i64 s) ∧ wx.cell? ⟨pb, po, none⟩ = some (.int .i64 q) ∧ wx.cell? ⟨w1.heap.size, k, none⟩ = some (cellAt wx ⟨w1.heap.size, k, none⟩) ∧ wx.frozen? ⟨w1.heap.size, k, none⟩ = false)
        (first | (refine ⟨?_, ?_, ?_, ?_, ?_, ?_⟩; (repeat (first | (with_reducible exact Below.refl _ _) | (with_reducible assumption) | (with_reducible refine below_alloc ?_ _) | (with_reducible refine below_drew ?_) | (with_reducible refine below_drewN ?_ _) | (with_reducible refine below_step ?_ (by with_reducible assumption)) | (with_reducible refine below_set ?_ (Nat.le_refl _) _ _))); all_goals (first | (refine cell_later (w := w1) ?_ ?_ <;> (repeat (first | (with_reducible exact Below.refl _ _) | (with_reducible assumption) | (with_reducible refine below_alloc ?_ _) | (with_reducible refine below_drew ?_) | (with_reducible refine below_drewN ?_ _) | (with_reducible refine below_step ?_ (by with_reducible assumption)) | (with_reducible refine below_set ?_ (Nat.le_refl _) _ _))); done) | (refine cellAt_of (cell_later (w := wr) ?_ hck); (repeat (first | (with_reducible exact Below.refl _ _) | (with_reducible assumption) | (with_reducible refine below_alloc ?_ _) | (with_reducible refine below_drew ?_) | (with_reducible refine below_drewN ?_ _) | (with_reducible refine below_step ?_ (by with_reducible assumption)))); done) | (apply cellAt_set; assumption) | (refine froz_later (w := wr) ?_ hbl hfk; (repeat (first | (with_reducible exact Below.refl _ _) | (with_reducible assumption) | (with_reducible refine below_alloc ?_ _) | (with_reducible refine below_drew ?_) | (with_reducible refine below_drewN ?_ _) | (with_reducible refine below_step ?_ (by with_reducible assumption)))); done) | (simp only [World.frozen?_setCell]; assumption))) | (go_split_ands; refine ⟨?_, ?_, ?_, ?_, ?_, ?_⟩; (repeat (first | (with_reducible exact Below.refl _ _) | (with_reducible assumption) | (with_reducible refine below_alloc ?_ _) | (with_reducible refine below_drew ?_) | (with_reducible refine below_drewN ?_ _) | (with_reducible refine below_step ?_ (by with_reducible assumption)) | (with_reducible refine below_set ?_ (Nat.le_refl _) _ _))); all_goals (first | (refine cell_later (w := w1) ?_ ?_ <;> (repeat (first | (with_reducible exact Below.refl _ _) | (with_reducible assumption) | (with_reducible refine below_alloc ?_ _) | (with_reducible refine below_drew ?_) | (with_reducible refine below_drewN ?_ _) | (with_reducible refine below_step ?_ (by with_reducible assumption)) | (with_reducible refine below_set ?_ (Nat.le_refl _) _ _))); done) | (refine cellAt_of (cell_later (w := wr) ?_ hck); (repeat (first | (with_reducible exact Below.refl _ _) | (with_reducible assumption) | (with_reducible refine below_alloc ?_ _) | (with_reducible refine below_drew ?_) | (with_reducible refine below_drewN ?_ _) | (with_reducible refine below_step ?_ (by with_reducible assumption)))); done) | (apply cellAt_set; assumption) | (refine froz_later (w := wr) ?_ hbl hfk; (repeat (first | (with_reducible exact Below.refl _ _) | (with_reducible assumption) | (with_reducible refine below_alloc ?_ _) | (with_reducible refine below_drew ?_) | (with_reducible refine below_drewN ?_ _) | (with_reducible refine below_step ?_ (by with_reducible assumption)))); done) | (simp only [World.frozen?_setCell]; assumption))))
        (first | (go_at_call 109; refine (pla_ofPlace1 _ q _ _ (by assumption)).mono ?_; rintro e w' ⟨rfl, hbA⟩) | (go_at_call 28; refine (num_Var _ _ _ _ _ _).mono ?_; rintro e w' ⟨rfl, hbB⟩))
      go_wp2
      go_roundw
      case rel =>
        refine ⟨k + 1, by omega, by go_num, ?_, ?_⟩
        · (repeat (first | (with_reducible exact Below.refl _ _) | (with_reducible assumption) | (with_reducible refine below_alloc ?_ _) | (with_reducible refine below_drew ?_) | (with_reducible refine below_drewN ?_ _) | (with_reducible refine below_step ?_ (by with_reducible assumption)) | (with_reducible refine below_set ?_ (Nat.le_refl _) _ _)))
        · rw [← HU.out, HF.out k]
          exact iblk_set (Blk.later HZ.out (by (repeat (first | (with_reducible exact Below.refl _ _) | (with_reducible assumption) | (with_reducible refine below_alloc ?_ _) | (with_reducible refine below_drew ?_) | (with_reducible refine below_drewN ?_ _) | (with_reducible refine below_step ?_ (by with_reducible assumption)))))) k (f k)
      case measure => simp [intOf]; omega
    · have hkn : k = n := by omega
      have HKN := Lib.hid hkn; clear hkn
      go_wp2_with fail
      go_ret
      rw [HKN.out] at hz
      have hw := iblk_own (B := w.heap.size) hz (by have := HSZ.out; omega) (by rw [upTo_length]; unfold maxLen; omega)
      rw [upTo_length, upTo_full] at hw
      refine ⟨_, rfl, ?_, below_step hb1 hbr⟩
      rw [List.map_congr_left fun i _ => HF.out i]
      exact hw
end Go.Proofs.Ythfcbjfeepindaa
