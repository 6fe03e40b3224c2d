import Derived.Test.YtdladbfjgkejiaaMgAL
import Derived.Test.YtdladbfjgkejiaaMgAK
import Derived.BigGuardPart
import Derived.Handy
import Derived.Laws.EntriesVeiled
import Derived.Test.YtdladbfjgkejiaaMgAJ
import Derived.Laws.BitsAllLaws
import Derived.Laws.BitsLemmas
import Derived.StillTactics
import Derived.OwnWalk
import Derived.Laws.Pointers
namespace Go.Proofs.Ytdladbfjgkejiaa
open Go.RowKit
set_option linter.unusedVariables false
set_option linter.unusedSimpArgs false

theorem lit_VarE {l v : Int} (h : lvar l = v) (w : World) : Calls Try.prog 24 #[.int .i64 l] w fun e w' => e = .returned (.int .i64 v) ∧ w = w' := (lit_Var l w).mono fun e w' hh => ⟨by rw [hh.1, h], hh.2.symm⟩
theorem litT_zero {m : List Bool} {x : Int} (h : lvar x = 0) : litT m x = false := by unfold litT; rw [h]; rfl
theorem litT_pos {m : List Bool} {x : Int} {n : Nat} (h : lvar x = (n : Int) + 1) : litT m x = ((decide (n < m.length) && m.getD n false) == decide (0 < x)) := by
  unfold litT
  have h0 : lvar x ≠ 0 := by omega
  have h1 : lside x = decide (0 < x) := by unfold lside; simp [h0]
  rw [h1, decide_eq_true h0, h, Bool.true_and, show ((n : Int) + 1).toNat - 1 = n by omega]
  congr 2
  rw [decide_eq_decide]; omega
set_option maxRecDepth 100000 in
theorem cnf_First1 (x : Int) (B : Nat) (ma : Option Addr) (ml mc : Nat) (m : List Bool) (w : World) (hc : w.cell? ⟨B, 0, none⟩ = some (.slice ma ml mc)) (hm : BoolRow w ma ml m) :
    Calls Try.prog 23 #[.int .i64 x, .pointer (some ⟨B, 0, none⟩)] w fun e w' => e = .returned (.bool (litT m x)) ∧ w = w' := by
  have hm2 := hm.2.1; unfold maxLen at hm2
  have HM := Lib.hid hm
  have HML := Lib.hid hm.1
  clear hm
  by_cases hz : lvar x = 0
  · have HV := Lib.hid (litT_zero (m := m) hz)
    have HZ := Lib.hid hz
    clear hz
    go_enter Try.func23, Try.ntmps23
    go_wp2_with (go_at_call 24; refine (lit_VarE HZ.out _).mono ?_; rintro e wq ⟨rfl, hq⟩; obtain rfl := hq)
    go_ret
    exact ⟨ret_bool HV.out.symm, rfl⟩
  · obtain ⟨n, hn⟩ : ∃ n : Nat, lvar x = (n : Int) + 1 := ⟨(lvar x - 1).toNat, by have := lvar_bd x; omega⟩
    have hbd := lvar_bd x
    rw [hn] at hbd
    have HV := Lib.hid (litT_pos (m := m) hn)
    have HN := Lib.hid hn
    have d0 : ((n : Int) + 1 != 0) = true := by simp; omega
    clear hz hn
    by_cases hl : n < ml
    · obtain ⟨b, off, rfl, hcells⟩ := HM.out.2.2 (by omega)
      have hck := hcells n hl
      have t1 : (0 : Int) ≤ (n : Int) := by omega
      have t2 : (n : Int) < (ml : Int) := by omega
      have d1 : decide ((n : Int) + 1 ≤ (ml : Int)) = true := decide_eq_true (by omega)
      have HV2 : Hid (litT m x = (m.getD n false == decide (0 < x))) := Lib.hid (by rw [HV.out, HML.out, decide_eq_true hl, Bool.true_and])
      clear hcells HV
      generalize m.getD n false = tv at *
      go_enter Try.func23, Try.ntmps23
      go_wp2_with (go_at_call 24; refine (lit_VarE HN.out _).mono ?_; rintro e wq ⟨rfl, hq⟩; obtain rfl := hq)
      go_ret
      exact ⟨ret_bool HV2.out.symm, rfl⟩
    · have d1 : decide ((n : Int) + 1 ≤ (ml : Int)) = false := decide_eq_false (by omega)
      have HV2 : Hid (litT m x = !decide (0 < x)) := Lib.hid (by rw [HV.out, HML.out, decide_eq_false hl, Bool.false_and]; cases decide (0 < x) <;> rfl)
      clear HV
      go_enter Try.func23, Try.ntmps23
      go_wp2_with (go_at_call 24; refine (lit_VarE HN.out _).mono ?_; rintro e wq ⟨rfl, hq⟩; obtain rfl := hq)
      go_ret
      exact ⟨ret_bool HV2.out.symm, rfl⟩

set_option maxRecDepth 100000 in
theorem cnf_IndexInts (cb : Array Value) (p : Int → Bool) (a : Option Addr) (len cap : Nat) (xs : List Int) (w : World) (hr : IntRow w a len xs)
    (hcall : ∀ x, Calls Try.prog 23 (#[.int .i64 x] ++ cb) w fun e w' => e = .returned (.bool (p x)) ∧ w = w') :
    Calls Try.prog 41 #[.slice a len cap, .func (.func 23) #[] cb] w fun e w' => e = .returned (.int .i64 (fFind p xs)) ∧ w = w' := by
  have hm := hr.2.1; unfold maxLen at hm
  have HR := Lib.hid hr
  have HL := Lib.hid hr.1
  have HC := Lib.hid hcall
  clear hr hcall
  go_enter Try.func41, Try.ntmps41
  go_wp2_with fail
  go_loop [5, 8] (fun _ i => ∃ k : Nat, k ≤ len ∧ i = .int .i64 k ∧ ∀ j, j < k → p (xs.getD j 0) = false) (fun _ i => len - (intOf i).toNat)
  case atStart => exact ⟨0, Nat.zero_le _, rfl, fun j hj => by omega⟩
  case round =>
    obtain ⟨k, hk, rfl, hno⟩ := hrel
    have HNO := Lib.hid hno
    clear hno
    have t1 : (0 : Int) ≤ (k : Int) := by omega
    by_cases hlt : k < len
    · obtain ⟨b, off, rfl, hcells⟩ := HR.out.2.2 (by omega)
      have hck := hcells k hlt
      have t2 : (k : Int) < (len : Int) := by omega
      have HF : Hid (p (xs.getD k 0) = true → fFind p xs = (k : Int)) := Lib.hid (fFind_at (by rw [HL.out]; exact hlt) HNO.out)
      have HE : Hid (p (xs.getD k 0) = false → ∀ j, j < k + 1 → p (xs.getD j 0) = false) := Lib.hid (fun h j hj => by
        rcases Nat.lt_or_ge j k with h1 | h1
        · exact HNO.out j h1
        · rw [show j = k by omega]; exact h)
      clear hcells
      generalize xs.getD k 0 = z at *
      go_wp2_with fail
      refine (HC.out z).mono ?_
      rintro e wq ⟨rfl, hq⟩
      obtain rfl := hq
      cases hp : p z
      · have HP := Lib.hid hp
        clear hp
        go_wp2_with fail
        go_round
        case rel => exact ⟨k + 1, by omega, by go_num, HE.out HP.out⟩
        case measure => simp [intOf]; omega
      · have HP := Lib.hid hp
        clear hp
        go_wp2_with fail
        go_ret
        exact ⟨ret_int (HF.out HP.out).symm, rfl⟩
    · have hkn : k = len := by omega
      subst hkn
      have HE : Hid (fFind p xs = -1) := Lib.hid (fFind_none (fFind_no (d := 0) (by rw [HL.out]; exact HNO.out)))
      go_wp2_with fail
      go_ret
      exact ⟨ret_int HE.out.symm, rfl⟩
set_option maxRecDepth 100000 in
theorem cnf_ContainsInts (cb : Array Value) (p : Int → Bool) (a : Option Addr) (len cap : Nat) (xs : List Int) (w : World) (hr : IntRow w a len xs)
    (hcall : ∀ x, Calls Try.prog 23 (#[.int .i64 x] ++ cb) w fun e w' => e = .returned (.bool (p x)) ∧ w = w') :
    Calls Try.prog 27 #[.slice a len cap, .func (.func 23) #[] cb] w fun e w' => e = .returned (.bool (xs.any p)) ∧ w = w' := by
  have hcon := cnf_IndexInts cb p a len cap xs w hr hcall
  have hge : decide (0 ≤ fFind p xs) = xs.any p := by rw [Bool.eq_iff_iff, decide_eq_true_eq]; exact fFind_ge
  generalize xs.any p = t at *
  generalize fFind p xs = f at *
  have HCON := Lib.hid hcon
  clear hcon hr hcall
  go_enter Try.func27, Try.ntmps27
  go_wp2_with (go_at_call 41; refine HCON.out.mono ?_; rintro e wq ⟨rfl, hq⟩; obtain rfl := hq)
  go_ret
  exact ⟨rfl, rfl⟩
set_option maxRecDepth 100000 in
theorem cnf_First2 (B2 : Nat) (cb : Array Value) (p : Int → Bool) (a : Option Addr) (len cap : Nat) (c : List Int) (w : World) (hc : w.cell? ⟨B2, 0, none⟩ = some (.func (.func 23) #[] cb)) (hr : IntRow w a len c)
    (hcall : ∀ x, Calls Try.prog 23 (#[.int .i64 x] ++ cb) w fun e w' => e = .returned (.bool (p x)) ∧ w = w') :
    Calls Try.prog 26 #[.slice a len cap, .pointer (some ⟨B2, 0, none⟩)] w fun e w' => e = .returned (.bool (!c.any p)) ∧ w = w' := by
  have HCON := Lib.hid (cnf_ContainsInts cb p a len cap c w hr hcall)
  clear hr hcall
  generalize c.any p = t at *
  go_enter Try.func26, Try.ntmps26
  go_wp2_with (go_at_call 27; refine HCON.out.mono ?_; rintro e wq ⟨rfl, hq⟩; obtain rfl := hq)
  go_ret
  exact ⟨rfl, rfl⟩
set_option maxRecDepth 100000 in
theorem cnf_IndexRows (cb : Array Value) (p : List Int → Bool) (a : Option Addr) (len cap : Nat) (xss : List (List Int)) (w : World) (hr : Rows2 w a len xss)
    (hcall : ∀ (a' : Option Addr) (l' c' : Nat) (c : List Int), IntRow w a' l' c → Calls Try.prog 26 (#[.slice a' l' c'] ++ cb) w fun e w' => e = .returned (.bool (p c)) ∧ w = w') :
    Calls Try.prog 25 #[.slice a len cap, .func (.func 26) #[] cb] w fun e w' => e = .returned (.int .i64 (fFind p xss)) ∧ w = w' := by
  have hm := hr.2.1; unfold maxLen at hm
  have HR := Lib.hid hr
  have HL := Lib.hid hr.1
  have HC := Lib.hid hcall
  clear hr hcall
  go_enter Try.func25, Try.ntmps25
  go_wp2_with fail
  go_loop [5, 8] (fun _ i => ∃ k : Nat, k ≤ len ∧ i = .int .i64 k ∧ ∀ j, j < k → p (xss.getD j []) = false) (fun _ i => len - (intOf i).toNat)
  case atStart => exact ⟨0, Nat.zero_le _, rfl, fun j hj => by omega⟩
  case round =>
    obtain ⟨k, hk, rfl, hno⟩ := hrel
    have HNO := Lib.hid hno
    clear hno
    have t1 : (0 : Int) ≤ (k : Int) := by omega
    by_cases hlt : k < len
    · obtain ⟨b, off, u, rfl, hck, ac, lc, cc, rfl, _, _, hrc⟩ := HR.out.2.2 k hlt
      have t2 : (k : Int) < (len : Int) := by omega
      have HF : Hid (p (xss.getD k []) = true → fFind p xss = (k : Int)) := Lib.hid (fFind_at (by rw [HL.out]; exact hlt) HNO.out)
      have HE : Hid (p (xss.getD k []) = false → ∀ j, j < k + 1 → p (xss.getD j []) = false) := Lib.hid (fun h j hj => by
        rcases Nat.lt_or_ge j k with h1 | h1
        · exact HNO.out j h1
        · rw [show j = k by omega]; exact h)
      have HRC := Lib.hid hrc
      clear hrc
      generalize xss.getD k [] = z at *
      go_wp2_with fail
      refine (HC.out _ _ _ z HRC.out).mono ?_
      rintro e wq ⟨rfl, hq⟩
      obtain rfl := hq
      cases hp : p z
      · have HP := Lib.hid hp
        clear hp
        go_wp2_with fail
        go_round
        case rel => exact ⟨k + 1, by omega, by go_num, HE.out HP.out⟩
        case measure => simp [intOf]; omega
      · have HP := Lib.hid hp
        clear hp
        go_wp2_with fail
        go_ret
        exact ⟨ret_int (HF.out HP.out).symm, rfl⟩
    · have hkn : k = len := by omega
      subst hkn
      have HE : Hid (fFind p xss = -1) := Lib.hid (fFind_none (fFind_no (d := []) (by rw [HL.out]; exact HNO.out)))
      go_wp2_with fail
      go_ret
      exact ⟨ret_int HE.out.symm, rfl⟩
set_option maxRecDepth 100000 in
theorem cnf_First (vars : Int) (a : Option Addr) (len cap : Nat) (xss : List (List Int)) (ma : Option Addr) (ml mc : Nat) (m : List Bool) (w : World) (hr : Rows2 w a len xss) (hm : BoolRow w ma ml m) :
    Calls Try.prog 8 #[.agg #[.int .i64 vars, .slice a len cap], .slice ma ml mc] w fun e w' => e = .returned (.int .i64 (fFirst m xss)) ∧ Below w.heap.size w w' := by
  have hb1 : Below w.heap.size w (w.alloc (.cells #[.int .i64 vars, .slice a len cap] 24)) := by (repeat (first | (with_reducible exact Below.refl _ _) | (with_reducible assumption) | (with_reducible refine below_alloc ?_ _) | (with_reducible refine below_drew ?_) | (with_reducible refine below_drewN ?_ _) | (with_reducible refine below_step ?_ (by with_reducible assumption))))
  have hc1 := Blk.made w #[.int .i64 vars, .slice a len cap] 24
  generalize hw1 : w.alloc (.cells #[.int .i64 vars, .slice a len cap] 24) = w1 at *
  have hz1 : w1.heap.size = w.heap.size + 1 := by rw [← hw1]; simp
  have hb2 : Below w1.heap.size w1 (w1.alloc (.cells #[.slice ma ml mc] 25)) := by (repeat (first | (with_reducible exact Below.refl _ _) | (with_reducible assumption) | (with_reducible refine below_alloc ?_ _) | (with_reducible refine below_drew ?_) | (with_reducible refine below_drewN ?_ _) | (with_reducible refine below_step ?_ (by with_reducible assumption))))
  have hc2 := Blk.made w1 #[.slice ma ml mc] 25
  generalize hw2 : w1.alloc (.cells #[.slice ma ml mc] 25) = w2 at *
  have hz2 : w2.heap.size = w1.heap.size + 1 := by rw [← hw2]; simp
  have hb3 : Below w2.heap.size w2 (w2.alloc (.cells #[.func (.func 23) #[] #[.pointer (some ⟨w1.heap.size, 0, none⟩)]] 47)) := by (repeat (first | (with_reducible exact Below.refl _ _) | (with_reducible assumption) | (with_reducible refine below_alloc ?_ _) | (with_reducible refine below_drew ?_) | (with_reducible refine below_drewN ?_ _) | (with_reducible refine below_step ?_ (by with_reducible assumption))))
  have hc3 := Blk.made w2 #[.func (.func 23) #[] #[.pointer (some ⟨w1.heap.size, 0, none⟩)]] 47
  generalize hw3 : w2.alloc (.cells #[.func (.func 23) #[] #[.pointer (some ⟨w1.heap.size, 0, none⟩)]] 47) = w3 at *
  have hB3 : Below w.heap.size w w3 := below_step hb1 (below_step hb2 hb3)
  have e2 := (hc2.later hb3).cell 0
  have e3 := hc3.cell 0
  simp at e2 e3
  have hcall : ∀ x, Calls Try.prog 23 (#[.int .i64 x] ++ #[.pointer (some ⟨w1.heap.size, 0, none⟩)]) w3 fun e w' => e = .returned (.bool (litT m x)) ∧ w3 = w' := fun x => cnf_First1 x _ ma ml mc m w3 e2 (hm.later hB3)
  have hcon := cnf_IndexRows #[.pointer (some ⟨w2.heap.size, 0, none⟩)] (fun c => !c.any (litT m)) a len cap xss w3 (hr.later hB3) (fun a' l' c' c hrc => cnf_First2 w2.heap.size _ (litT m) a' l' c' c w3 e3 hrc hcall)
  have hfi : fFind (fun c => !c.any (litT m)) xss = fFirst m xss := rfl
  rw [hfi, ← hw3, hz2, hz1, ← hw2, ← hw1] at hcon
  have HCON := Lib.hid hcon
  rw [← hw3, hz1, ← hw2, ← hw1] at hB3
  have HB3 := Lib.hid hB3
  have HW1 := Lib.hid hw1; have HW2 := Lib.hid hw2; have HW3 := Lib.hid hw3
  have HZ1 := Lib.hid hz1; have HZ2 := Lib.hid hz2
  have f1 := (hc1.later (below_step hb2 hb3)).cell 1
  simp at f1
  have f0 : w1.cell? ⟨w.heap.size, 1, none⟩ = some (.slice a len cap) := by have := hc1.cell 1; simpa using this
  clear hcon hcall e2 e3 hc1 hc2 hc3 hfi hb1 hb2 hb3 hr hm hw1 hw2 hw3 hz1 hz2 f1 f0 hB3 HZ1 HZ2
  go_enter Try.func8, Try.ntmps8
  go_wp2_with fail
  refine HCON.out.mono ?_
  rintro e wq ⟨rfl, hq⟩
  obtain rfl := hq
  go_wp2_with fail
  go_ret
  exact ⟨rfl, HB3.out⟩
end Go.Proofs.Ytdladbfjgkejiaa
namespace Go.Proofs.Ytdladbfjgkejiaa
open Go.RowKit
set_option linter.unusedVariables false
set_option linter.unusedSimpArgs false

theorem xor_nat (n : Nat) (h : n < 200000) : bits .xor .i64 (n : Int) 1 = ((n ^^^ 1 : Nat) : Int) := by
  have e : (BitVec.ofInt 64 (n : Int)).toNat = n := by rw [BitVec.ofInt_natCast, BitVec.toNat_ofNat]; exact Nat.mod_eq_of_lt (by omega)
  show IntKind.i64.wrap ((BitVec.ofInt 64 (n : Int) ^^^ BitVec.ofInt 64 (1 : Int)).toNat : Int) = _
  have e1 : (BitVec.ofInt 64 (1 : Int)).toNat = 1 := by decide
  have hx : n ^^^ 1 ≤ n + 1 := by rw [xor_one]; split <;> omega
  rw [BitVec.toNat_xor, e, e1, IntKind.wrap_i64]
  omega
theorem lit_IndexE {l v : Int} (h : lindex l = v) (w : World) : Calls Try.prog 57 #[.int .i64 l] w fun e w' => e = .returned (.int .i64 v) ∧ w = w' := (lit_Index l w).mono fun e w' hh => ⟨by rw [hh.1, h], hh.2.symm⟩
/-- A table in memory: where its truths are. -/
def TabAt (w : World) (p : Addr) (bs : List Bool) : Prop := ∃ a cap, w.cell? p = some (.slice a bs.length cap) ∧ BoolRow w a bs.length bs
theorem TabAt.later {w w' : World} {p : Addr} {bs : List Bool} (h : TabAt w p bs) (hb : Below w.heap.size w w') : TabAt w' p bs := by
  obtain ⟨a, cap, h1, h2⟩ := h
  exact ⟨a, cap, cell_later hb h1, h2.later hb⟩
set_option maxRecDepth 100000 in
set_option maxHeartbeats 1000000 in
theorem tab_Value (B : Nat) (bs : List Bool) (l : List Int) (x : Int) (w : World) (ht : TabAt w ⟨B, 0, none⟩ bs) (hr : Rep bs l) :
    Calls Try.prog 53 #[.pointer (some ⟨B, 0, none⟩), .int .i64 x] w fun e w' => e = .returned (.int .i64 (aVal l x)) ∧ w = w' := by
  obtain ⟨a, cap, hc, hb⟩ := ht
  have hm := hb.2.1; unfold maxLen at hm
  have HV := Lib.hid (aVal_tab hr x)
  have HB := Lib.hid hb
  clear hb hr
  by_cases hz : lvar x = 0
  · have HI : Hid (lindex x = -1) := Lib.hid (by unfold lindex; rw [if_pos hz])
    have HW : Hid (aVal l x = 0) := Lib.hid (by rw [HV.out, if_pos hz])
    clear hz HV
    go_enter Try.func53, Try.ntmps53
    go_wp2_with (go_at_call 57; refine (lit_IndexE HI.out _).mono ?_; rintro e wq ⟨rfl, hq⟩; obtain rfl := hq)
    go_ret
    exact ⟨ret_int HW.out.symm, rfl⟩
  · obtain ⟨n, hn, hn2⟩ := lindex_nat hz
    have HI := Lib.hid hn
    have h1 := tOf_at (bs := bs) hn
    have h2 := tOf_at (bs := bs) (lindex_neg hz hn)
    have hxr := xor_nat n hn2
    have hxb : n ^^^ 1 ≤ n + 1 := by rw [xor_one]; split <;> omega
    have HW : Hid (aVal l x = if tOf bs x = true then 1 else if tOf bs (-x) = true then -1 else 0) := Lib.hid (by rw [HV.out, if_neg hz])
    have H1 := Lib.hid h1; have H2 := Lib.hid h2
    generalize hk : n ^^^ 1 = k at *
    clear hz HV hn h1 h2 hk
    generalize hN : bs.length = N at *
    clear hN
    have t1 : (0 : Int) ≤ (n : Int) := by omega
    have t3 : (0 : Int) ≤ (k : Int) := by omega
    have hend : ∀ v : Int, (if tOf bs x = true then 1 else if tOf bs (-x) = true then -1 else 0) = v → aVal l x = v := fun v h => by rw [HW.out, h]
    have HEND := Lib.hid hend
    clear hend
    by_cases hn3 : n < N
    · obtain ⟨b0, off0, hab, hcells0⟩ := HB.out.2.2 (by omega)
      subst hab
      have hck := hcells0 n hn3
      have t2 : (n : Int) < (N : Int) := by omega
      clear hcells0
      cases hg0 : bs.getD n false
      · rw [hg0] at hck
        have HF : Hid (tOf bs x = false) := Lib.hid (by rw [H1.out, hg0, Bool.and_false])
        clear hg0
        by_cases hk2 : k < N
        · obtain ⟨b, off, hab2, hcells⟩ := HB.out.2.2 (by omega)
          (first | subst hab2 | (simp only [Option.some.injEq, Addr.mk.injEq, and_true] at hab2; obtain ⟨rfl, rfl⟩ := hab2))
          have hck2 := hcells k hk2
          have t4 : (k : Int) < (N : Int) := by omega
          have d6 : decide (k < N) = true := decide_eq_true hk2
          have HT2 : Hid (tOf bs (-x) = bs.getD k false) := Lib.hid (by rw [H2.out, d6, Bool.true_and])
          clear hcells d6
          cases hg : bs.getD k false
          · rw [hg] at hck2
            have HE := Lib.hid (HEND.out 0 (by rw [HF.out, HT2.out, hg]; rfl))
            clear hg
            go_enter Try.func53, Try.ntmps53
            go_wp2_with (go_at_call 57; refine (lit_IndexE HI.out _).mono ?_; rintro e wq ⟨rfl, hq⟩; obtain rfl := hq)
            go_ret
            exact ⟨ret_int HE.out.symm, rfl⟩
          · rw [hg] at hck2
            have HE := Lib.hid (HEND.out (-1) (by rw [HF.out, HT2.out, hg]; rfl))
            clear hg
            go_enter Try.func53, Try.ntmps53
            go_wp2_with (go_at_call 57; refine (lit_IndexE HI.out _).mono ?_; rintro e wq ⟨rfl, hq⟩; obtain rfl := hq)
            go_ret
            exact ⟨ret_int HE.out.symm, rfl⟩
        · have d6 : decide (k < N) = false := decide_eq_false hk2
          have d7 : decide ((k : Int) < (N : Int)) = false := decide_eq_false (by omega)
          have HE := Lib.hid (HEND.out 0 (by rw [HF.out, H2.out, d6]; rfl))
          clear hk2
          go_enter Try.func53, Try.ntmps53
          go_wp2_with (go_at_call 57; refine (lit_IndexE HI.out _).mono ?_; rintro e wq ⟨rfl, hq⟩; obtain rfl := hq)
          go_ret
          exact ⟨ret_int HE.out.symm, rfl⟩
      · rw [hg0] at hck
        have HE := Lib.hid (HEND.out 1 (by rw [H1.out, hg0, decide_eq_true hn3]; rfl))
        clear hg0
        go_enter Try.func53, Try.ntmps53
        go_wp2_with (go_at_call 57; refine (lit_IndexE HI.out _).mono ?_; rintro e wq ⟨rfl, hq⟩; obtain rfl := hq)
        go_ret
        exact ⟨ret_int HE.out.symm, rfl⟩
    · have d8 : decide (n < N) = false := decide_eq_false hn3
      have d9 : decide ((n : Int) < (N : Int)) = false := decide_eq_false (by omega)
      have HF : Hid (tOf bs x = false) := Lib.hid (by rw [H1.out, d8]; rfl)
      clear hn3
      by_cases hk2 : k < N
      · obtain ⟨b, off, hab2, hcells⟩ := HB.out.2.2 (by omega)
        (first | subst hab2 | (simp only [Option.some.injEq, Addr.mk.injEq, and_true] at hab2; obtain ⟨rfl, rfl⟩ := hab2))
        have hck2 := hcells k hk2
        have t4 : (k : Int) < (N : Int) := by omega
        have d6 : decide (k < N) = true := decide_eq_true hk2
        have HT2 : Hid (tOf bs (-x) = bs.getD k false) := Lib.hid (by rw [H2.out, d6, Bool.true_and])
        clear hcells d6
        cases hg : bs.getD k false
        · rw [hg] at hck2
          have HE := Lib.hid (HEND.out 0 (by rw [HF.out, HT2.out, hg]; rfl))
          clear hg
          go_enter Try.func53, Try.ntmps53
          go_wp2_with (go_at_call 57; refine (lit_IndexE HI.out _).mono ?_; rintro e wq ⟨rfl, hq⟩; obtain rfl := hq)
          go_ret
          exact ⟨ret_int HE.out.symm, rfl⟩
        · rw [hg] at hck2
          have HE := Lib.hid (HEND.out (-1) (by rw [HF.out, HT2.out, hg]; rfl))
          clear hg
          go_enter Try.func53, Try.ntmps53
          go_wp2_with (go_at_call 57; refine (lit_IndexE HI.out _).mono ?_; rintro e wq ⟨rfl, hq⟩; obtain rfl := hq)
          go_ret
          exact ⟨ret_int HE.out.symm, rfl⟩
      · have d6 : decide (k < N) = false := decide_eq_false hk2
        have d7 : decide ((k : Int) < (N : Int)) = false := decide_eq_false (by omega)
        have HE := Lib.hid (HEND.out 0 (by rw [HF.out, H2.out, d6]; rfl))
        clear hk2
        go_enter Try.func53, Try.ntmps53
        go_wp2_with (go_at_call 57; refine (lit_IndexE HI.out _).mono ?_; rintro e wq ⟨rfl, hq⟩; obtain rfl := hq)
        go_ret
        exact ⟨ret_int HE.out.symm, rfl⟩
def opens (l c : List Int) : List Int := c.filter (aIs l 0)
/-- The literal that a table tells with a clause's value. -/
def tabUnit (l c : List Int) : Int := if 0 < aN l c 1 then 0 else if (opens l c).length = 1 then (opens l c).getLastD 0 else 0
theorem opens_snoc (l c : List Int) (x : Int) : opens l (c ++ [x]) = opens l c ++ if aIs l 0 x = true then [x] else [] := by
  unfold opens
  rw [List.filter_append, List.filter_cons, List.filter_nil]
theorem aN_none {l c : List Int} {len : Nat} (hl : c.length = len) (h : ∀ j, j < len → aIs l 1 (c.getD j 0) = false) : aN l c 1 = 0 := by
  unfold aN
  rw [List.length_eq_zero_iff, List.filter_eq_nil_iff]
  intro x hx
  obtain ⟨j, hj, rfl⟩ := List.mem_iff_getElem.1 hx
  have := h j (by omega)
  rw [show c.getD j 0 = c[j] by simp [List.getD, hj]] at this
  simp [this]
theorem aN_some {l c : List Int} {x : Int} (hx : x ∈ c) (h : aIs l 1 x = true) : 0 < aN l c 1 := by
  unfold aN
  exact List.length_pos_of_mem (List.mem_filter.2 ⟨hx, h⟩)
theorem aVal_cases3 (l : List Int) (x : Int) : (aVal l x = 1 ∧ aIs l 1 x = true ∧ aIs l 0 x = false) ∨ (aVal l x = -1 ∧ aIs l 1 x = false ∧ aIs l 0 x = false) ∨ (aVal l x = 0 ∧ aIs l 1 x = false ∧ aIs l 0 x = decide (lvar x ≠ 0)) := by
  unfold aIs aVal
  by_cases h : lvar x = 0
  · simp [h]
  · simp only [h]
    by_cases h1 : lhas l x = true
    · simp [h1, h]
    · by_cases h2 : lhas l (-x) = true
      · simp [h1, h2, h]
      · simp [h1, h2, h]
theorem ret_ii {k : IntKind} {a b c d : Int} (h : a = b) (h' : c = d) : Ending.returned (.tuple #[.int k a, .int k c]) = .returned (.tuple #[.int k b, .int k d]) := by rw [h, h']
set_option maxRecDepth 100000 in
set_option maxHeartbeats 1000000 in
theorem tab_Clause (B : Nat) (bs : List Bool) (l : List Int) (a : Option Addr) (len cap : Nat) (c : List Int) (w : World) (ht : TabAt w ⟨B, 0, none⟩ bs) (hr : Rep bs l) (hc : IntRow w a len c) :
    Calls Try.prog 47 #[.pointer (some ⟨B, 0, none⟩), .slice a len cap] w fun e w' => e = .returned (.tuple #[.int .i64 (aCl l c), .int .i64 (tabUnit l c)]) ∧ w = w' := by
  have hm := hc.2.1; unfold maxLen at hm
  have HV := Lib.hid (fun x => tab_Value B bs l x w ht hr)
  have HR := Lib.hid hc
  have HL := Lib.hid hc.1
  clear hc ht hr
  go_enter Try.func47, Try.ntmps47
  go_wp2_with fail
  go_loop [5, 6, 8, 9, 12] (fun u o _ _ i => ∃ k : Nat, k ≤ len ∧ i = .int .i64 k ∧ (∃ q : Nat, q ≤ k ∧ (opens l (c.take k)).length = q ∧ o = .int .i64 (q : Int)) ∧ u = .int .i64 ((opens l (c.take k)).getLastD 0) ∧ ∀ j, j < k → aIs l 1 (c.getD j 0) = false) (fun _ _ _ _ i => len - (intOf i).toNat)
  case atStart => exact ⟨0, Nat.zero_le _, rfl, ⟨0, Nat.le_refl _, rfl, rfl⟩, rfl, fun j hj => by omega⟩
  case round =>
    obtain ⟨k, hk, rfl, ⟨q, hqk, hq, rfl⟩, rfl, hno⟩ := hrel
    have HNO := Lib.hid hno
    have HQ := Lib.hid hq
    clear hno hq
    have t1 : (0 : Int) ≤ (k : Int) := by omega
    by_cases hlt : k < len
    · obtain ⟨b, off, rfl, hcells⟩ := HR.out.2.2 (by omega)
      have hck := hcells k hlt
      have t2 : (k : Int) < (len : Int) := by omega
      have HT := Lib.hid (take_snoc c k (by rw [HL.out]; exact hlt))
      have HO := Lib.hid (opens_snoc l (c.take k) (c.getD k 0))
      have HI : Hid (c.getD k 0 ∈ c) := Lib.hid (by
        have hk' : k < c.length := by rw [HL.out]; exact hlt
        simp [List.getD, hk'])
      have HE : Hid (aIs l 1 (c.getD k 0) = false → ∀ j, j < k + 1 → aIs l 1 (c.getD j 0) = false) := Lib.hid (fun h j hj => by
        rcases Nat.lt_or_ge j k with h1 | h1
        · exact HNO.out j h1
        · rw [show j = k by omega]; exact h)
      clear hcells
      generalize c.getD k 0 = z at *
      generalize hU : (opens l (c.take k)).getLastD 0 = U at *
      have HU := Lib.hid hU
      clear hU
      rcases aVal_cases3 l z with ⟨h1, h2, h3⟩ | ⟨h1, h2, h3⟩ | ⟨h1, h2, h3⟩
      · have HZ := Lib.hid h1
        have HP := aN_some HI.out h2
        have HC1 : Hid (aCl l c = 1) := Lib.hid (by unfold aCl; rw [if_pos HP])
        have HC2 : Hid (tabUnit l c = 0) := Lib.hid (by unfold tabUnit; rw [if_pos HP])
        clear h1 h2 h3 HP
        go_wp2_with (go_at_call 53; refine (HV.out z).mono ?_; rintro e wq ⟨rfl, hqq⟩; obtain rfl := hqq; rw [HZ.out])
        go_ret2
        exact ⟨ret_ii HC1.out.symm HC2.out.symm, rfl⟩
      · have HZ := Lib.hid h1
        have HN := Lib.hid (HE.out h2)
        have HO2 : Hid (opens l (c.take (k + 1)) = opens l (c.take k)) := Lib.hid (by rw [HT.out, HO.out, h3]; simp)
        clear h1 h2 h3
        go_wp2_with (go_at_call 53; refine (HV.out z).mono ?_; rintro e wq ⟨rfl, hqq⟩; obtain rfl := hqq; rw [HZ.out])
        go_round
        case rel => exact ⟨k + 1, by omega, by go_num, ⟨q, by omega, by rw [HO2.out]; exact HQ.out, rfl⟩, by rw [HO2.out, HU.out], HN.out⟩
        case measure => simp [intOf]; omega
      · have HZ := Lib.hid h1
        have HN := Lib.hid (HE.out h2)
        by_cases hv : lvar z = 0
        · have HO2 : Hid (opens l (c.take (k + 1)) = opens l (c.take k)) := Lib.hid (by rw [HT.out, HO.out, h3, hv]; simp)
          have HVZ := Lib.hid hv
          clear h1 h2 h3 hv
          go_wp2_with (first | (go_at_call 53; refine (HV.out z).mono ?_; rintro e wq ⟨rfl, hqq⟩; obtain rfl := hqq; rw [HZ.out]) | (go_at_call 24; refine (lit_VarE HVZ.out _).mono ?_; rintro e wq ⟨rfl, hq⟩; obtain rfl := hq))
          go_round
          case rel => exact ⟨k + 1, by omega, by go_num, ⟨q, by omega, by rw [HO2.out]; exact HQ.out, rfl⟩, by rw [HO2.out, HU.out], HN.out⟩
          case measure => simp [intOf]; omega
        · have HO2 : Hid (opens l (c.take (k + 1)) = opens l (c.take k) ++ [z]) := Lib.hid (by rw [HT.out, HO.out, h3, decide_eq_true hv]; rfl)
          have d1 : (lvar z != 0) = true := by simpa using hv
          clear h1 h2 h3 hv
          go_wp2_with (first | (go_at_call 53; refine (HV.out z).mono ?_; rintro e wq ⟨rfl, hqq⟩; obtain rfl := hqq; rw [HZ.out]) | (go_at_call 24; refine (lit_Var _ _).mono ?_; rintro e wq ⟨rfl, hq⟩; obtain rfl := hq.symm))
          go_round
          case rel => exact ⟨k + 1, by omega, by go_num, ⟨q + 1, by omega, by rw [HO2.out, List.length_append, HQ.out]; rfl, by go_num⟩, by rw [HO2.out]; simp, HN.out⟩
          case measure => simp [intOf]; omega
    · have hkn : k = len := by omega
      subst hkn
      have HTK : Hid (c.take k = c) := Lib.hid (List.take_of_length_le (by rw [HL.out]; exact Nat.le_refl _))
      have hN := aN_none HL.out HNO.out
      have hQ := HQ.out
      rw [HTK.out] at hQ ⊢
      have hN0 : aN l c 0 = q := hQ
      have HC1 : Hid (aCl l c = if 0 < q then 0 else -1) := Lib.hid (by unfold aCl; rw [hN, hN0]; simp)
      have HC2 : Hid (tabUnit l c = if q = 1 then (opens l c).getLastD 0 else 0) := Lib.hid (by unfold tabUnit; rw [hN, hQ]; simp)
      generalize (opens l c).getLastD 0 = U at *
      clear hN hQ hN0
      by_cases hq0 : q = 0
      · subst hq0
        go_wp2_with fail
        go_ret2
        exact ⟨ret_ii HC1.out.symm HC2.out.symm, rfl⟩
      · by_cases hq1 : q = 1
        · subst hq1
          go_wp2_with fail
          go_ret2
          exact ⟨ret_ii HC1.out.symm HC2.out.symm, rfl⟩
        · have d1 : ((q : Int) == 0) = false := by simp; omega
          have d2 : ((q : Int) == 1) = false := by simp; omega
          have HC3 : Hid (aCl l c = 0) := Lib.hid (by rw [HC1.out, if_pos (by omega)])
          have HC4 : Hid (tabUnit l c = 0) := Lib.hid (by rw [HC2.out, if_neg hq1])
          clear hq0 hq1
          go_wp2_with fail
          go_ret2
          exact ⟨ret_ii HC3.out.symm HC4.out.symm, rfl⟩
end Go.Proofs.Ytdladbfjgkejiaa
namespace Go.Proofs.Ytdladbfjgkejiaa
open Go.RowKit
set_option linter.unusedVariables false
set_option linter.unusedSimpArgs false

/-- A table of its own blocks: T the table, G its truths. -/
def OwnTab (w : World) (T G : Nat) (bs : List Bool) : Prop := Blk w T #[.slice (some ⟨G, 0, none⟩) bs.length bs.length] 79 ∧ Blk w G (bs.map Value.bool).toArray 4
set_option maxRecDepth 100000 in
theorem tab_AddNone (p : Addr) (x : Int) (w : World) (h : lvar x = 0) : Calls Try.prog 52 #[.pointer (some p), .int .i64 x] w fun e w' => e = .returned (.tuple #[]) ∧ w = w' := by
  have HI : Hid (lindex x = -1) := Lib.hid (by unfold lindex; rw [if_pos h])
  clear h
  go_enter Try.func52, Try.ntmps52
  go_wp2_with (go_at_call 57; refine (lit_IndexE HI.out _).mono ?_; rintro e wq ⟨rfl, hq⟩; obtain rfl := hq)
  (try simp only [Exit.inBlock, Exit.then]); refine bodyPost_ret (results_none rfl _ _ _) rfl ?_
  exact ⟨rfl, rfl⟩
set_option maxRecDepth 100000 in
theorem tab_AddIn (T G : Nat) (bs : List Bool) (x : Int) (n : Nat) (w : World) (ht : OwnTab w T G bs) (hn : lindex x = (n : Int)) (hlt : n < bs.length) (hm : bs.length ≤ 1000000) :
    Calls Try.prog 52 #[.pointer (some ⟨T, 0, none⟩), .int .i64 x] w fun e w' => e = .returned (.tuple #[]) ∧ w' = w.setCell ⟨G, n, none⟩ (.bool true) := by
  have HI := Lib.hid hn
  obtain ⟨h1, h2⟩ := ht
  have hc := h1.cell 0
  simp at hc
  have hci := bblk_cell h2 hlt
  have hfi := h2.free n
  have t1 : (0 : Int) ≤ (n : Int) := by omega
  have t2 : (n : Int) < (bs.length : Int) := by omega
  clear h1 h2 hn
  generalize bs.length = N at *
  generalize bs.getD n false = tv at *
  go_enter Try.func52, Try.ntmps52
  go_wp2_with (go_at_call 57; refine (lit_IndexE HI.out _).mono ?_; rintro e wq ⟨rfl, hq⟩; obtain rfl := hq)
  go_end0
  exact ⟨rfl, rfl⟩
theorem OwnTab.tab {w : World} {T G : Nat} {bs : List Bool} (h : OwnTab w T G bs) (hm : bs.length ≤ 1000000) : TabAt w ⟨T, 0, none⟩ bs := by
  obtain ⟨h1, h2⟩ := h
  have hc := h1.cell 0
  simp at hc
  refine ⟨_, _, hc, rfl, by unfold maxLen; omega, fun hp => ⟨G, 0, rfl, fun i hi => ?_⟩⟩
  rw [Nat.zero_add]; exact bblk_cell h2 hi
theorem OwnTab.set {w : World} {T G : Nat} {bs : List Bool} (h : OwnTab w T G bs) (hne : G ≠ T) (n : Nat) : OwnTab (w.setCell ⟨G, n, none⟩ (.bool true)) T G (bs.set n true) :=
  ⟨by rw [List.length_set]; exact h.1.other (a := ⟨G, n, none⟩) hne _, bblk_set h.2 n true⟩
def OfPost (l : List Int) (w : World) (e : Ending) (w' : World) : Prop := ∃ (T : Nat) (bs : List Bool), e = .returned (.pointer (some ⟨T, 0, none⟩)) ∧ w.heap.size ≤ T ∧ TabAt w' ⟨T, 0, none⟩ bs ∧ Rep bs l ∧ Below w.heap.size w w'
theorem lit_MostE (a : Option Addr) (len cap : Nat) (xs : List Int) (M : Int) (w : World) (hr : IntRow w a len xs) (h : lmost xs = M) : Calls Try.prog 35 #[.slice a len cap] w fun e w' => e = .returned (.int .i64 M) ∧ w = w' := (lit_Most a len cap xs w hr).mono fun e w' hh => ⟨by rw [hh.1, h], hh.2.symm⟩
theorem rep_none {l : List Int} (h : ∀ x ∈ l, lvar x = 0) : Rep [] l := fun x hx => by
  have hno : lhas l x = false := by
    cases h2 : lhas l x
    · rfl
    · exact absurd (h x ((lhas_mem l x).1 h2)) hx
  rw [hno]; unfold tOf; simp
theorem at_mem4 {xs : List Int} {k len : Nat} (h : xs.length = len) (hk : k < len) : xs.getD k 0 ∈ xs := by
  have hk' : k < xs.length := by rw [h]; exact hk
  simp [List.getD, hk']
set_option maxRecDepth 100000 in
set_option maxHeartbeats 1000000 in
theorem tab_Of (a : Option Addr) (len cap : Nat) (l : List Int) (w : World) (hr : IntRow w a len l) : Calls Try.prog 45 #[.slice a len cap] w (OfPost l w) := by
  have hm := hr.2.1; unfold maxLen at hm
  have HR := Lib.hid hr
  have HL := Lib.hid hr.1
  have hbd := lmost_bd l
  have HMX := Lib.hid (fun x (h : x ∈ l) => most_ge h)
  have HIX := Lib.hid (fun x (h : x ∈ l) (hv : lvar x ≠ 0) => most_index h hv)
  obtain ⟨M, hM⟩ : ∃ M : Nat, lmost l = (M : Int) := ⟨(lmost l).toNat, by omega⟩
  rw [hM] at hbd
  have HMM := Lib.hid hM
  have hb1 : Below w.heap.size w (w.alloc (.cells #[.slice none 0 0] 79)) := by (repeat (first | (with_reducible exact Below.refl _ _) | (with_reducible assumption) | (with_reducible refine below_alloc ?_ _) | (with_reducible refine below_drew ?_) | (with_reducible refine below_drewN ?_ _) | (with_reducible refine below_step ?_ (by with_reducible assumption))))
  have hk1 := Blk.made w #[.slice none 0 0] 79
  have hz1 : (w.alloc (.cells #[.slice none 0 0] 79)).heap.size = w.heap.size + 1 := by simp
  clear hr hM
  by_cases h0 : M = 0
  · have HALL : Hid (∀ x ∈ l, lvar x = 0) := Lib.hid (fun x hx => by have h1 := HMX.out x hx; have h2 := lvar_bd x; have h3 := HMM.out; omega)
    have HRN := Lib.hid (rep_none HALL.out)
    have HMM := Lib.hid (HMM.out.trans (by rw [h0]; rfl : ((M : Nat) : Int) = 0))
    generalize hw1 : w.alloc (.cells #[.slice none 0 0] 79) = w1 at *
    have HW1 := Lib.hid hw1
    have HK1 := Lib.hid hk1
    have HZ1 := Lib.hid hz1
    clear hw1 hbd h0 hk1 hz1
    go_enter Try.func45, Try.ntmps45
    go_wp2_with fail
    rw [HW1.out]
    refine (lit_MostE a len cap l 0 _ (HR.out.later hb1) HMM.out).mono ?_
    rintro e wq ⟨rfl, hq⟩
    obtain rfl := hq
    go_wp2_with fail
    go_loop [6, 21] (fun _ i => ∃ k : Nat, k ≤ len ∧ i = .int .i64 k) (fun _ i => len - (intOf i).toNat)
    case atStart => exact ⟨0, Nat.zero_le _, rfl⟩
    case round =>
      obtain ⟨k, hk, rfl⟩ := hrel
      have t1 : (0 : Int) ≤ (k : Int) := by omega
      by_cases hlt : k < len
      · have hra := HR.out.later hb1
        obtain ⟨b, off, rfl, hcells⟩ := hra.2.2 (by omega)
        have hck := hcells k hlt
        have t2 : (k : Int) < (len : Int) := by omega
        have HV := Lib.hid (HALL.out _ (at_mem4 HL.out hlt))
        clear hcells hra
        generalize l.getD k 0 = z at *
        go_wp2_with (go_at_call 52; refine (tab_AddNone _ z _ HV.out).mono ?_; rintro e wq ⟨rfl, hq⟩; obtain rfl := hq)
        go_round
        case rel => exact ⟨k + 1, by omega, by go_num⟩
        case measure => simp [intOf]; omega
      · have hkn : k = len := by omega
        subst hkn
        go_wp2_with fail
        go_ret
        refine ⟨w.heap.size, [], rfl, Nat.le_refl _, ⟨none, 0, ?_, rfl, Nat.zero_le _, fun h => by simp at h⟩, HRN.out, hb1⟩
        have := HK1.out.cell 0
        simpa using this
  · have hmk := run_make_row' (P := Try.prog) 25 4 (.bool false) 1 Try.underlying25 info_bool rfl .i64 .i64 (2 * M) (by omega) (by omega)
    rw [show ((2 * M : Nat) : Int) = 2 * (M : Int) by omega] at hmk
    have d1 : decide ((0 : Int) < (M : Int)) = true := decide_eq_true (by omega)
    have d2 : decide (0 < M) = true := decide_eq_true (by omega)
    generalize hw1 : w.alloc (.cells #[.slice none 0 0] 79) = w1 at *
    have e0 := hk1.cell 0
    have f0 := hk1.free 0
    simp at e0
    have hlt1 : w.heap.size < w1.heap.size := by omega
    have hk1s := hk1.set 0 (.slice (some ⟨w.heap.size + 1, 0, none⟩) (2 * M) (2 * M))
    have hB2 : Below w.heap.size w (w1.setCell ⟨w.heap.size, 0, none⟩ (.slice (some ⟨w.heap.size + 1, 0, none⟩) (2 * M) (2 * M))) := below_set hb1 (Nat.le_refl _) 0 _
    have hz2 : (w1.setCell ⟨w.heap.size, 0, none⟩ (.slice (some ⟨w.heap.size + 1, 0, none⟩) (2 * M) (2 * M))).heap.size = w.heap.size + 1 := by rw [World.size_setCell]; exact hz1
    generalize hw2 : w1.setCell ⟨w.heap.size, 0, none⟩ (.slice (some ⟨w.heap.size + 1, 0, none⟩) (2 * M) (2 * M)) = w2 at *
    have hk1c := hk1s.later (w' := w2.alloc (.cells (madeCells #[.bool false] (2 * M)) 4)) (below_alloc (Below.refl _ _) _)
    have hk2c := Blk.at w2 (madeCells #[.bool false] (2 * M)) 4 hz2.symm
    have hB3 : Below w.heap.size w (w2.alloc (.cells (madeCells #[.bool false] (2 * M)) 4)) := below_alloc hB2 _
    generalize hw3 : w2.alloc (.cells (madeCells #[.bool false] (2 * M)) 4) = w3 at *
    rw [madeBools] at hk2c
    have hot : OwnTab w3 w.heap.size (w.heap.size + 1) (List.replicate (2 * M) false) := ⟨by rw [List.length_replicate]; exact hk1c, hk2c⟩
    have HOT := Lib.hid hot
    have HW1 := Lib.hid hw1; have HW2 := Lib.hid hw2; have HW3 := Lib.hid hw3; have HZ1 := Lib.hid hz1
    have HR1 := Lib.hid (HR.out.later hb1)
    have HRZ := Lib.hid (Rep.zeros (2 * M))
    clear hw1 hw2 hw3 hk1 hk1s hk1c hk2c hot hB2 hz1 hz2
    go_enter Try.func45, Try.ntmps45
    go_wp2_with fail
    rw [HW1.out]
    refine (lit_MostE a len cap l M _ HR1.out HMM.out).mono ?_
    rintro e wq ⟨rfl, hq⟩
    obtain rfl := hq
    go_wp2_with fail
    rw [HZ1.out, HW2.out, HW3.out]
    clear hmk e0 f0 hlt1 d1 d2
    go_loopw [6, 21] (fun _ i wr => ∃ k : Nat, k ≤ len ∧ i = .int .i64 k ∧ (∃ bs : List Bool, bs.length = 2 * M ∧ Rep bs (l.take k) ∧ OwnTab wr w.heap.size (w.heap.size + 1) bs) ∧ Below w.heap.size w wr) (fun _ i _ => len - (intOf i).toNat)
    case atStart => exact ⟨0, Nat.zero_le _, rfl, ⟨_, List.length_replicate, HRZ.out, HOT.out⟩, hB3⟩
    case round =>
      clear hB3
      obtain ⟨k, hk, rfl, ⟨bs, hbl, hrep, hot⟩, hb⟩ := hrel
      have t1 : (0 : Int) ≤ (k : Int) := by omega
      by_cases hlt : k < len
      · have hra := HR.out.later hb
        obtain ⟨b, off, rfl, hcells⟩ := hra.2.2 (by omega)
        have hck := hcells k hlt
        have t2 : (k : Int) < (len : Int) := by omega
        have HI := Lib.hid (at_mem4 HL.out hlt)
        have HT := Lib.hid (take_snoc l k (by rw [HL.out]; exact hlt))
        have HBL := Lib.hid hbl; have HREP := Lib.hid hrep; have HOTR := Lib.hid hot
        clear hcells hra hbl hrep hot
        generalize l.getD k 0 = z at *
        by_cases hv : lvar z = 0
        · have HV := Lib.hid hv
          have HREP2 := Lib.hid (HREP.out.skip hv)
          clear hv
          go_wp2_with (go_at_call 52; refine (tab_AddNone _ z _ HV.out).mono ?_; rintro e wq ⟨rfl, hq⟩; obtain rfl := hq)
          go_roundw
          case rel => exact ⟨k + 1, by omega, by go_num, ⟨bs, HBL.out, by rw [HT.out]; exact HREP2.out, HOTR.out⟩, hb⟩
          case measure => simp [intOf]; omega
        · obtain ⟨n, hn, _⟩ := lindex_nat hv
          have hlt3 : n < bs.length := by
            have h1 := HIX.out z HI.out hv
            have h2 := HMM.out
            have h3 := HBL.out
            omega
          have HN := Lib.hid hn
          have HLT := Lib.hid hlt3
          have HREP2 := Lib.hid (HREP.out.add hv hn hlt3)
          have HBM : Hid (bs.length ≤ 1000000) := Lib.hid (by have := HBL.out; omega)
          clear hv hn hlt3
          go_wp2_with fail
          refine (tab_AddIn w.heap.size (w.heap.size + 1) bs z n _ HOTR.out HN.out HLT.out HBM.out).mono ?_
          rintro e w5 ⟨rfl, hw5⟩
          have hot5 : OwnTab w5 w.heap.size (w.heap.size + 1) (bs.set n true) := by rw [hw5]; exact HOTR.out.set (by omega) n
          have hb5 : Below w.heap.size w w5 := by rw [hw5]; exact below_set hb (by omega) n _
          have HOT5 := Lib.hid hot5
          clear hw5 hot5
          go_wp2_with fail
          go_roundw
          case rel => exact ⟨k + 1, by omega, by go_num, ⟨bs.set n true, by rw [List.length_set]; exact HBL.out, by rw [HT.out]; exact HREP2.out, HOT5.out⟩, hb5⟩
          case measure => simp [intOf]; omega
      · have hkn : k = len := by omega
        subst hkn
        rw [List.take_of_length_le (by rw [HL.out]; exact Nat.le_refl _)] at hrep
        have HREP := Lib.hid hrep; have HOTR := Lib.hid hot; have HBL := Lib.hid hbl
        clear hrep hot hbl
        go_wp2_with fail
        go_ret
        exact ⟨w.heap.size, bs, rfl, Nat.le_refl _, HOTR.out.tab (by have := HBL.out; omega), HREP.out, hb⟩
end Go.Proofs.Ytdladbfjgkejiaa
