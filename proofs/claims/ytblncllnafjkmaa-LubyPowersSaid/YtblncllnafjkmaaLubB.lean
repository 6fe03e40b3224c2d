/- Bits of int64 that layer 18 looks at, and the contract of math/bits.Len. -/
import Derived.Shelf.Small.Bits
import Derived.Laws.BitsAllLaws
import Derived.Laws.BitsLemmas
import Derived.Test.YtblncllnafjkmaaRows
import Derived.WalkKit
import Derived.WalkSpells
import Derived.WalkLawsBesides
import Derived.BigGuardPart
import Derived.Handy
import Derived.Deep.QuietTactic
import Derived.BigQuiet
import Derived.Deep.RegionHeld3
import Derived.Lib.Hide
import Derived.Test.YtblncllnafjkmaaMem
import Derived.Test.YtblncllnafjkmaaLubP
namespace Go.Proofs.Ytblncllnafjkmaa
open Go.RowKit Go.Shelf

theorem nat_ofInt (a : Nat) (ha : a < 9223372036854775808) : (BitVec.ofInt 64 (a : Int)).toNat = a := by
  rw [BitVec.ofInt_natCast, BitVec.toNat_ofNat]; exact Nat.mod_eq_of_lt (by omega)
theorem and_nat (a b : Nat) (ha : a < 9223372036854775808) (hb : b < 9223372036854775808) : bits .and .i64 (a : Int) (b : Int) = ((a &&& b : Nat) : Int) := by
  have hx : a &&& b < 2 ^ 63 := Nat.and_lt_two_pow _ (by omega)
  show IntKind.i64.wrap ((BitVec.ofInt 64 (a : Int) &&& BitVec.ofInt 64 (b : Int)).toNat : Int) = _
  rw [BitVec.toNat_and, nat_ofInt a ha, nat_ofInt b hb, IntKind.wrap_i64]
  omega
theorem land_halves (a b : Nat) : a &&& b = 2 * (a / 2 &&& b / 2) + (a % 2) * (b % 2) := by
  have h1 : (a &&& b) % 2 = (a % 2) * (b % 2) := by
    have := Nat.and_mod_two_pow (a := a) (b := b) (n := 1)
    simp only [Nat.pow_one] at this
    rw [this]
    rcases Nat.mod_two_eq_zero_or_one a with h | h <;> rcases Nat.mod_two_eq_zero_or_one b with k | k <;> rw [h, k] <;> rfl
  have h2 : (a &&& b) / 2 = a / 2 &&& b / 2 := Nat.and_div_two
  omega
theorem land_compl (n a : Nat) (h : a < 2 ^ n) : a &&& (2 ^ n - 1 - a) = 0 := by
  induction n generalizing a with
  | zero => simp at h; subst h; rfl
  | succ n ih =>
    have hp := Nat.two_pow_pos n
    have e : 2 ^ (n + 1) = 2 * 2 ^ n := by rw [Nat.pow_succ]; omega
    rw [land_halves, show (2 ^ (n + 1) - 1 - a) / 2 = 2 ^ n - 1 - a / 2 by omega, ih (a / 2) (by omega)]
    rcases Nat.mod_two_eq_zero_or_one a with h1 | h1
    · rw [h1]; omega
    · rw [h1, show (2 ^ (n + 1) - 1 - a) % 2 = 0 by omega]
theorem land_neg (n u : Nat) (h0 : 0 < u) (h : u < 2 ^ n) : u &&& (2 ^ n - u) = lowb u := by
  induction n generalizing u with
  | zero => simp at h; omega
  | succ n ih =>
    have hp := Nat.two_pow_pos n
    have e : 2 ^ (n + 1) = 2 * 2 ^ n := by rw [Nat.pow_succ]; omega
    rcases Nat.mod_two_eq_zero_or_one u with h1 | h1
    · obtain ⟨m, rfl⟩ : ∃ m, u = 2 * m := ⟨u / 2, by omega⟩
      rw [land_halves, lowb_two, show (2 ^ (n + 1) - 2 * m) / 2 = 2 ^ n - m by omega, show 2 * m / 2 = m by omega, ih m (by omega) (by omega), h1]; omega
    · rw [land_halves, lowb_odd h1, show (2 ^ (n + 1) - u) / 2 = 2 ^ n - 1 - u / 2 by omega, land_compl n (u / 2) (by omega), h1, show (2 ^ (n + 1) - u) % 2 = 1 by omega]
theorem and_neg (u : Nat) (h0 : 0 < u) (h : u < 9223372036854775808) : bits .and .i64 (u : Int) (-(u : Int)) = (lowb u : Int) := by
  have h1 : u &&& (2 ^ 64 - u) = lowb u := land_neg 64 u h0 (by omega)
  have h2 : (BitVec.ofInt 64 (-(u : Int))).toNat = 2 ^ 64 - u := by
    rw [BitVec.toNat_ofInt]; omega
  have hx : u &&& (2 ^ 64 - u) < 2 ^ 63 := Nat.lt_of_le_of_lt Nat.and_le_left (by omega)
  show IntKind.i64.wrap ((BitVec.ofInt 64 (u : Int) &&& BitVec.ofInt 64 (-(u : Int))).toNat : Int) = _
  rw [BitVec.toNat_and, nat_ofInt u h, h2, IntKind.wrap_i64, ← h1]
  omega
theorem land_pred (k : Nat) : 2 ^ k &&& (2 ^ k - 1) = 0 := by
  induction k with
  | zero => rfl
  | succ n ih =>
    have hp := Nat.two_pow_pos n
    have e : 2 ^ (n + 1) = 2 * 2 ^ n := by rw [Nat.pow_succ]; omega
    rw [land_halves, show 2 ^ (n + 1) / 2 = 2 ^ n by omega, show (2 ^ (n + 1) - 1) / 2 = 2 ^ n - 1 by omega, ih, show 2 ^ (n + 1) % 2 = 0 by omega]; omega
theorem land_next (i : Nat) (h0 : 0 < i) : (i &&& (i + 1) = 0) ↔ i + 1 = 2 ^ (Nat.log2 i + 1) := by
  have h1 := Nat.log2_self_le (n := i) (by omega)
  have h2 := Nat.lt_log2_self (n := i)
  constructor
  · intro h
    rcases Nat.lt_or_ge (i + 1) (2 ^ (Nat.log2 i + 1)) with h3 | h3
    · exfalso
      have b1 : i.testBit (Nat.log2 i) = true := Nat.testBit_log2 (by omega)
      have b2 : (i + 1).testBit (Nat.log2 i) = true := by
        have : Nat.log2 (i + 1) = Nat.log2 i := log2_at (by omega) h3
        rw [← this]; exact Nat.testBit_log2 (by omega)
      have b3 : (i &&& (i + 1)).testBit (Nat.log2 i) = true := by rw [Nat.testBit_and, b1, b2]; rfl
      rw [h] at b3; simp at b3
    · omega
  · intro h
    have := land_pred (Nat.log2 i + 1)
    rw [← h, Nat.add_sub_cancel, Nat.and_comm] at this
    exact this
theorem bitLen_log (x : Nat) (h0 : 0 < x) (h : x < 2 ^ 64) : Lib.bitLen x = Nat.log2 x + 1 := by
  induction x using Nat.strongRecOn with
  | _ x ih =>
    rw [Lib.bitLen_half x (by omega) h]
    by_cases h2 : 2 ≤ x
    · rw [ih (x / 2) (by omega) (by omega) (by omega), Nat.log2_def x, if_pos h2]; omega
    · obtain rfl : x = 1 := by omega
      decide

def len_ren : Go.Shelf.Ren := ⟨fun | 125 => 16 | 128 => 18 | 129 => 19 | n => n, fun | 46 => 30 | 3 => 3 | 51 => 37 | 53 => 39 | 4 => 4 | 5 => 5 | 9 => 9 | n => n, fun | n => n⟩
theorem len_lays : Go.Proofs.Lays.n125 Try.prog len_ren := {
  mixed := by kernel_rfl
  f125 := Try.func16.trans (congrArg some (by kernel_rfl))
  f128 := Try.func18.trans (congrArg some (by kernel_rfl))
  f129 := Try.func19.trans (congrArg some (by kernel_rfl))
  t3 := Try.underlying3
  a3 := Try.isAgg3
  z3 := Try.sizeOf3
  v3 := Try.zeroValue3
  t4 := Try.underlying4
  a4 := Try.isAgg4
  z4 := Try.sizeOf4
  v4 := Try.zeroValue4
  t5 := Try.underlying5
  a5 := Try.isAgg5
  z5 := Try.sizeOf5
  v5 := Try.zeroValue5
  t9 := Try.underlying9
  a9 := Try.isAgg9
  z9 := Try.sizeOf9
  v9 := Try.zeroValue9
  t46 := Try.underlying30
  a46 := Try.isAgg30
  z46 := Try.sizeOf30
  v46 := Try.zeroValue30
  t51 := Try.underlying37
  a51 := Try.isAgg37
  z51 := Try.sizeOf37
  v51 := Try.zeroValue37
  t53 := Try.underlying39
  a53 := Try.isAgg39
  z53 := Try.sizeOf39
  v53 := Try.zeroValue39 }
theorem bits_Len (i : Nat) (w : World) (h0 : 0 < i) (h : i < 9223372036854775808) : Calls Try.prog 16 #[.int .u64 i] w fun e w' => e = .returned (.int .i64 ((Nat.log2 i + 1 : Nat) : Int)) ∧ w = w' :=
  (Any.bits_Len len_lays i w (by omega) (by omega)).mono fun e w' ⟨he, hw⟩ => ⟨by rw [he, Int.toNat_natCast, bitLen_log i h0 (by omega)], hw.symm⟩
end Go.Proofs.Ytblncllnafjkmaa
