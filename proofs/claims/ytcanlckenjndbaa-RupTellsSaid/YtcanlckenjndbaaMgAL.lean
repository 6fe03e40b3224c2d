import Derived.Test.YtcanlckenjndbaaRows
import Derived.Test.YtcanlckenjndbaaMgAA
import Derived.Deep.OwnRows
import Derived.Test.YtcanlckenjndbaaMgAI
import Derived.Test.YtcanlckenjndbaaMgAK
import Derived.BigGuardPart
import Derived.Handy
namespace Go.Proofs.Ytcanlckenjndbaa
open Go.RowKit
set_option linter.unusedVariables false
def upTo {α : Type} (f : Nat → α) (z : α) (n k : Nat) : List α := (List.range n).map fun i => if i < k then f i else z
end Go.Proofs.Ytcanlckenjndbaa
namespace Go.Proofs.Ytcanlckenjndbaa
set_option linter.unusedVariables false
def Rising (xs : List Int) : Prop := xs.Pairwise fun a b => lindex a < lindex b
def cPut (out : List Int) (x : Int) : List Int := out.takeWhile (fun y => decide (lindex y < lindex x)) ++ (x :: out.dropWhile (fun y => decide (lindex y < lindex x)))
def cStep (out : List Int) (x : Int) : List Int := if lvar x = 0 ∨ lhas out x = true then out else cPut out x
def cNorm (c : List Int) : List Int := c.foldl cStep []
def cHas (c : List Int) (l : Int) : Bool := decide (lvar l ≠ 0) && lhas c l
def cTaut (c : List Int) : Bool := c.any fun x => cHas c x && cHas c (-x)
def cSub (a b : List Int) : Bool := a.all fun x => decide (lvar x = 0) || lhas b x
def cWithout (c : List Int) (l : Int) : List Int := (cNorm c).filter (· != l)
def cCheck (c : List Int) (vars : Int) : Int := if vars < 0 ∨ 100000 < vars then 2 else if 1000 < c.length then 3 else if (c.all fun x => lcheck x vars == 0) = false then 10 else if c.Nodup then 0 else 21
def cResE (a b : List Int) (l : Int) : Int := if lvar l = 0 then 10 else if (cHas a l && cHas b (-l)) = false then 11 else 0
def cRes (a b : List Int) (l : Int) : List Int := if cResE a b l = 0 then cNorm (cWithout a l ++ cWithout b (-l)) else []
theorem lvar_pos {x : Int} (h : lvar x ≠ 0) : lindex x = if x < 0 then 2 * lvar x - 1 else 2 * lvar x - 2 := by unfold lindex; rw [if_neg h]
theorem lindex_inj {x y : Int} (hx : lvar x ≠ 0) (hy : lvar y ≠ 0) (h : lindex x = lindex y) : x = y := by
  rw [← lfrom_index hx, ← lfrom_index hy, h]
theorem lhas_mem (l : List Int) (x : Int) : lhas l x = true ↔ x ∈ l := by unfold lhas; rw [List.contains_iff_mem]
theorem snoc_induct {p : List Int → Prop} (h0 : p []) (hs : ∀ c x, p c → p (c ++ [x])) (c : List Int) : p c := by
  have h : ∀ r : List Int, p r.reverse := fun r => by
    induction r with
    | nil => exact h0
    | cons y ys ih => rw [List.reverse_cons]; exact hs _ _ ih
  simpa using h c.reverse
theorem has_iff (c : List Int) (l : Int) : cHas c l = true ↔ (lvar l ≠ 0 ∧ l ∈ c) := by unfold cHas; rw [Bool.and_eq_true, decide_eq_true_eq, lhas_mem]
theorem taut_iff (c : List Int) : cTaut c = true ↔ ∃ x, lvar x ≠ 0 ∧ x ∈ c ∧ -x ∈ c := by
  unfold cTaut
  rw [List.any_eq_true]
  constructor
  · rintro ⟨x, hx, h⟩
    rw [Bool.and_eq_true, has_iff, has_iff] at h
    exact ⟨x, h.1.1, hx, h.2.2⟩
  · rintro ⟨x, h1, h2, h3⟩
    refine ⟨x, h2, ?_⟩
    rw [Bool.and_eq_true, has_iff, has_iff]
    exact ⟨⟨h1, h2⟩, by unfold lvar at h1 ⊢; repeat' split at h1 <;> repeat' split <;> omega, h3⟩
end Go.Proofs.Ytcanlckenjndbaa
namespace Go.Proofs.Ytcanlckenjndbaa
open Go.RowKit
set_option linter.unusedVariables false
set_option linter.unusedSimpArgs false
def Fits' (xs : List Int) : Prop := ∀ x ∈ xs, -9223372036854775808 ≤ x ∧ x ≤ 9223372036854775807
theorem lhas_take (xs : List Int) (v : Int) {n : Nat} (h : xs.length = n) : lhas (xs.take n) v = lhas xs v := by rw [List.take_of_length_le (by omega)]
set_option maxRecDepth 100000 in
theorem ref_Has (a : Option Addr) (len cap : Nat) (xs : List Int) (v : Int) (w : World) (hr : IntRow w a len xs) : Calls Try.prog 37 #[.slice a len cap, .int .i64 v] w fun e w' => e = .returned (.bool (lhas xs v)) ∧ w = w' := by
  obtain ⟨hl, hm, hc⟩ := hr
  unfold maxLen at hm
  have HC := Lib.hid hc; clear hc
  have HL := Lib.hid hl; clear hl
  go_enter Try.func37, Try.ntmps37
  go_wp2_with fail
  go_loop [5] (fun i => ∃ k : Nat, k ≤ len ∧ i = .int .i64 k ∧ lhas (xs.take k) v = false) (fun i => len - (intOf i).toNat)
  case atStart => exact ⟨0, Nat.zero_le _, rfl, rfl⟩
  case round =>
    obtain ⟨k, hk, rfl, hn⟩ := hrel
    have HN := Lib.hid hn; clear hn
    have t1 : (0 : Int) ≤ (k : Int) := by omega
    by_cases hlt : k < len
    · obtain ⟨b, off, rfl, hcell⟩ := HC.out (by omega)
      have hck := hcell k hlt
      have t2 : (k : Int) < (len : Int) := by omega
      have HS := Lib.hid (lhas_snoc (xs.take k) (xs.getD k 0) v)
      have HT := Lib.hid (take_snoc xs k (by rw [HL.out]; exact hlt))
      have hmem : xs.getD k 0 ∈ xs := by rw [List.getD_eq_getElem?_getD, List.getElem?_eq_getElem (by rw [HL.out]; exact hlt)]; simp
      have HM := Lib.hid hmem
      clear hcell hmem
      generalize xs.getD k 0 = z at *
      by_cases he : z = v
      · have d1 : (z == v) = true := by simpa using he
        have HE : Hid (lhas xs v = true) := Lib.hid (by rw [lhas_mem, ← he]; exact HM.out)
        clear he
        go_wp2_with fail
        go_ret
        exact ⟨ret_bool HE.out.symm, rfl⟩
      · have d1 : (z == v) = false := by simpa using he
        have HE : Hid (lhas (xs.take (k + 1)) v = false) := Lib.hid (by
          rw [HT.out, HS.out, HN.out, Bool.false_or]
          simp; exact fun h => he h.symm)
        clear he
        go_wp2_with fail
        go_round
        case rel => exact ⟨k + 1, by omega, by go_num, HE.out⟩
        case measure => simp [intOf]; omega
    · have hkn : k = len := by omega
      subst hkn
      have HE : Hid (lhas xs v = false) := Lib.hid (by rw [← lhas_take xs v HL.out]; exact HN.out)
      go_wp2_with fail
      go_ret
      exact ⟨ret_bool HE.out.symm, rfl⟩
end Go.Proofs.Ytcanlckenjndbaa
