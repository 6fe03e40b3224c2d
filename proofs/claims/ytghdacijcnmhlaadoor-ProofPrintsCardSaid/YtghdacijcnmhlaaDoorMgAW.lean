import Derived.Test.YtghdacijcnmhlaaDoorMgAV
import Derived.Test.YtghdacijcnmhlaaDoorMgAU
import Derived.Test.YtghdacijcnmhlaaDoorMgAQ
import Derived.Test.YtghdacijcnmhlaaDoorMgAS
import Derived.Lib.ItoaLen
import Derived.Test.YtghdacijcnmhlaaDoorMgAA
import Derived.Lib.SmallJoins
namespace Go.Proofs.YtghdacijcnmhlaaDoor
open Go.RowKit
set_option linter.unusedVariables false
set_option linter.unusedSimpArgs false
set_option maxRecDepth 100000 in
set_option maxHeartbeats 1000000 in
theorem sl_Equal (a b : Option Addr) (la ca lb cb : Nat) (xs ys : List Int) (w : World) (ha : IntRow w a la xs) (hb : IntRow w b lb ys) :
    Calls Tryd.prog 38 #[.slice a la ca, .slice b lb cb] w fun e w' => e = .returned (.bool (decide (xs = ys))) ∧ Below w.heap.size w w' := by
  have ma := ha.2.1; have mb := hb.2.1
  unfold maxLen at ma mb
  by_cases hl : la = lb
  · subst hl
    have HA := Lib.hid ha; have HB := Lib.hid hb
    have HL := Lib.hid (ha.1.trans hb.1.symm)
    have HLA := Lib.hid ha.1
    clear ha hb
    by_cases heq : xs = ys
    all_goals
      have HEQ := Lib.hid heq
      first | rw [decide_eq_true heq] | rw [decide_eq_false heq]
      clear heq
      go_enter Tryd.func38, Tryd.ntmps38
      go_wp2_with fail
      go_loopw [5, 13] (fun _ i wr => ∃ k : Nat, k ≤ la ∧ i = .int .i64 k ∧ (∀ j, j < k → xs.getD j 0 = ys.getD j 0) ∧ Below w.heap.size w wr) (fun _ i _ => la - (intOf i).toNat)
      case atStart => exact ⟨0, Nat.zero_le _, rfl, fun j hj => by omega, Below.refl _ _⟩
      case round =>
        obtain ⟨k, hk, rfl, hall, hbw⟩ := hrel
        have HALL := Lib.hid hall; clear hall
        by_cases hlt : k < la
        · have ra := HA.out.later hbw
          have rb := HB.out.later hbw
          obtain ⟨ba, oa, rfl, ca'⟩ := ra.2.2 (by omega)
          obtain ⟨bb, ob, rfl, cb'⟩ := rb.2.2 (by omega)
          have c1 := ca' k hlt
          have c2 := cb' k hlt
          clear ca' cb' ra rb
          have t1 : (0 : Int) ≤ (k : Int) := by omega
          have t2 : (k : Int) < (la : Int) := by omega
          by_cases hk2 : xs.getD k 0 = ys.getD k 0
          · have hall' : ∀ j, j < k + 1 → xs.getD j 0 = ys.getD j 0 := by
              intro j hj
              rcases Nat.lt_or_ge j k with h | h
              · exact HALL.out j h
              · obtain rfl : j = k := by omega
                exact hk2
            have HALL' := Lib.hid hall'; clear hall'
            rw [hk2] at c1
            clear hk2
            go_wp2_with fail
            go_quiet (fail)
            go_wp2_with fail
            go_roundw
            case rel => exact ⟨k + 1, by omega, by go_num, HALL'.out, by (repeat (first | (with_reducible exact Below.refl _ _) | (with_reducible assumption) | (with_reducible refine below_alloc ?_ _) | (with_reducible refine below_drew ?_) | (with_reducible refine below_drewN ?_ _) | (with_reducible refine below_step ?_ (by with_reducible assumption))))⟩
            case measure => simp [intOf]; omega
          · have hk3 : (xs.getD k 0 != ys.getD k 0) = true := by simpa using hk2
            simp only [List.getD_eq_getElem?_getD] at hk3
            have HK2 := Lib.hid hk2; clear hk2
            go_wp2_with fail
            go_quiet (fail)
            go_wp2_with fail
            first
              | (go_ret; exact ⟨rfl, by (repeat (first | (with_reducible exact Below.refl _ _) | (with_reducible assumption) | (with_reducible refine below_alloc ?_ _) | (with_reducible refine below_drew ?_) | (with_reducible refine below_drewN ?_ _) | (with_reducible refine below_step ?_ (by with_reducible assumption))))⟩)
              | (exfalso; exact HK2.out (by rw [HEQ.out]))
        · have hka : k = la := by omega
          have HKA := Lib.hid hka; clear hka
          go_wp2_with fail
          first
            | (go_ret; exact ⟨rfl, by (repeat (first | (with_reducible exact Below.refl _ _) | (with_reducible assumption) | (with_reducible refine below_alloc ?_ _) | (with_reducible refine below_drew ?_) | (with_reducible refine below_drewN ?_ _) | (with_reducible refine below_step ?_ (by with_reducible assumption))))⟩)
            | (exfalso; exact HEQ.out (eq_of_getD 0 HL.out (fun i hi => HALL.out i (by rw [HKA.out, ← HLA.out]; exact hi))))
  · have hne : ¬ xs = ys := fun h => hl (by rw [← ha.1, ← hb.1, h])
    rw [decide_eq_false hne]
    clear hne ha hb
    have hl2 : ((la : Int) != (lb : Int)) = true := by simp; omega
    go_enter Tryd.func38, Tryd.ntmps38
    go_wp2_with fail
    go_ret
    exact ⟨rfl, Below.refl _ _⟩
def fSame (v1 v2 : Int) (xss yss : List (List Int)) : Bool := decide (v1 = v2) && decide (xss = yss)
end Go.Proofs.YtghdacijcnmhlaaDoor
namespace Go.Proofs.YtghdacijcnmhlaaDoor
open Go.RowKit
set_option linter.unusedVariables false
set_option linter.unusedSimpArgs false
end Go.Proofs.YtghdacijcnmhlaaDoor
namespace Go.Proofs.YtghdacijcnmhlaaDoor
open Go.Lib
def litB (l : Int) : List UInt8 := itoa l ++ [32]
def clB (c : List Int) : List UInt8 := c.flatMap litB ++ [48, 10]
def headB (v c : Int) : List UInt8 := [112, 32, 99, 110, 102, 32] ++ itoa v ++ [32] ++ itoa c ++ [10]
def prB (v : Int) (xss : List (List Int)) : List UInt8 := headB v xss.length ++ xss.flatMap clB
def Fit (x : Int) : Prop := -9223372036854775808 ≤ x ∧ x ≤ 9223372036854775807
end Go.Proofs.YtghdacijcnmhlaaDoor
namespace Go.Proofs.YtghdacijcnmhlaaDoor
open Go.ChangeShapes Go.WideShapes Go.ChangeAt Go.RowKit
open Go.Deep (oneCellFields)
set_option linter.unusedVariables false
theorem row_of_trod {P : Program} {H : Type} {enc : TypeId × Value → H} {W : World} {base : Nat} {sp : Nat → Bool} {held : Bool} {t e : TypeId} {u : Value} {n : Nat} {y : DataW H × List MemPlace}
    (ht : P.underlying t = some (.slice e)) (he : P.underlying e = some (.int .i64)) (hc : P.cellsOf e = 1) (h : DataW.trod enc P W base sp held n t [u] = some y) : ∃ a len cap xs, u = .slice a len cap ∧ IntRow W a len xs ∧ len ≤ cap ∧ cap ≤ maxLen := by
  rcases open_ints ht he hc h with ⟨hcs, _⟩ | ⟨z, l, c, zs, hcs, _⟩
  · simp only [List.cons.injEq, and_true] at hcs
    subst hcs
    obtain ⟨xs, h1, _, h2, h3, _⟩ := open_row ht he hc (x := y.1) (pl := y.2) ⟨n, h⟩
    exact ⟨none, 0, 0, xs, rfl, h1, h2, h3⟩
  · simp only [List.cons.injEq, and_true] at hcs
    subst hcs
    obtain ⟨xs, h1, _, h2, h3, _⟩ := open_row ht he hc (x := y.1) (pl := y.2) ⟨n, h⟩
    exact ⟨some z, l, c, xs, rfl, h1, h2, h3⟩
def MCaseArg (W : World) (v : Value) : Prop := ∃ (a : Option Addr) (l c : Nat) (xs : List Int) (a2 : Option Addr) (l2 c2 : Nat) (bs : List Bool) (a3 : Option Addr) (l3 c3 : Nat) (ys : List Int),
  v = .agg #[.slice a l c, .slice a2 l2 c2, .slice a3 l3 c3] ∧ (IntRow W a l xs ∧ l ≤ c ∧ c ≤ maxLen) ∧ (BoolRow W a2 l2 bs ∧ l2 ≤ c2 ∧ c2 ≤ maxLen) ∧ (IntRow W a3 l3 ys ∧ l3 ≤ c3 ∧ c3 ≤ maxLen)
end Go.Proofs.YtghdacijcnmhlaaDoor
