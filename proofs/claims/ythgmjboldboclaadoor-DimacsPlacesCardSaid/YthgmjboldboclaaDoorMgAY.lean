import Derived.Test.YthgmjboldboclaaDoorMgAS
import Derived.Test.YthgmjboldboclaaDoorMgAU
import Derived.Test.YthgmjboldboclaaDoorMgAA
import Derived.BigGuardPart
import Derived.Handy
import Derived.Test.YthgmjboldboclaaDoorMgAX
import Derived.Test.YthgmjboldboclaaDoorMgAW
import Derived.Deep.QuietTactic
import Derived.BigQuiet
import Derived.Deep.RegionHeld3
namespace Go.Proofs.YthgmjboldboclaaDoor
open Go.RowKit
set_option linter.unusedVariables false
set_option linter.unusedSimpArgs false
def Fits' (xs : List Int) : Prop := ∀ x ∈ xs, -9223372036854775808 ≤ x ∧ x ≤ 9223372036854775807
theorem lhas_take (xs : List Int) (v : Int) {n : Nat} (h : xs.length = n) : lhas (xs.take n) v = lhas xs v := by rw [List.take_of_length_le (by omega)]
set_option maxRecDepth 100000 in
theorem ref_Has (a : Option Addr) (len cap : Nat) (xs : List Int) (v : Int) (w : World) (hr : IntRow w a len xs) : Calls Tryd.prog 25 #[.slice a len cap, .int .i64 v] w fun e w' => e = .returned (.bool (lhas xs v)) ∧ w = w' := by
  obtain ⟨hl, hm, hc⟩ := hr
  unfold maxLen at hm
  have HC := Lib.hid hc; clear hc
  have HL := Lib.hid hl; clear hl
  go_enter Tryd.func25, Tryd.ntmps25
  go_wp2_with fail
  go_loop [5] (fun i => ∃ k : Nat, k ≤ len ∧ i = .int .i64 k ∧ lhas (xs.take k) v = false) (fun i => len - (intOf i).toNat)
  case atStart => exact ⟨0, Nat.zero_le _, rfl, rfl⟩
  case round =>
    obtain ⟨k, hk, rfl, hn⟩ := hrel
    have HN := Lib.hid hn; clear hn
    have t1 : (0 : Int) ≤ (k : Int) := by omega
    by_cases hlt : k < len
    · obtain ⟨b, off, rfl, hcell⟩ := HC.out (by omega)
      have hck := hcell k hlt
      have t2 : (k : Int) < (len : Int) := by omega
      have HS := Lib.hid (lhas_snoc (xs.take k) (xs.getD k 0) v)
      have HT := Lib.hid (take_snoc xs k (by rw [HL.out]; exact hlt))
      have hmem : xs.getD k 0 ∈ xs := by rw [List.getD_eq_getElem?_getD, List.getElem?_eq_getElem (by rw [HL.out]; exact hlt)]; simp
      have HM := Lib.hid hmem
      clear hcell hmem
      generalize xs.getD k 0 = z at *
      by_cases he : z = v
      · have d1 : (z == v) = true := by simpa using he
        have HE : Hid (lhas xs v = true) := Lib.hid (by rw [lhas_mem, ← he]; exact HM.out)
        clear he
        go_wp2_with fail
        go_ret
        exact ⟨ret_bool HE.out.symm, rfl⟩
      · have d1 : (z == v) = false := by simpa using he
        have HE : Hid (lhas (xs.take (k + 1)) v = false) := Lib.hid (by
          rw [HT.out, HS.out, HN.out, Bool.false_or]
          simp; exact fun h => he h.symm)
        clear he
        go_wp2_with fail
        go_round
        case rel => exact ⟨k + 1, by omega, by go_num, HE.out⟩
        case measure => simp [intOf]; omega
    · have hkn : k = len := by omega
      subst hkn
      have HE : Hid (lhas xs v = false) := Lib.hid (by rw [← lhas_take xs v HL.out]; exact HN.out)
      go_wp2_with fail
      go_ret
      exact ⟨ret_bool HE.out.symm, rfl⟩
end Go.Proofs.YthgmjboldboclaaDoor
namespace Go.Proofs.YthgmjboldboclaaDoor
open Go.RowKit
set_option linter.unusedVariables false
set_option linter.unusedSimpArgs false
end Go.Proofs.YthgmjboldboclaaDoor
namespace Go.Proofs.YthgmjboldboclaaDoor
open Go.RowKit
set_option linter.unusedVariables false
set_option linter.unusedSimpArgs false
def OneKeep (w w' : World) (b : Nat) : Prop := w.heap.size ≤ w'.heap.size ∧ (∀ k, k < w.heap.size → k ≠ b → w'.heap[k]? = w.heap[k]?) ∧ ∀ W : World, Below W.heap.size W w → W.heap.size ≤ b → Below W.heap.size W w'
theorem OneKeep.set {w w1 : World} {b : Nat} (h : OneKeep w w1 b) (i : Nat) (u : Value) : OneKeep w (w1.setCell ⟨b, i, none⟩ u) b :=
  ⟨by simpa using h.1, fun k h1 h2 => (Below.heap_setCell w1 ⟨b, i, none⟩ u k h2).trans (h.2.1 k h1 h2), fun W h1 h2 => below_set (h.2.2 W h1 h2) h2 i u⟩
theorem OneKeep.cell {w w' : World} {b : Nat} (h : OneKeep w w' b) {p : Addr} {x : Value} (hp : w.cell? p = some x) (hne : p.block ≠ b) : w'.cell? p = some x :=
  (World.cell?_of_block (h.2.1 _ (World.block_lt_of_cell? _ _ hp) hne)).trans hp
end Go.Proofs.YthgmjboldboclaaDoor
