import Derived.Test.YtghdacijcnmhlaaDoorMgAP
import Derived.Test.YtghdacijcnmhlaaDoorMgAQ
import Derived.Test.YtghdacijcnmhlaaDoorMgAI
import Derived.Test.YtghdacijcnmhlaaDoorMgAO
import Derived.Test.YtghdacijcnmhlaaDoorMgAA
import Derived.BigGuardPart
import Derived.Handy
import Derived.Test.YtghdacijcnmhlaaDoorMgAR
import Derived.Deep.QuietTactic
import Derived.BigQuiet
import Derived.Deep.RegionHeld3
namespace Go.Proofs.YtghdacijcnmhlaaDoor
set_option linter.unusedVariables false
end Go.Proofs.YtghdacijcnmhlaaDoor
namespace Go.Proofs.YtghdacijcnmhlaaDoor
open Go.RowKit
set_option linter.unusedVariables false
theorem set_unit : (mapR (.agg #[])).isSome = true := by decide
def sF (l : List Int) : Int → Option Value := fun x => if x ∈ l then some (.agg #[]) else none
theorem sF_nil : sF [] = fun _ => none := by funext x; unfold sF; simp
theorem sF_push (l : List Int) (x : Int) : upd (sF l) x (.agg #[]) = sF (l ++ [x]) := by
  funext y
  unfold upd sF
  by_cases h : y = x
  · rw [if_pos h, if_pos (by simp [h])]
  · rw [if_neg h]
    by_cases h2 : y ∈ l
    · rw [if_pos h2, if_pos (by simp [h2])]
    · rw [if_neg h2, if_neg (by simp [h, h2])]
theorem sF_get (l : List Int) (x : Int) : (sF l x).getD (.agg #[]) = .agg #[] ∧ (sF l x).isSome = l.contains x := by
  unfold sF
  by_cases h : x ∈ l
  · rw [if_pos h]; exact ⟨rfl, by simp [h]⟩
  · rw [if_neg h]; exact ⟨rfl, by simp [h]⟩
theorem set_few {L ks : List Int} (hk : ks.Nodup) (hm : ∀ k, k ∈ ks ↔ (sF L k).isSome = true) : ks.length < L.length ↔ ¬ L.Nodup := by
  have hm2 : ∀ k, k ∈ ks ↔ k ∈ L := fun k => by rw [hm, (sF_get L k).2, List.contains_iff_mem]
  constructor
  · intro h hn
    have := hn.length_le_of_subset (fun x hx => (hm2 x).2 hx)
    omega
  · intro h
    rw [List.nodup_iff_count] at h
    obtain ⟨x, hx⟩ : ∃ x, ¬ List.count x L ≤ 1 := Classical.byContradiction fun hh => h fun a => Classical.byContradiction fun h2 => hh ⟨a, h2⟩
    have hxL : x ∈ L := List.count_pos_iff.1 (by omega)
    have hsub : ∀ y, y ∈ ks → y ∈ L.erase x := fun y hy => by
      by_cases e : y = x
      · subst e
        exact List.count_pos_iff.1 (by rw [List.count_erase_self]; omega)
      · exact (List.mem_erase_of_ne e).2 ((hm2 y).1 hy)
    have h1 := hk.length_le_of_subset hsub
    have h2 := List.length_erase_of_mem hxL
    have h3 := List.length_pos_of_mem hxL
    omega
end Go.Proofs.YtghdacijcnmhlaaDoor
namespace Go.Proofs.YtghdacijcnmhlaaDoor
open Go.RowKit
set_option linter.unusedVariables false
set_option linter.unusedSimpArgs false
def Fits' (xs : List Int) : Prop := ∀ x ∈ xs, -9223372036854775808 ≤ x ∧ x ≤ 9223372036854775807
end Go.Proofs.YtghdacijcnmhlaaDoor
namespace Go.Proofs.YtghdacijcnmhlaaDoor
open Go.RowKit
set_option linter.unusedVariables false
set_option linter.unusedSimpArgs false
end Go.Proofs.YtghdacijcnmhlaaDoor
