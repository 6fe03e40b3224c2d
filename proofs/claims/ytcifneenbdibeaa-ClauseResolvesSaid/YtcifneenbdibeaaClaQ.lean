/- Clauses and truths, plainly: what holds where clauses hold. -/
import Derived.Test.YtcifneenbdibeaaClaP
import Derived.Test.YtcifneenbdibeaaAsgP
import Derived.Test.YtcifneenbdibeaaHolds
namespace Go.Proofs.Ytcifneenbdibeaa
set_option linter.unusedVariables false

theorem holds_iff (m : List Bool) (c : List Int) : holdsC m c = true ↔ ∃ x ∈ c, lvar x ≠ 0 ∧ litT m x = true := by
  unfold holdsC
  rw [List.any_eq_true]
  constructor
  · rintro ⟨x, h1, h2⟩
    have h3 := h2
    unfold litT at h3
    rw [Bool.and_eq_true, decide_eq_true_eq] at h3
    exact ⟨x, h1, h3.1, h2⟩
  · rintro ⟨x, h1, _, h2⟩; exact ⟨x, h1, h2⟩
theorem litT_neg_iff (m : List Bool) {x : Int} (h : lvar x ≠ 0) : litT m (-x) = !litT m x := by
  have hs : lside (-x) = !lside x := by
    unfold lside; rw [lvar_neg]
    have := lvar_range h
    by_cases hp : 0 < x
    · rw [decide_eq_false (by omega), decide_eq_true (by omega)]; rfl
    · rw [decide_eq_true (by omega), decide_eq_false (by omega)]; rfl
  unfold litT
  rw [lvar_neg, hs, decide_eq_true h]
  cases (decide (lvar x ≤ m.length) && m.getD ((lvar x).toNat - 1) false) <;> cases lside x <;> rfl
theorem sub_holds {a b : List Int} {m : List Bool} (hs : cSub a b = true) (h : holdsC m a = true) : holdsC m b = true := by
  rw [holds_iff] at h ⊢
  obtain ⟨x, h1, h2, h3⟩ := h
  exact ⟨x, (sub_iff a b).1 hs x h1 h2, h2, h3⟩
theorem taut_holds {a : List Int} {m : List Bool} (ht : cTaut a = true) : holdsC m a = true := by
  obtain ⟨x, h1, h2, h3⟩ := (taut_iff a).1 ht
  rw [holds_iff]
  cases h : litT m x
  · exact ⟨-x, h3, by rw [lvar_neg]; exact h1, by rw [litT_neg_iff m h1, h]; rfl⟩
  · exact ⟨x, h2, h1, h⟩
theorem res_holds {a b : List Int} {l : Int} {m : List Bool} (he : cResE a b l = 0) (ha : holdsC m a = true) (hb : holdsC m b = true) : holdsC m (cRes a b l) = true := by
  have hr : cRes a b l = cNorm (cWithout a l ++ cWithout b (-l)) := by unfold cRes; rw [if_pos he]
  have hl : lvar l ≠ 0 := by
    intro h0
    unfold cResE at he
    rw [if_pos h0] at he
    omega
  rw [holds_iff] at ha hb ⊢
  obtain ⟨x, hx1, hx2, hx3⟩ := ha
  obtain ⟨y, hy1, hy2, hy3⟩ := hb
  rw [hr]
  by_cases hxl : x = l
  · subst hxl
    refine ⟨y, (cNorm_mem _ _).2 ⟨hy2, List.mem_append_right _ ((without_mem _ _ _).2 ⟨hy2, hy1, fun h => ?_⟩)⟩, hy2, hy3⟩
    subst h
    rw [litT_neg_iff m hl, hx3] at hy3
    cases hy3
  · exact ⟨x, (cNorm_mem _ _).2 ⟨hx2, List.mem_append_left _ ((without_mem _ _ _).2 ⟨hx2, hx1, hxl⟩)⟩, hx2, hx3⟩
/-- The one form is a clause over all variables. -/
theorem norm_check {c : List Int} (h : c.length ≤ 1000) : cCheck (cNorm c) 100000 = 0 := by
  have hlen : ∀ c : List Int, (cNorm c).length ≤ c.length := fun c => by
    induction c using snoc_induct with
    | h0 => simp [cNorm]
    | hs c x ih =>
      rw [cNorm_snoc, List.length_append]
      unfold cStep
      split
      · omega
      · have h2 : (cPut (cNorm c) x).length = (cNorm c).length + 1 := by
          have h := congrArg List.length (List.takeWhile_append_dropWhile (p := fun y => decide (lindex y < lindex x)) (l := cNorm c))
          rw [List.length_append] at h
          unfold cPut
          rw [List.length_append, List.length_cons]
          omega
        rw [h2]; simp; omega
  have h1 := hlen c
  unfold cCheck
  rw [if_neg (by omega), if_neg (by omega), if_neg, if_pos (norm_nodup c)]
  rw [Bool.not_eq_false, List.all_eq_true]
  intro x hx
  rw [beq_iff_eq, lcheck_max]
  exact ((cNorm_mem c x).1 hx).1
theorem norm_has (c : List Int) (l : Int) : cHas (cNorm c) l = cHas c l := by
  rw [Bool.eq_iff_iff, has_iff, has_iff, cNorm_mem]
  exact ⟨fun ⟨h1, h2⟩ => h2, fun h => ⟨h.1, h⟩⟩
theorem norm_same_clause (a : List Int) : (cSub a (cNorm a) && cSub (cNorm a) a) = true := by rw [same_iff, norm_norm]; simp
end Go.Proofs.Ytcifneenbdibeaa
