import Derived.Test.YtcanlckenjndbaaMgAP
import Derived.Test.YtcanlckenjndbaaMgAQ
import Derived.Test.YtcanlckenjndbaaMgAJ
import Derived.Test.YtcanlckenjndbaaMgAA
import Derived.Test.YtcanlckenjndbaaRows
import Derived.WalkKit
import Derived.WalkSpells
import Derived.WalkLawsBesides
import Derived.BigGuardPart
import Derived.Handy
import Derived.Deep.QuietTactic
import Derived.BigQuiet
import Derived.Deep.RegionHeld3
import Derived.Lib.Hide
import Derived.Laws.Cover3
import Derived.Test.YtcanlckenjndbaaMgAH
namespace Go.Proofs.Ytcanlckenjndbaa
set_option linter.unusedVariables false
def stAny (c : List Int) : Bool := c.any fun x => decide (lvar x = 0)
def stE (c : List Int) : Int := if stAny c = true then 10 else if cTaut c = true then 11 else 0
def stOut (c : List Int) : Nat → List Int
  | 0 => []
  | k + 1 => stOut c k ++ if lhas (c.take k) (c.getD k 0) = true then [] else [-(c.getD k 0)]
def stR (c : List Int) : List Int := if stE c = 0 then stOut c c.length else []
theorem stE_cases (c : List Int) : (stAny c = true ∧ stE c = 10) ∨ (stAny c = false ∧ cTaut c = true ∧ stE c = 11) ∨ (stAny c = false ∧ cTaut c = false ∧ stE c = 0) := by
  unfold stE
  cases h1 : stAny c <;> cases h2 : cTaut c <;> simp
theorem stOut_len (c : List Int) : ∀ k, (stOut c k).length ≤ k
  | 0 => Nat.le_refl _
  | k + 1 => by
    have := stOut_len c k
    unfold stOut; rw [List.length_append]; split <;> simp <;> omega
theorem stR_len (c : List Int) : (stR c).length ≤ c.length := by
  unfold stR; split
  · exact stOut_len c _
  · exact Nat.zero_le _
theorem stAny_no {c : List Int} (h : stAny c = false) {x : Int} (hx : x ∈ c) : lvar x ≠ 0 := fun e => by
  have : stAny c = true := List.any_eq_true.2 ⟨x, hx, by rw [e]; rfl⟩
  rw [h] at this; cases this
theorem st_val {c : List Int} (h1 : stAny c = false) (h2 : cTaut c = false) {k : Nat} (hk : k < c.length) : aVal (c.take k) (c.getD k 0) = if lhas (c.take k) (c.getD k 0) = true then 1 else 0 := by
  have hIn : c.getD k 0 ∈ c := by simp [List.getD, hk]
  have hv := stAny_no h1 hIn
  have hn : lhas (c.take k) (-(c.getD k 0)) = false := by
    cases h : lhas (c.take k) (-(c.getD k 0)) with
    | false => rfl
    | true =>
      rw [lhas_mem] at h
      have : cTaut c = true := (taut_iff c).2 ⟨_, hv, hIn, List.mem_of_mem_take h⟩
      rw [h2] at this; cases this
  unfold aVal
  rw [if_neg hv, hn]
  split <;> rfl
def chn : List Int → List (List Int) → Nat → List Int × Nat × Int
  | l, [], i => (l, i, 23)
  | l, h :: hs, i => if aCl l h = -1 then (l, i + 1, 0) else if aUnitOk l h = true then chn (l ++ [aUnit l h]) hs (i + 1) else ([], i, 22)
theorem chn_end (l : List Int) (hs : List (List Int)) (i : Nat) : chn l (hs.drop hs.length) i = (l, i, 23) := by rw [List.drop_length]; rfl
theorem chn_drop (l : List Int) {hs : List (List Int)} {k : Nat} (h : k < hs.length) (i : Nat) : chn l (hs.drop k) i = if aCl l (hs.getD k []) = -1 then (l, i + 1, 0) else if aUnitOk l (hs.getD k []) = true then chn (l ++ [aUnit l (hs.getD k [])]) (hs.drop (k + 1)) (i + 1) else ([], i, 22) := by
  rw [List.drop_eq_getElem_cons h]
  have e : hs.getD k [] = hs[k] := by simp [List.getD, h]
  rw [e]; rfl
theorem chn_len : ∀ (l : List Int) (hs : List (List Int)) (i : Nat), (chn l hs i).1.length ≤ l.length + hs.length ∧ (chn l hs i).2.1 ≤ i + hs.length
  | l, [], i => by unfold chn; exact ⟨Nat.le_refl _, Nat.le_refl _⟩
  | l, h :: hs, i => by
    unfold chn
    rw [List.length_cons]
    split
    · exact ⟨by simp, by simp⟩
    · split
      · have ih := chn_len (l ++ [aUnit l h]) hs (i + 1)
        rw [List.length_append, List.length_singleton] at ih
        omega
      · exact ⟨by simp, by simp⟩
theorem aCl_neg (l c : List Int) : aCl l c < 0 ↔ aCl l c = -1 := by unfold aCl; split <;> (try split) <;> omega
theorem aUnit_lvar {l c : List Int} (h : aUnitOk l c = true) : lvar (aUnit l c) ≠ 0 := by
  obtain ⟨u, _, h1, _, h2, _⟩ := aUnit_is h
  rw [h1]; exact h2
def shN8 (c : List Int) (hs : List (List Int)) : Nat := if stE c = 0 then (chn (stR c) hs 0).2.1 else 0
def shE8 (c : List Int) (hs : List (List Int)) : Int := if stE c = 0 then (chn (stR c) hs 0).2.2 else stE c
theorem Rep.grow {bs : List Bool} {l : List Int} (hr : Rep bs l) (m : Nat) : Rep (bs ++ List.replicate m false) l := fun y hy => by
  obtain ⟨k, hk, _⟩ := lindex_nat hy
  have h0 := hr y hy
  rw [tOf_at hk] at h0 ⊢
  rw [← h0]
  by_cases h : k < bs.length
  · rw [decide_eq_true h, decide_eq_true (by rw [List.length_append]; omega), Bool.true_and, Bool.true_and]
    simp [List.getD, List.getElem?_append_left h]
  · rw [decide_eq_false h, Bool.false_and]
    have : (bs ++ List.replicate m false).getD k false = false := by
      rw [List.getD_eq_getElem?_getD, List.getElem?_append_right (by omega), List.getElem?_replicate]
      split <;> rfl
    rw [this, Bool.and_false]
end Go.Proofs.Ytcanlckenjndbaa
namespace Go.Proofs.Ytcanlckenjndbaa
open Go.RowKit
theorem own_built (w : World) (B : Nat) (e : TypeId) (vs : List Value) (hB : B ≤ w.heap.size) (hm : vs.length ≤ maxLen) : (w.alloc (.cells vs.toArray e)).ownsRow B e 1 (.slice (some ⟨w.heap.size, 0, none⟩) vs.length vs.length) vs.length vs :=
  ⟨by simp, .inr ⟨w.heap.size, vs.length, vs.toArray, rfl, hB, heap_alloc_new w _, Nat.le_refl _, hm, by simp, by simp⟩⟩
def GrownT (w w' : World) (B : Nat) (t : TypeId) : Prop := w'.heap.size ≥ w.heap.size ∧ ∀ k, k < w.heap.size → w'.heap[k]? = w.heap[k]? ∨ (B ≤ k ∧ ∃ cur, w.heap[k]? = some (.cells cur t (0, 0)))
def OwnFull (w : World) (B : Nat) (e : TypeId) (v : Value) (n : Nat) (xs : List Value) (r : Option Nat) : Prop :=
  (w.ownsRow B e 1 v n xs ∧ r = v.ownBlock) ∨ (∃ g, v = .slice (some ⟨g, 0, none⟩) n n ∧ xs.length = n ∧ n ≤ maxLen ∧ CellRow w (some ⟨g, 0, none⟩) xs ∧ r = none)
theorem OwnFull.later {w w' : World} {B : Nat} {e : TypeId} {v : Value} {n : Nat} {xs : List Value} {r : Option Nat} (h : OwnFull w B e v n xs r) (hb : Below w.heap.size w w') : OwnFull w' B e v n xs r := by
  rcases h with ⟨h, hr⟩ | ⟨g, h1, h2, h3, h4, h5⟩
  · exact Or.inl ⟨own_later h hb, hr⟩
  · exact Or.inr ⟨g, h1, h2, h3, h4.later hb, h5⟩
end Go.Proofs.Ytcanlckenjndbaa
namespace Go.Proofs.Ytcanlckenjndbaa
open Go.RowKit
set_option linter.unusedVariables false
set_option linter.unusedSimpArgs false
theorem cl_info : (Try.prog.info? 3).map (fun i => (i.zero, i.size, i.bytes)) = some (some (.int .i64 0), 1, 8) := by kernel_rfl
theorem run_eql_slice_nil {P : Program} (w : World) (t e : TypeId) (a : Option Addr) (l c : Nat) (h : P.underlying t = some (.slice e)) : (binOp .eql t (.slice a l c) (.slice none 0 0)).run P w = .ok (.bool a.isNone) w := by
  simp only [binOp]
  simp [run_equal_slice_nil w t e a l c h]
set_option maxRecDepth 100000 in
theorem sl_Clone (a : Option Addr) (len cap : Nat) (xs : List Int) (w : World) (hr : IntRow w a len xs) (hlen : len ≤ 1000000000) :
    Calls Try.prog 63 #[.slice a len cap] w fun e w' => ∃ v, e = .returned v ∧ OwnInts w' w.heap.size v xs ∧ Below w.heap.size w w' := by
  have HL := Lib.hid hr.1
  have HR := Lib.hid hr
  cases a with
  | none =>
    have h0 : len = 0 := by
      rcases Nat.eq_zero_or_pos len with h | h
      · exact h
      · obtain ⟨b, off, h1, _⟩ := hr.2.2 h; cases h1
    have hx : xs = [] := List.length_eq_zero_iff.1 (hr.1.trans h0)
    subst hx
    have heq := fun w => run_eql_slice_nil (P := Try.prog) w 22 3 none len cap Try.underlying22
    clear hr h0
    go_enter Try.func63, Try.ntmps63
    go_wp2_with fail
    go_ret
    exact ⟨_, rfl, OwnInts.nil _ _, Below.refl _ _⟩
  | some ad =>
    have heq := fun w => run_eql_slice_nil (P := Try.prog) w 22 3 (some ad) len cap Try.underlying22
    clear hr
    go_enter Try.func63, Try.ntmps63
    go_wp2_with (at_builtin; refine wpList_app rfl _ _ 22 rfl w.heap.size 3 (.int .i64 0) 1 8 Try.underlying22 cl_info rfl (by decide) _ 0 [] rfl (own_built w w.heap.size 3 [] (Nat.le_refl _) (Nat.zero_le _)) (some ad) len cap (xs.map (Value.int .i64)) rfl (fun h => by cases h) (by rw [List.length_map, HL.out]; omega) ((HR.out.later (below_alloc (Below.refl _ _) _)).cells) (one_int · xs) (by unfold maxLen; omega) (by omega) (by rw [World.size_alloc]; omega) ?_)
    intro vw w1 hownw hgw
    have hB1 : Below w.heap.size w w1 := own_bel (below_alloc (Below.refl _ _) _) (own_built w w.heap.size 3 [] (Nat.le_refl _) (Nat.zero_le _)) hgw
    have hOW : OwnInts w1 w.heap.size vw xs := by unfold OwnInts; rw [HL.out]; simpa using hownw
    have HOW := Lib.hid hOW
    clear hownw hgw hOW
    go_wp2_with fail
    go_ret
    exact ⟨_, rfl, HOW.out, hB1⟩
end Go.Proofs.Ytcanlckenjndbaa
