import Derived.Test.YtcjnikkmjhagmaaGreatDoorMgAK
import Derived.Test.YtcjnikkmjhagmaaGreatDoorMgAA
import Derived.Test.YtcjnikkmjhagmaaGreatDoorRows
import Derived.WalkKit
import Derived.WalkSpells
import Derived.WalkLawsBesides
import Derived.BigGuardPart
import Derived.Handy
import Derived.Deep.QuietTactic
import Derived.BigQuiet
import Derived.Deep.RegionHeld3
import Derived.Lib.Hide
import Derived.Laws.Cover3
import Derived.Test.YtcjnikkmjhagmaaGreatDoorMgAH
import Derived.Test.YtcjnikkmjhagmaaGreatDoorMgAI
namespace Go.Proofs.YtcjnikkmjhagmaaGreatDoor
variable {P : Program} {m : Nat} {Q : Exit → XS → Prop}
theorem Inv.recell {G : Gh} {H : AHeap} {w : World} (h : Inv G H w) {o : Nat} {x : AObj} (ho : H[o]? = some (some x)) (hne : x.cells ≠ []) (xs : List AV) (hl : xs.length = x.cells.length) (h1 : xs.all AV.one = true) (hx : ∀ vs, RL H.length G x.cells vs → RL H.length G xs vs) : Inv G (H.set o (some ⟨x.t, xs⟩)) w := by
  have holt : o < H.length := (List.getElem?_eq_some_iff.1 ho).1
  have hlen : (H.set o (some ⟨x.t, xs⟩)).length = H.length := List.length_set
  have back : ∀ q z, (H.set o (some ⟨x.t, xs⟩))[q]? = some (some z) → ∃ z', H[q]? = some (some z') := fun q z hq => by
    by_cases hq2 : q = o
    · subst hq2; exact ⟨x, ho⟩
    · rw [List.getElem?_set_ne (Ne.symm hq2)] at hq; exact ⟨z, hq⟩
  refine ⟨h.os, h.tape, h.output, h.fz, h.kp, fun q hq => by rw [hlen]; exact h.dom q hq, fun q z e => by obtain ⟨z', hz'⟩ := back q z e; exact h.live q z' hz', fun o' y e => ?_, fun o1 o2 y y' e e' hne' => by
    obtain ⟨z, hz⟩ := back o1 y e
    obtain ⟨z', hz'⟩ := back o2 y' e'
    exact h.inj o1 o2 z z' hz hz' hne'⟩
  rw [hlen]
  by_cases hoo : o' = o
  · subst hoo
    rw [List.getElem?_set_self holt] at e
    simp only [Option.some.injEq] at e; subst e
    obtain ⟨k0, cs, k1, k2, k3, k4, k5, k6⟩ := h.real ho hne
    exact .inr ⟨k0, cs, k1, k2, by rw [hl]; exact hx _ k3, h1, k5, k6⟩
  · rw [List.getElem?_set_ne (Ne.symm hoo)] at e
    exact h.obj o' y e
theorem Leads.cellNil {s : AS} {S : AS → Prop} (o q t sz : Nat) (y : AObj) (ho : s.H[o]? = some (some ⟨t, [lt (.slice none 0 0)]⟩)) (hq : s.H[q]? = some (some y)) (h : S ⟨s.fr, s.H.set o (some ⟨t, [.osl q 0 0 sz]⟩)⟩) : Leads m s S := fun G a w hm hr => by
  refine ⟨G, _, Gh.leb.refl _ _, by show m ≤ (s.H.set _ _).length; rw [List.length_set]; exact hm, ⟨hr.defers, ?_, ?_⟩, h⟩
  · show RL (s.H.set _ _).length _ _ _
    rw [List.length_set]; exact hr.fr
  · refine hr.inv.recell ho (by simp) [.osl q 0 0 sz] rfl rfl fun vs hv => ?_
    obtain ⟨v, us, rfl, h1, h2⟩ := hv.uncons
    rw [h2.unnil]
    have := h1.lit_inv; subst this
    exact RL.cons (.onil q 0 sz (hr.inv.live q y hq)) (RL.nil _ _)
theorem AX_cellNil {fr : List AV} {H : AHeap} {M : MS} {c : Code} (o q t sz : Nat) (y : AObj) (ho : H[o]? = some (some ⟨t, [lt (.slice none 0 0)]⟩)) (hq : H[q]? = some (some y)) (h : AX P m c Q ⟨fr, H.set o (some ⟨t, [.osl q 0 0 sz]⟩), M⟩) : AX P m c Q ⟨fr, H, M⟩ :=
  AX_lead (S := fun s1 => s1 = ⟨fr, H.set o (some ⟨t, [.osl q 0 0 sz]⟩), M⟩) (.of (.cellNil o q t sz y ho hq rfl)) fun s' e => by rw [e]; exact h
end Go.Proofs.YtcjnikkmjhagmaaGreatDoor
namespace Go.Proofs.YtcjnikkmjhagmaaGreatDoor
open Go.RowKit
theorem own_built (w : World) (B : Nat) (e : TypeId) (vs : List Value) (hB : B ≤ w.heap.size) (hm : vs.length ≤ maxLen) : (w.alloc (.cells vs.toArray e)).ownsRow B e 1 (.slice (some ⟨w.heap.size, 0, none⟩) vs.length vs.length) vs.length vs :=
  ⟨by simp, .inr ⟨w.heap.size, vs.length, vs.toArray, rfl, hB, heap_alloc_new w _, Nat.le_refl _, hm, by simp, by simp⟩⟩
def GrownT (w w' : World) (B : Nat) (t : TypeId) : Prop := w'.heap.size ≥ w.heap.size ∧ ∀ k, k < w.heap.size → w'.heap[k]? = w.heap[k]? ∨ (B ≤ k ∧ ∃ cur, w.heap[k]? = some (.cells cur t (0, 0)))
def OwnFull (w : World) (B : Nat) (e : TypeId) (v : Value) (n : Nat) (xs : List Value) (r : Option Nat) : Prop :=
  (w.ownsRow B e 1 v n xs ∧ r = v.ownBlock) ∨ (∃ g, v = .slice (some ⟨g, 0, none⟩) n n ∧ xs.length = n ∧ n ≤ maxLen ∧ CellRow w (some ⟨g, 0, none⟩) xs ∧ r = none)
theorem OwnFull.later {w w' : World} {B : Nat} {e : TypeId} {v : Value} {n : Nat} {xs : List Value} {r : Option Nat} (h : OwnFull w B e v n xs r) (hb : Below w.heap.size w w') : OwnFull w' B e v n xs r := by
  rcases h with ⟨h, hr⟩ | ⟨g, h1, h2, h3, h4, h5⟩
  · exact Or.inl ⟨own_later h hb, hr⟩
  · exact Or.inr ⟨g, h1, h2, h3, h4.later hb, h5⟩
end Go.Proofs.YtcjnikkmjhagmaaGreatDoor
namespace Go.Proofs.YtcjnikkmjhagmaaGreatDoor
open Go.RowKit
set_option linter.unusedVariables false
set_option linter.unusedSimpArgs false
theorem cl_info : (Tryz.prog.info? 3).map (fun i => (i.zero, i.size, i.bytes)) = some (some (.int .i64 0), 1, 8) := by kernel_rfl
theorem run_eql_slice_nil {P : Program} (w : World) (t e : TypeId) (a : Option Addr) (l c : Nat) (h : P.underlying t = some (.slice e)) : (binOp .eql t (.slice a l c) (.slice none 0 0)).run P w = .ok (.bool a.isNone) w := by
  simp only [binOp]
  simp [run_equal_slice_nil w t e a l c h]
set_option maxRecDepth 100000 in
theorem sl_Clone (a : Option Addr) (len cap : Nat) (xs : List Int) (w : World) (hr : IntRow w a len xs) (hlen : len ≤ 1000000000) :
    Calls Tryz.prog 54 #[.slice a len cap] w fun e w' => ∃ v, e = .returned v ∧ OwnInts w' w.heap.size v xs ∧ Below w.heap.size w w' := by
  have HL := Lib.hid hr.1
  have HR := Lib.hid hr
  cases a with
  | none =>
    have h0 : len = 0 := by
      rcases Nat.eq_zero_or_pos len with h | h
      · exact h
      · obtain ⟨b, off, h1, _⟩ := hr.2.2 h; cases h1
    have hx : xs = [] := List.length_eq_zero_iff.1 (hr.1.trans h0)
    subst hx
    have heq := fun w => run_eql_slice_nil (P := Tryz.prog) w 57 3 none len cap Tryz.underlying57
    clear hr h0
    go_enter Tryz.func54, Tryz.ntmps54
    go_wp2_with fail
    go_ret
    exact ⟨_, rfl, OwnInts.nil _ _, Below.refl _ _⟩
  | some ad =>
    have heq := fun w => run_eql_slice_nil (P := Tryz.prog) w 57 3 (some ad) len cap Tryz.underlying57
    clear hr
    go_enter Tryz.func54, Tryz.ntmps54
    go_wp2_with (at_builtin; refine wpList_app rfl _ _ 57 rfl w.heap.size 3 (.int .i64 0) 1 8 Tryz.underlying57 cl_info rfl (by decide) _ 0 [] rfl (own_built w w.heap.size 3 [] (Nat.le_refl _) (Nat.zero_le _)) (some ad) len cap (xs.map (Value.int .i64)) rfl (fun h => by cases h) (by rw [List.length_map, HL.out]; omega) ((HR.out.later (below_alloc (Below.refl _ _) _)).cells) (one_int · xs) (by unfold maxLen; omega) (by omega) (by rw [World.size_alloc]; omega) ?_)
    intro vw w1 hownw hgw
    have hB1 : Below w.heap.size w w1 := own_bel (below_alloc (Below.refl _ _) _) (own_built w w.heap.size 3 [] (Nat.le_refl _) (Nat.zero_le _)) hgw
    have hOW : OwnInts w1 w.heap.size vw xs := by unfold OwnInts; rw [HL.out]; simpa using hownw
    have HOW := Lib.hid hOW
    clear hownw hgw hOW
    go_wp2_with fail
    go_ret
    exact ⟨_, rfl, HOW.out, hB1⟩
theorem pf_Clone (xs : List Int) (hl : xs.length ≤ 1000000) : PF Tryz.prog 54 [.iv (iInts xs)] fun r H' => r = .iv (iInts xs) ∧ H' = [] :=
  PF_of_own ⟨_, Tryz.func54, by kernel_rfl, rfl⟩ fun G w vs hi hr => by
    obtain ⟨u, us, rfl, h1, hr⟩ := hr.uncons
    rw [hr.unnil]
    cases h1 with
    | iv _ _ h1 =>
      obtain ⟨b, cb, rfl, _, _, h4⟩ := ints_row hi.fz (by unfold maxLen; omega) h1
      exact sl_Clone b _ cb xs w h4 (by omega)
end Go.Proofs.YtcjnikkmjhagmaaGreatDoor
