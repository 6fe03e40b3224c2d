import Derived.Test.YtcjnikkmjhagmaaGreatDoorMgAA
import Derived.Test.YtcjnikkmjhagmaaGreatDoorRows
import Derived.WalkKit
import Derived.WalkSpells
import Derived.WalkLawsBesides
import Derived.BigGuardPart
import Derived.Handy
import Derived.Deep.QuietTactic
import Derived.BigQuiet
import Derived.Deep.RegionHeld3
import Derived.Lib.Hide
import Derived.Laws.Cover3
import Derived.Test.YtcjnikkmjhagmaaGreatDoorMgAH
import Derived.Test.YtcjnikkmjhagmaaGreatDoorMgAI
import Derived.Test.YtcjnikkmjhagmaaGreatDoorMgAN
namespace Go.Proofs.YtcjnikkmjhagmaaGreatDoor
open Go.RowKit
theorem own_built (w : World) (B : Nat) (e : TypeId) (vs : List Value) (hB : B ≤ w.heap.size) (hm : vs.length ≤ maxLen) : (w.alloc (.cells vs.toArray e)).ownsRow B e 1 (.slice (some ⟨w.heap.size, 0, none⟩) vs.length vs.length) vs.length vs :=
  ⟨by simp, .inr ⟨w.heap.size, vs.length, vs.toArray, rfl, hB, heap_alloc_new w _, Nat.le_refl _, hm, by simp, by simp⟩⟩
def GrownT (w w' : World) (B : Nat) (t : TypeId) : Prop := w'.heap.size ≥ w.heap.size ∧ ∀ k, k < w.heap.size → w'.heap[k]? = w.heap[k]? ∨ (B ≤ k ∧ ∃ cur, w.heap[k]? = some (.cells cur t (0, 0)))
def OwnFull (w : World) (B : Nat) (e : TypeId) (v : Value) (n : Nat) (xs : List Value) (r : Option Nat) : Prop :=
  (w.ownsRow B e 1 v n xs ∧ r = v.ownBlock) ∨ (∃ g, v = .slice (some ⟨g, 0, none⟩) n n ∧ xs.length = n ∧ n ≤ maxLen ∧ CellRow w (some ⟨g, 0, none⟩) xs ∧ r = none)
theorem OwnFull.later {w w' : World} {B : Nat} {e : TypeId} {v : Value} {n : Nat} {xs : List Value} {r : Option Nat} (h : OwnFull w B e v n xs r) (hb : Below w.heap.size w w') : OwnFull w' B e v n xs r := by
  rcases h with ⟨h, hr⟩ | ⟨g, h1, h2, h3, h4, h5⟩
  · exact Or.inl ⟨own_later h hb, hr⟩
  · exact Or.inr ⟨g, h1, h2, h3, h4.later hb, h5⟩
end Go.Proofs.YtcjnikkmjhagmaaGreatDoor
namespace Go.Proofs.YtcjnikkmjhagmaaGreatDoor
open Go.RowKit
set_option linter.unusedVariables false
set_option linter.unusedSimpArgs false
theorem cl_info : (Tryz.prog.info? 3).map (fun i => (i.zero, i.size, i.bytes)) = some (some (.int .i64 0), 1, 8) := by kernel_rfl
theorem run_eql_slice_nil {P : Program} (w : World) (t e : TypeId) (a : Option Addr) (l c : Nat) (h : P.underlying t = some (.slice e)) : (binOp .eql t (.slice a l c) (.slice none 0 0)).run P w = .ok (.bool a.isNone) w := by
  simp only [binOp]
  simp [run_equal_slice_nil w t e a l c h]
set_option maxRecDepth 100000 in
theorem sl_Clone (a : Option Addr) (len cap : Nat) (xs : List Int) (w : World) (hr : IntRow w a len xs) (hlen : len ≤ 1000000000) :
    Calls Tryz.prog 54 #[.slice a len cap] w fun e w' => ∃ v, e = .returned v ∧ OwnInts w' w.heap.size v xs ∧ Below w.heap.size w w' := by
  have HL := Lib.hid hr.1
  have HR := Lib.hid hr
  cases a with
  | none =>
    have h0 : len = 0 := by
      rcases Nat.eq_zero_or_pos len with h | h
      · exact h
      · obtain ⟨b, off, h1, _⟩ := hr.2.2 h; cases h1
    have hx : xs = [] := List.length_eq_zero_iff.1 (hr.1.trans h0)
    subst hx
    have heq := fun w => run_eql_slice_nil (P := Tryz.prog) w 57 3 none len cap Tryz.underlying57
    clear hr h0
    go_enter Tryz.func54, Tryz.ntmps54
    go_wp2_with fail
    go_ret
    exact ⟨_, rfl, OwnInts.nil _ _, Below.refl _ _⟩
  | some ad =>
    have heq := fun w => run_eql_slice_nil (P := Tryz.prog) w 57 3 (some ad) len cap Tryz.underlying57
    clear hr
    go_enter Tryz.func54, Tryz.ntmps54
    go_wp2_with (at_builtin; refine wpList_app rfl _ _ 57 rfl w.heap.size 3 (.int .i64 0) 1 8 Tryz.underlying57 cl_info rfl (by decide) _ 0 [] rfl (own_built w w.heap.size 3 [] (Nat.le_refl _) (Nat.zero_le _)) (some ad) len cap (xs.map (Value.int .i64)) rfl (fun h => by cases h) (by rw [List.length_map, HL.out]; omega) ((HR.out.later (below_alloc (Below.refl _ _) _)).cells) (one_int · xs) (by unfold maxLen; omega) (by omega) (by rw [World.size_alloc]; omega) ?_)
    intro vw w1 hownw hgw
    have hB1 : Below w.heap.size w w1 := own_bel (below_alloc (Below.refl _ _) _) (own_built w w.heap.size 3 [] (Nat.le_refl _) (Nat.zero_le _)) hgw
    have hOW : OwnInts w1 w.heap.size vw xs := by unfold OwnInts; rw [HL.out]; simpa using hownw
    have HOW := Lib.hid hOW
    clear hownw hgw hOW
    go_wp2_with fail
    go_ret
    exact ⟨_, rfl, HOW.out, hB1⟩
theorem pf_Clone (xs : List Int) (hl : xs.length ≤ 1000000) : PF Tryz.prog 54 [.iv (iInts xs)] fun r H' => r = .iv (iInts xs) ∧ H' = [] :=
  PF_of_own ⟨_, Tryz.func54, by kernel_rfl, rfl⟩ fun G w vs hi hr => by
    obtain ⟨u, us, rfl, h1, hr⟩ := hr.uncons
    rw [hr.unnil]
    cases h1 with
    | iv _ _ h1 =>
      obtain ⟨b, cb, rfl, _, _, h4⟩ := ints_row hi.fz (by unfold maxLen; omega) h1
      exact sl_Clone b _ cb xs w h4 (by omega)
end Go.Proofs.YtcjnikkmjhagmaaGreatDoor
namespace Go.Proofs.YtcjnikkmjhagmaaGreatDoor
def VC (V : Int) (c : List Int) : Prop := c.length ≤ 1000 ∧ (∀ x ∈ c, 1 ≤ (x.natAbs : Int) ∧ (x.natAbs : Int) ≤ V) ∧ (c.map Int.natAbs).Nodup
def nLit (n m : Int) (x : Bool × Int × Int × Int) : Int := if x.1 then nVar n m x.2.1 x.2.2.1 x.2.2.2 else -(nVar n m x.2.1 x.2.2.1 x.2.2.2)
theorem nLit_abs (n m : Int) (x : Bool × Int × Int × Int) : ((nLit n m x).natAbs : Int) = (nVar n m x.2.1 x.2.2.1 x.2.2.2).natAbs := by unfold nLit; split <;> simp
theorem nVar_inj' {n m k a b k' a' b' : Int} (h : nName n m k a b) (h' : nName n m k' a' b') (e : nVar n m k a b = nVar n m k' a' b') : k = k' ∧ a = a' ∧ b = b' := by
  have e1 := nOf_var h
  have e2 := nOf_var h'
  rw [e, e2] at e1
  simp only [Prod.mk.injEq] at e1
  exact ⟨e1.1.symm, e1.2.1.symm, e1.2.2.symm⟩
theorem vc_names {n m : Int} (L : List (Bool × Int × Int × Int)) (hl : L.length ≤ 1000) (hn : ∀ x ∈ L, nName n m x.2.1 x.2.2.1 x.2.2.2) (hd : (L.map (·.2)).Nodup) : VC (nVars n m) (L.map (nLit n m)) := by
  refine ⟨by simpa using hl, fun x hx => ?_, ?_⟩
  · obtain ⟨y, hy, rfl⟩ := List.mem_map.1 hx
    rw [nLit_abs]
    have := nVar_pos (hn y hy)
    omega
  · induction L with
    | nil => simp
    | cons y L ih =>
      simp only [List.map_cons, List.nodup_cons] at hd ⊢
      refine ⟨fun hm => hd.1 ?_, ih (by simp at hl; omega) (fun x hx => hn x (List.mem_cons_of_mem _ hx)) hd.2⟩
      obtain ⟨x, hx, he⟩ := List.mem_map.1 hm
      obtain ⟨z, hz, rfl⟩ := List.mem_map.1 hx
      have p1 := nVar_pos (hn y List.mem_cons_self)
      have p2 := nVar_pos (hn z (List.mem_cons_of_mem _ hz))
      have a1 := nLit_abs n m y
      have a2 := nLit_abs n m z
      have e : nVar n m z.2.1 z.2.2.1 z.2.2.2 = nVar n m y.2.1 y.2.2.1 y.2.2.2 := by omega
      obtain ⟨e1, e2, e3⟩ := nVar_inj' (hn z (List.mem_cons_of_mem _ hz)) (hn y List.mem_cons_self) e
      exact List.mem_map.2 ⟨z, hz, Prod.ext e1 (Prod.ext e2 e3)⟩
theorem nodup_mapR {α : Type} (f : Nat → α) (n : Nat) (h : ∀ i j, i < n → j < n → f i = f j → i = j) : ((List.range n).map f).Nodup := by
  induction n with
  | zero => simp
  | succ n ih =>
    rw [List.range_succ, List.map_append, List.nodup_append]
    refine ⟨ih fun i j hi hj => h i j (by omega) (by omega), by simp, fun a ha b hb => ?_⟩
    simp only [List.map_cons, List.map_nil, List.mem_singleton] at hb
    subst hb
    obtain ⟨i, hi, rfl⟩ := List.mem_map.1 ha
    intro e
    have := h i n (by have := List.mem_range.1 hi; omega) (by omega) e
    have := List.mem_range.1 hi
    omega
theorem vc_row {n m : Int} (g : Nat → Int × Int × Int) (N : Nat) (hN : N ≤ 1000) (hn : ∀ i, i < N → nName n m (g i).1 (g i).2.1 (g i).2.2) (hd : ∀ i j, i < N → j < N → g i = g j → i = j) : VC (nVars n m) ((List.range N).map fun i => nVar n m (g i).1 (g i).2.1 (g i).2.2) := by
  have h := vc_names (n := n) (m := m) ((List.range N).map fun i => (true, g i)) (by simpa using hN) (fun x hx => by
    obtain ⟨i, hi, rfl⟩ := List.mem_map.1 hx
    exact hn i (List.mem_range.1 hi)) (by
    rw [List.map_map]
    exact nodup_mapR _ N hd)
  rw [List.map_map] at h
  exact h
theorem vc_two {n m : Int} {x y : Int × Int × Int} (hx : nName n m x.1 x.2.1 x.2.2) (hy : nName n m y.1 y.2.1 y.2.2) (h : x ≠ y) : VC (nVars n m) [-(nVar n m x.1 x.2.1 x.2.2), -(nVar n m y.1 y.2.1 y.2.2)] :=
  vc_names [(false, x), (false, y)] (by simp) (by intro z hz; simp at hz; rcases hz with rfl | rfl; exact hx; exact hy) (by simp [h])
theorem vc_one {n m : Int} {x : Int × Int × Int} (hx : nName n m x.1 x.2.1 x.2.2) : VC (nVars n m) [nVar n m x.1 x.2.1 x.2.2] :=
  vc_names [(true, x)] (by simp) (by intro z hz; simp at hz; rcases hz with rfl; exact hx) (by simp)
end Go.Proofs.YtcjnikkmjhagmaaGreatDoor
