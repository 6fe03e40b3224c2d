import Derived.Test.YtfpmfjmjnmjcdaaMgAA
import Derived.Test.YtfpmfjmjnmjcdaaRows
import Derived.WalkKit
import Derived.WalkSpells
import Derived.WalkLawsBesides
import Derived.BigGuardPart
import Derived.Handy
import Derived.Deep.QuietTactic
import Derived.BigQuiet
import Derived.Deep.RegionHeld3
import Derived.Lib.Hide
import Derived.Laws.Cover3
import Derived.Test.YtfpmfjmjnmjcdaaMgAH
import Derived.Test.YtfpmfjmjnmjcdaaMgAI
namespace Go.Proofs.Ytfpmfjmjnmjcdaa
open Go.RowKit
theorem own_built (w : World) (B : Nat) (e : TypeId) (vs : List Value) (hB : B ≤ w.heap.size) (hm : vs.length ≤ maxLen) : (w.alloc (.cells vs.toArray e)).ownsRow B e 1 (.slice (some ⟨w.heap.size, 0, none⟩) vs.length vs.length) vs.length vs :=
  ⟨by simp, .inr ⟨w.heap.size, vs.length, vs.toArray, rfl, hB, heap_alloc_new w _, Nat.le_refl _, hm, by simp, by simp⟩⟩
def GrownT (w w' : World) (B : Nat) (t : TypeId) : Prop := w'.heap.size ≥ w.heap.size ∧ ∀ k, k < w.heap.size → w'.heap[k]? = w.heap[k]? ∨ (B ≤ k ∧ ∃ cur, w.heap[k]? = some (.cells cur t (0, 0)))
def OwnFull (w : World) (B : Nat) (e : TypeId) (v : Value) (n : Nat) (xs : List Value) (r : Option Nat) : Prop :=
  (w.ownsRow B e 1 v n xs ∧ r = v.ownBlock) ∨ (∃ g, v = .slice (some ⟨g, 0, none⟩) n n ∧ xs.length = n ∧ n ≤ maxLen ∧ CellRow w (some ⟨g, 0, none⟩) xs ∧ r = none)
theorem OwnFull.later {w w' : World} {B : Nat} {e : TypeId} {v : Value} {n : Nat} {xs : List Value} {r : Option Nat} (h : OwnFull w B e v n xs r) (hb : Below w.heap.size w w') : OwnFull w' B e v n xs r := by
  rcases h with ⟨h, hr⟩ | ⟨g, h1, h2, h3, h4, h5⟩
  · exact Or.inl ⟨own_later h hb, hr⟩
  · exact Or.inr ⟨g, h1, h2, h3, h4.later hb, h5⟩
end Go.Proofs.Ytfpmfjmjnmjcdaa
namespace Go.Proofs.Ytfpmfjmjnmjcdaa
open Go.RowKit
set_option linter.unusedVariables false
set_option linter.unusedSimpArgs false
theorem cl_info : (Try.prog.info? 3).map (fun i => (i.zero, i.size, i.bytes)) = some (some (.int .i64 0), 1, 8) := by kernel_rfl
theorem run_eql_slice_nil {P : Program} (w : World) (t e : TypeId) (a : Option Addr) (l c : Nat) (h : P.underlying t = some (.slice e)) : (binOp .eql t (.slice a l c) (.slice none 0 0)).run P w = .ok (.bool a.isNone) w := by
  simp only [binOp]
  simp [run_equal_slice_nil w t e a l c h]
set_option maxRecDepth 100000 in
theorem sl_Clone (a : Option Addr) (len cap : Nat) (xs : List Int) (w : World) (hr : IntRow w a len xs) (hlen : len ≤ 1000000000) :
    Calls Try.prog 33 #[.slice a len cap] w fun e w' => ∃ v, e = .returned v ∧ OwnInts w' w.heap.size v xs ∧ Below w.heap.size w w' := by
  have HL := Lib.hid hr.1
  have HR := Lib.hid hr
  cases a with
  | none =>
    have h0 : len = 0 := by
      rcases Nat.eq_zero_or_pos len with h | h
      · exact h
      · obtain ⟨b, off, h1, _⟩ := hr.2.2 h; cases h1
    have hx : xs = [] := List.length_eq_zero_iff.1 (hr.1.trans h0)
    subst hx
    have heq := fun w => run_eql_slice_nil (P := Try.prog) w 33 3 none len cap Try.underlying33
    clear hr h0
    go_enter Try.func33, Try.ntmps33
    go_wp2_with fail
    go_ret
    exact ⟨_, rfl, OwnInts.nil _ _, Below.refl _ _⟩
  | some ad =>
    have heq := fun w => run_eql_slice_nil (P := Try.prog) w 33 3 (some ad) len cap Try.underlying33
    clear hr
    go_enter Try.func33, Try.ntmps33
    go_wp2_with (at_builtin; refine wpList_app rfl _ _ 33 rfl w.heap.size 3 (.int .i64 0) 1 8 Try.underlying33 cl_info rfl (by decide) _ 0 [] rfl (own_built w w.heap.size 3 [] (Nat.le_refl _) (Nat.zero_le _)) (some ad) len cap (xs.map (Value.int .i64)) rfl (fun h => by cases h) (by rw [List.length_map, HL.out]; omega) ((HR.out.later (below_alloc (Below.refl _ _) _)).cells) (one_int · xs) (by unfold maxLen; omega) (by omega) (by rw [World.size_alloc]; omega) ?_)
    intro vw w1 hownw hgw
    have hB1 : Below w.heap.size w w1 := own_bel (below_alloc (Below.refl _ _) _) (own_built w w.heap.size 3 [] (Nat.le_refl _) (Nat.zero_le _)) hgw
    have hOW : OwnInts w1 w.heap.size vw xs := by unfold OwnInts; rw [HL.out]; simpa using hownw
    have HOW := Lib.hid hOW
    clear hownw hgw hOW
    go_wp2_with fail
    go_ret
    exact ⟨_, rfl, HOW.out, hB1⟩
end Go.Proofs.Ytfpmfjmjnmjcdaa
namespace Go.Proofs.Ytfpmfjmjnmjcdaa
open Go.RowKit
set_option linter.unusedVariables false
set_option linter.unusedSimpArgs false
theorem PF_of_ownO {P : Program} {f : FuncId} {args : List AV} {xs : List Int} (hc : Callable P f) (h : ∀ G w vs, Inv G [] w → RL 0 G args vs → Calls P f vs.toArray w fun e w' => ∃ v, e = .returned v ∧ OwnInts w' w.heap.size v xs ∧ Below w.heap.size w w') : PF P f args fun r H' => r = .osl 0 0 xs.length 1 ∧ H' = [some ⟨3, xs.map lint⟩] :=
  ⟨hc, fun G w vs hi hr => (h G w vs hi hr).mono fun e w' ⟨v, h1, h2, h3⟩ => by
    have nod : ∀ o, ¬ G.dom o := fun o ho => by have := hi.dom o ho; simp at this
    have old : ∀ {b : Nat} {x : Obj}, w.heap[b]? = some x → w'.heap[b]? = some x := fun {b x} e => (h3.block b (lt_of_heap e)).trans e
    obtain ⟨k1, k2⟩ := h2
    rcases k2 with ⟨hv, hn⟩ | ⟨g, cap, cur, hv, hg, hh, hn, hm, hs, hx⟩
    · have hnil : xs = [] := List.length_eq_zero_iff.1 hn
      subst hnil
      refine ⟨v, _, { G with dom := fun o => o = 0, mu := fun _ => (0, 0), sz := fun _ => 0 }, _, h1, ⟨fun o ho => absurd ho (nod o), fun o ho => absurd ho (nod o), fun o ho => absurd ho (nod o), fun o ho => absurd ho (Nat.not_lt_zero o), fun _ _ e => e, fun _ _ e => e, fun b x y _ e => ⟨y, e⟩, rfl, rfl, rfl⟩, Nat.zero_le _, ⟨h3.os.trans hi.os, h3.tape.trans hi.tape, h3.output.trans hi.output, fun b x e => old (hi.fz b x e), fun b x e => old (hi.kp b x e), fun o ho => ?_, fun o x e => ?_, fun o x e => ?_, fun o o' x x' e e' hne z => absurd rfl z⟩, ?_, rfl, rfl⟩
      · have : o = 0 := ho
        subst this; simp
      · rcases o with _ | o
        · rfl
        · simp at e
      · rcases o with _ | o
        · simp at e; subst e; exact .inl ⟨rfl, rfl⟩
        · simp at e
      · rw [hv]; exact .onil 0 0 1 rfl
    · have hxl : (xs.map lint).length = xs.length := by simp
      have hcs : cur.size = cap := by rw [hs, Nat.mul_one]
      refine ⟨v, _, { G with dom := fun o => o = 0, mu := fun _ => (g, 0), sz := fun _ => cap }, _, h1, ⟨fun o ho => absurd ho (nod o), fun o ho => absurd ho (nod o), fun o ho => absurd ho (nod o), fun o ho => absurd ho (Nat.not_lt_zero o), fun _ _ e => e, fun _ _ e => e, fun b x y _ e => ⟨y, e⟩, rfl, rfl, rfl⟩, Nat.zero_le _, ⟨h3.os.trans hi.os, h3.tape.trans hi.tape, h3.output.trans hi.output, fun b x e => old (hi.fz b x e), fun b x e => old (hi.kp b x e), fun o ho => ?_, fun o x e => ?_, fun o x e => ?_, fun o o' x x' e e' hne z => ?_⟩, ?_, rfl, rfl⟩
      · have : o = 0 := ho
        subst this; simp
      · rcases o with _ | o
        · rfl
        · simp at e
      · rcases o with _ | o
        · simp at e; subst e
          by_cases hc0 : cap = 0
          · have hx0 : xs = [] := List.eq_nil_of_length_eq_zero (by omega : xs.length = 0)
            subst hx0
            exact .inl ⟨rfl, hc0⟩
          · refine .inr ⟨hc0, cur, hh, hcs, ⟨?_, fun i y u e1 e2 => ?_⟩, ?_, ?_, ?_⟩
            · show (xs.map lint).length = ((cur.toList.drop 0).take (xs.map lint).length).length
              simp; omega
            · have e2' : ((cur.toList.drop 0).take (xs.map lint).length)[i]? = some u := e2
              have e1' : (xs.map lint)[i]? = some y := e1
              rw [List.drop_zero, hxl, ← Nat.mul_one xs.length, hx, List.getElem?_map] at e2'
              rw [List.getElem?_map] at e1'
              obtain ⟨z, hz, rfl⟩ := Option.map_eq_some_iff.1 e1'
              rw [hz] at e2'
              simp at e2'; subst e2'
              exact .iv _ _ (.lit _)
            · show (xs.map lint).all AV.one = true
              rw [List.all_eq_true]; intro y hy; obtain ⟨z, _, rfl⟩ := List.mem_map.1 hy; rfl
            · show G.fz g = none
              cases hc : G.fz g with
              | none => rfl
              | some y => have := lt_of_heap (hi.fz g y hc); omega
            · show G.kp g = none
              cases hc : G.kp g with
              | none => rfl
              | some y => have := lt_of_heap (hi.kp g y hc); omega
        · simp at e
      · rcases o with _ | o
        · rcases o' with _ | o'
          · exact absurd rfl hne
          · simp at e'
        · simp at e
      · rw [hv]
        exact .osl 0 0 xs.length 1 g 0 cap rfl rfl (fun _ => rfl) hn hm (fun _ => by show 0 + cap * 1 ≤ cap; omega)⟩
theorem pf_CloneO (xs : List Int) (hl : xs.length ≤ 1000000) : PF Try.prog 33 [.iv (iInts xs)] fun r H' => r = .osl 0 0 xs.length 1 ∧ H' = [some ⟨3, xs.map lint⟩] :=
  PF_of_ownO ⟨_, Try.func33, by kernel_rfl, rfl⟩ fun G w vs hi hr => by
    obtain ⟨v1, us, rfl, h1, hr⟩ := hr.uncons
    rw [hr.unnil]
    cases h1 with
    | iv _ _ h1 =>
      obtain ⟨b, cb, rfl, _, _, h4⟩ := ints_row hi.fz (by unfold maxLen; omega) h1
      exact sl_Clone b _ cb xs w h4 (by omega)
theorem pf_CloneS (xs : List Int) (hl : xs.length ≤ 1000000) {H : AHeap} {o : Nat} (ho : H[o]? = some (some ⟨3, xs.map lint⟩)) : SF Try.prog 33 [.osl o 0 xs.length 1] H fun r H' => r = .osl H.length 0 xs.length 1 ∧ H' = H ++ [some ⟨3, xs.map lint⟩] := by
  refine SF.mono (PF.snap (H := H) (args := [.osl o 0 xs.length 1]) (args1 := [.iv (iInts xs)]) (SnapL.cons (.iv _ _ (SnapC.lits (fun j => .int .i64 (xs.getD j 0)) ho fun j hj => ?_)) (SnapL.nil _)) ?_ (pf_CloneO xs hl)) ?_
  · rw [Nat.zero_add]; simp [List.getD, hj, lint]
  · rintro r H1 ⟨rfl, rfl⟩
    refine ⟨.osl _ _ _ _, fun o x e j y hy => ?_⟩
    rcases o with _ | o
    · simp at e; subst e
      simp only [List.getElem?_map] at hy
      obtain ⟨z, _, rfl⟩ := Option.map_eq_some_iff.1 hy
      exact .lit _
    · simp at e
  · rintro r H' ⟨r1, H1, ⟨rfl, rfl⟩, rfl, rfl⟩
    refine ⟨rfl, ?_⟩
    unfold renH
    simp only [List.map_cons, List.map_nil, Option.map_some, renL_map, List.map_map]
    rfl
end Go.Proofs.Ytfpmfjmjnmjcdaa
