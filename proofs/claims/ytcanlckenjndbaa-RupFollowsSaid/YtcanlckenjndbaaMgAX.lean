import Derived.Test.YtcanlckenjndbaaMgAW
import Derived.Test.YtcanlckenjndbaaMgAQ
import Derived.Test.YtcanlckenjndbaaMgAJ
namespace Go.Proofs.Ytcanlckenjndbaa
open Go.RowKit
set_option linter.unusedVariables false
set_option linter.unusedSimpArgs false
theorem PF_of_ownO {P : Program} {f : FuncId} {args : List AV} {xs : List Int} (hc : Callable P f) (h : ∀ G w vs, Inv G [] w → RL 0 G args vs → Calls P f vs.toArray w fun e w' => ∃ v, e = .returned v ∧ OwnInts w' w.heap.size v xs ∧ Below w.heap.size w w') : PF P f args fun r H' => r = .osl 0 0 xs.length 1 ∧ H' = [some ⟨3, xs.map lint⟩] :=
  ⟨hc, fun G w vs hi hr => (h G w vs hi hr).mono fun e w' ⟨v, h1, h2, h3⟩ => by
    have nod : ∀ o, ¬ G.dom o := fun o ho => by have := hi.dom o ho; simp at this
    have old : ∀ {b : Nat} {x : Obj}, w.heap[b]? = some x → w'.heap[b]? = some x := fun {b x} e => (h3.block b (lt_of_heap e)).trans e
    obtain ⟨k1, k2⟩ := h2
    rcases k2 with ⟨hv, hn⟩ | ⟨g, cap, cur, hv, hg, hh, hn, hm, hs, hx⟩
    · have hnil : xs = [] := List.length_eq_zero_iff.1 hn
      subst hnil
      refine ⟨v, _, { G with dom := fun o => o = 0, mu := fun _ => (0, 0), sz := fun _ => 0 }, _, h1, ⟨fun o ho => absurd ho (nod o), fun o ho => absurd ho (nod o), fun o ho => absurd ho (nod o), fun o ho => absurd ho (Nat.not_lt_zero o), fun _ _ e => e, fun _ _ e => e, fun b x y _ e => ⟨y, e⟩, rfl, rfl, rfl⟩, Nat.zero_le _, ⟨h3.os.trans hi.os, h3.tape.trans hi.tape, h3.output.trans hi.output, fun b x e => old (hi.fz b x e), fun b x e => old (hi.kp b x e), fun o ho => ?_, fun o x e => ?_, fun o x e => ?_, fun o o' x x' e e' hne z => absurd rfl z⟩, ?_, rfl, rfl⟩
      · have : o = 0 := ho
        subst this; simp
      · rcases o with _ | o
        · rfl
        · simp at e
      · rcases o with _ | o
        · simp at e; subst e; exact .inl ⟨rfl, rfl⟩
        · simp at e
      · rw [hv]; exact .onil 0 0 1 rfl
    · have hxl : (xs.map lint).length = xs.length := by simp
      have hcs : cur.size = cap := by rw [hs, Nat.mul_one]
      refine ⟨v, _, { G with dom := fun o => o = 0, mu := fun _ => (g, 0), sz := fun _ => cap }, _, h1, ⟨fun o ho => absurd ho (nod o), fun o ho => absurd ho (nod o), fun o ho => absurd ho (nod o), fun o ho => absurd ho (Nat.not_lt_zero o), fun _ _ e => e, fun _ _ e => e, fun b x y _ e => ⟨y, e⟩, rfl, rfl, rfl⟩, Nat.zero_le _, ⟨h3.os.trans hi.os, h3.tape.trans hi.tape, h3.output.trans hi.output, fun b x e => old (hi.fz b x e), fun b x e => old (hi.kp b x e), fun o ho => ?_, fun o x e => ?_, fun o x e => ?_, fun o o' x x' e e' hne z => ?_⟩, ?_, rfl, rfl⟩
      · have : o = 0 := ho
        subst this; simp
      · rcases o with _ | o
        · rfl
        · simp at e
      · rcases o with _ | o
        · simp at e; subst e
          by_cases hc0 : cap = 0
          · have hx0 : xs = [] := List.eq_nil_of_length_eq_zero (by omega : xs.length = 0)
            subst hx0
            exact .inl ⟨rfl, hc0⟩
          · refine .inr ⟨hc0, cur, hh, hcs, ⟨?_, fun i y u e1 e2 => ?_⟩, ?_, ?_, ?_⟩
            · show (xs.map lint).length = ((cur.toList.drop 0).take (xs.map lint).length).length
              simp; omega
            · have e2' : ((cur.toList.drop 0).take (xs.map lint).length)[i]? = some u := e2
              have e1' : (xs.map lint)[i]? = some y := e1
              rw [List.drop_zero, hxl, ← Nat.mul_one xs.length, hx, List.getElem?_map] at e2'
              rw [List.getElem?_map] at e1'
              obtain ⟨z, hz, rfl⟩ := Option.map_eq_some_iff.1 e1'
              rw [hz] at e2'
              simp at e2'; subst e2'
              exact .iv _ _ (.lit _)
            · show (xs.map lint).all AV.one = true
              rw [List.all_eq_true]; intro y hy; obtain ⟨z, _, rfl⟩ := List.mem_map.1 hy; rfl
            · show G.fz g = none
              cases hc : G.fz g with
              | none => rfl
              | some y => have := lt_of_heap (hi.fz g y hc); omega
            · show G.kp g = none
              cases hc : G.kp g with
              | none => rfl
              | some y => have := lt_of_heap (hi.kp g y hc); omega
        · simp at e
      · rcases o with _ | o
        · rcases o' with _ | o'
          · exact absurd rfl hne
          · simp at e'
        · simp at e
      · rw [hv]
        exact .osl 0 0 xs.length 1 g 0 cap rfl rfl (fun _ => rfl) hn hm (fun _ => by show 0 + cap * 1 ≤ cap; omega)⟩
theorem pf_CloneO (xs : List Int) (hl : xs.length ≤ 1000000) : PF Try.prog 63 [.iv (iInts xs)] fun r H' => r = .osl 0 0 xs.length 1 ∧ H' = [some ⟨3, xs.map lint⟩] :=
  PF_of_ownO ⟨_, Try.func63, by kernel_rfl, rfl⟩ fun G w vs hi hr => by
    obtain ⟨v1, us, rfl, h1, hr⟩ := hr.uncons
    rw [hr.unnil]
    cases h1 with
    | iv _ _ h1 =>
      obtain ⟨b, cb, rfl, _, _, h4⟩ := ints_row hi.fz (by unfold maxLen; omega) h1
      exact sl_Clone b _ cb xs w h4 (by omega)
end Go.Proofs.Ytcanlckenjndbaa
namespace Go.Proofs.Ytcanlckenjndbaa
set_option linter.unusedVariables false
inductive Dv (cs : List (List Int)) (l0 : List Int) : List Nat → List Int → Prop
  | nil : Dv cs l0 [] l0
  | snoc {is : List Nat} {L : List Int} {i : Nat} : Dv cs l0 is L → i < cs.length → aCl L (cs.getD i []) ≠ -1 → aUnitOk L (cs.getD i []) = true → Dv cs l0 (is ++ [i]) (L ++ [aUnit L (cs.getD i [])])
variable {cs : List (List Int)} {l0 L : List Int} {is : List Nat}
theorem Dv.len (h : Dv cs l0 is L) : L.length = l0.length + is.length := by
  induction h with
  | nil => simp
  | snoc _ _ _ _ ih => simp; omega
theorem Dv.chn (h : Dv cs l0 is L) : ∀ rest n, chn l0 (is.map (fun i => cs.getD i []) ++ rest) n = chn L rest (n + is.length) := by
  induction h with
  | nil => intro rest n; simp
  | @snoc is L i _ hi h1 h2 ih =>
    intro rest n
    rw [List.map_append, List.append_assoc, ih]
    show Go.Proofs.Ytcanlckenjndbaa.chn L (cs.getD i [] :: rest) _ = _
    rw [Go.Proofs.Ytcanlckenjndbaa.chn, if_neg h1, if_pos h2, List.length_append, List.length_singleton, Nat.add_assoc]
theorem Dv.sub (h : Dv cs l0 is L) : ∀ x ∈ l0, x ∈ L := by
  induction h with
  | nil => exact fun _ h => h
  | snoc _ _ _ _ ih => exact fun x hx => List.mem_append.2 (.inl (ih x hx))
def Con (L : List Int) : Prop := ∀ x, x ∈ L → lvar x ≠ 0 ∧ -x ∉ L
theorem aUnit_open {L c : List Int} (h : aUnitOk L c = true) : aUnit L c ∈ c ∧ aUnit L c ∉ L ∧ -(aUnit L c) ∉ L ∧ lvar (aUnit L c) ≠ 0 := by
  obtain ⟨u, _, h1, h2, h3, h4⟩ := aUnit_is h
  rw [h1]
  unfold aVal at h4
  rw [if_neg h3] at h4
  refine ⟨h2, fun hm => ?_, fun hm => ?_, h3⟩
  · rw [if_pos ((lhas_mem _ _).2 hm)] at h4; omega
  · by_cases e : lhas L u = true
    · rw [if_pos e] at h4; omega
    · rw [if_neg e, if_pos ((lhas_mem _ _).2 hm)] at h4; omega
def mOut (cs : List (List Int)) (L : List Int) : Nat := (cs.flatten.filter fun x => !lhas L x).length
theorem filter_lt {xs : List Int} {p q : Int → Bool} (h : ∀ x, q x = true → p x = true) {z : Int} (hz : z ∈ xs) (h1 : p z = true) (h2 : q z = false) : (xs.filter q).length < (xs.filter p).length := by
  induction xs with
  | nil => cases hz
  | cons x xs ih =>
    have hle : ∀ l : List Int, (l.filter q).length ≤ (l.filter p).length := fun l => by
      induction l with
      | nil => simp
      | cons y l ih2 =>
        rw [List.filter_cons, List.filter_cons]
        by_cases e : q y = true
        · rw [if_pos e, if_pos (h y e)]; simp; exact ih2
        · rw [if_neg e]; split
          · simp; omega
          · exact ih2
    rw [List.filter_cons, List.filter_cons]
    rcases List.mem_cons.1 hz with e | e
    · subst e
      rw [if_pos h1, if_neg (by rw [h2]; decide)]
      have := hle xs
      simp; omega
    · have := ih e
      by_cases e2 : q x = true
      · rw [if_pos e2, if_pos (h x e2)]; simp; exact this
      · rw [if_neg e2]; split
        · simp; omega
        · exact this
theorem mOut_lt {L : List Int} {i : Nat} (hi : i < cs.length) (h : aUnitOk L (cs.getD i []) = true) : mOut cs (L ++ [aUnit L (cs.getD i [])]) < mOut cs L := by
  obtain ⟨k1, k2, _, _⟩ := aUnit_open h
  have hm : cs.getD i [] ∈ cs := by simp [List.getD, hi]
  refine filter_lt (z := aUnit L (cs.getD i [])) (fun x hx => ?_) (List.mem_flatten.2 ⟨_, hm, k1⟩) ?_ ?_
  · rw [lhas_snoc] at hx
    cases e : lhas L x
    · rfl
    · rw [e] at hx; simp at hx
  · have : lhas L (aUnit L (cs.getD i [])) = false := by
      cases e : lhas L (aUnit L (cs.getD i []))
      · rfl
      · exact absurd ((lhas_mem _ _).1 e) k2
    rw [this]; rfl
  · rw [lhas_snoc]; simp
def Shut (cs : List (List Int)) (L : List Int) : Prop := ∀ i, i < cs.length → aCl L (cs.getD i []) ≠ -1 ∧ aUnitOk L (cs.getD i []) = false
def HintP (cs : List (List Int)) (c : List Int) (hs : List Nat) (ok : Bool) : Prop :=
  if stE c ≠ 0 then ok = false ∧ hs = [] else if ok = true then ∃ is L i, hs = is ++ [i] ∧ Dv cs (stR c) is L ∧ i < cs.length ∧ aCl L (cs.getD i []) = -1 else hs = [] ∧ ∃ is L, Dv cs (stR c) is L ∧ Shut cs L
def fdx (p : Nat → Bool) : Nat → Nat
  | 0 => 0
  | n + 1 => if fdx p n < n then fdx p n else if p n = true then n else n + 1
def fail1 (cs : List (List Int)) (L : List Int) : Nat := fdx (fun i => aCl L (cs.getD i []) == -1) cs.length
def unit1 (cs : List (List Int)) (L : List Int) : Nat := fdx (fun i => aUnitOk L (cs.getD i [])) cs.length
inductive Dc (cs : List (List Int)) (l0 : List Int) : List Nat → List Int → Prop
  | nil : Dc cs l0 [] l0
  | snoc {is : List Nat} {L : List Int} : Dc cs l0 is L → fail1 cs L = cs.length → unit1 cs L < cs.length → Dc cs l0 (is ++ [unit1 cs L]) (L ++ [aUnit L (cs.getD (unit1 cs L) [])])
end Go.Proofs.Ytcanlckenjndbaa
namespace Go.Proofs.Ytcanlckenjndbaa
set_option linter.unusedVariables false
theorem litT_lv {m : List Bool} {x : Int} (h : litT m x = true) : lvar x ≠ 0 := by
  unfold litT at h
  rw [Bool.and_eq_true, decide_eq_true_iff] at h; exact h.1
theorem litT_op {m : List Bool} {x : Int} (h : lvar x ≠ 0) : litT m (-x) = !litT m x := by
  have hr := lvar_range h
  have hn := lvar_neg x
  have hs : lside (-x) = !lside x := by
    unfold lside
    rw [hn]
    rw [Bool.eq_iff_iff, decide_eq_true_iff, Bool.not_eq_true', decide_eq_false_iff_not]
    have := hr.2.2
    constructor
    · rintro ⟨_, h2⟩ ⟨_, h3⟩; omega
    · intro h2; refine ⟨h, ?_⟩
      rcases Int.lt_trichotomy x 0 with h3 | h3 | h3
      · omega
      · omega
      · exact absurd ⟨h, h3⟩ h2
  unfold litT
  rw [hn, hs, decide_eq_true h, Bool.true_and, Bool.true_and]
  generalize (decide (lvar x ≤ m.length) && m.getD ((lvar x).toNat - 1) false) = a
  cases a <;> cases lside x <;> rfl
theorem hold_val {m : List Bool} {l h : List Int} (hl : ∀ x ∈ l, litT m x = true) (hh : holdsC m h = true) : ∃ x, x ∈ h ∧ litT m x = true ∧ (aIs l 1 x = true ∨ aIs l 0 x = true) := by
  obtain ⟨x, hx, ht⟩ := List.any_eq_true.1 hh
  have hv := litT_lv ht
  refine ⟨x, hx, ht, ?_⟩
  rw [aIs_iff, aIs_iff]
  rcases aVal_cases l x with ⟨h0, _⟩ | ⟨_, ⟨_, h1⟩ | ⟨_, h2, _⟩ | ⟨_, _, h3⟩⟩
  · exact absurd h0 hv
  · exact .inl ⟨hv, h1⟩
  · have := hl _ ((lhas_mem _ _).1 h2)
    rw [litT_op hv, ht] at this; cases this
  · exact .inr ⟨hv, h3⟩
theorem hold_cl {m : List Bool} {l h : List Int} (hl : ∀ x ∈ l, litT m x = true) (hh : holdsC m h = true) : aCl l h ≠ -1 := by
  obtain ⟨x, hx, _, h1⟩ := hold_val hl hh
  intro e
  obtain ⟨e1, e2⟩ := (aCl_iff l h).2.1 e
  rcases h1 with h1 | h1
  · have := (aN_pos l h 1).2 ⟨x, hx, h1⟩; omega
  · have := (aN_pos l h 0).2 ⟨x, hx, h1⟩; omega
theorem hold_unit {m : List Bool} {l h : List Int} (hl : ∀ x ∈ l, litT m x = true) (hh : holdsC m h = true) (hu : aUnitOk l h = true) : litT m (aUnit l h) = true := by
  obtain ⟨x, hx, ht, h1⟩ := hold_val hl hh
  have hu2 : aN l h 1 = 0 ∧ aN l h 0 = 1 := by unfold aUnitOk at hu; exact of_decide_eq_true hu
  rcases h1 with h1 | h1
  · have := (aN_pos l h 1).2 ⟨x, hx, h1⟩; omega
  · have h2 := (aIs_iff _ _ _).1 h1
    rw [aUnit_at hu hx h2.1 h2.2]; exact ht
theorem chn_ge : ∀ (l : List Int) (hs : List (List Int)) (i : Nat), i ≤ (chn l hs i).2.1
  | l, [], i => Nat.le_refl _
  | l, h :: hs, i => by
    unfold chn
    split
    · exact Nat.le_succ _
    · split
      · have := chn_ge (l ++ [aUnit l h]) hs (i + 1); omega
      · exact Nat.le_refl _
theorem chn_sound {m : List Bool} : ∀ (hs : List (List Int)) (l : List Int) (i : Nat), (∀ x ∈ l, litT m x = true) → (chn l hs i).2.2 = 0 → (hs.take ((chn l hs i).2.1 - i)).all (holdsC m) = true → False
  | [], l, i, _, h, _ => by unfold chn at h; exact absurd (show (23 : Int) = 0 from h) (by decide)
  | h :: hs, l, i, hl, he, ha => by
    unfold chn at he ha
    by_cases h1 : aCl l h = -1
    · rw [if_pos h1] at he ha
      have e : i + 1 - i = 1 := by omega
      dsimp only at ha
      rw [e, List.take_succ_cons, List.all_cons, Bool.and_eq_true] at ha
      exact hold_cl hl ha.1 h1
    · rw [if_neg h1] at he ha
      by_cases h2 : aUnitOk l h = true
      · rw [if_pos h2] at he ha
        have hge := chn_ge (l ++ [aUnit l h]) hs (i + 1)
        have e : (chn (l ++ [aUnit l h]) hs (i + 1)).2.1 - i = ((chn (l ++ [aUnit l h]) hs (i + 1)).2.1 - (i + 1)) + 1 := by omega
        rw [e, List.take_succ_cons, List.all_cons, Bool.and_eq_true] at ha
        refine chn_sound hs _ _ (fun x hx => ?_) he ha.2
        rcases List.mem_append.1 hx with h3 | h3
        · exact hl x h3
        · rw [List.mem_singleton] at h3; rw [h3]; exact hold_unit hl ha.1 h2
      · rw [if_neg h2] at he
        exact absurd (show (22 : Int) = 0 from he) (by decide)
theorem show_sound {m : List Bool} {c : List Int} {hs : List (List Int)} (he : shE8 c hs = 0) (ha : (hs.take (shN8 c hs)).all (holdsC m) = true) : holdsC m c = true := by
  rcases stE_cases c with ⟨_, e2⟩ | ⟨_, _, e2⟩ | ⟨e1, _, e2⟩
  · unfold shE8 at he; rw [if_neg (by rw [e2]; decide), e2] at he; exact absurd he (by decide)
  · unfold shE8 at he; rw [if_neg (by rw [e2]; decide), e2] at he; exact absurd he (by decide)
  · unfold shE8 at he; unfold shN8 at ha
    rw [if_pos e2] at he ha
    cases hc : holdsC m c with
    | true => rfl
    | false =>
      exfalso
      refine chn_sound hs (stR c) 0 (fun y hy => ?_) he ha
      unfold stR at hy
      rw [if_pos e2, stOut_mem (Nat.le_refl _), List.take_length] at hy
      have hv := stAny_no e1 hy
      have hf : litT m (-y) = false := by
        unfold holdsC at hc
        rw [List.any_eq_false] at hc
        have := hc _ hy
        simpa using this
      have := litT_op (m := m) hv
      rw [Int.neg_neg, hf] at this
      simpa using this
theorem shN8_le (c : List Int) (hs : List (List Int)) : shN8 c hs ≤ hs.length := by
  unfold shN8; split
  · have := (chn_len (stR c) hs 0).2; omega
  · exact Nat.zero_le _
end Go.Proofs.Ytcanlckenjndbaa
