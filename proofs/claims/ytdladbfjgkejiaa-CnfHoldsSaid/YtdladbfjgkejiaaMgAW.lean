import Derived.Orders
import Derived.OrdersHeld
import Derived.WalkKit
import Derived.Test.YtdladbfjgkejiaaMgAA
import Derived.Test.YtdladbfjgkejiaaMgAT
import Derived.Test.YtdladbfjgkejiaaMgAV
import Derived.Test.YtdladbfjgkejiaaMgAF
import Derived.Test.YtdladbfjgkejiaaMgAI
import Derived.Test.YtdladbfjgkejiaaMgAS
import Derived.Test.YtdladbfjgkejiaaMgAQ
namespace Go.Proofs.Ytdladbfjgkejiaa
set_option linter.unusedVariables false
section
variable {P : Program} {ops : Array Oper} {Q : Exit → Act → World → Prop} {md : Region.Mode}

/-- A later world: what there was is there. -/
def Later (w w' : World) : Prop := RowKit.Below w.heap.size w w'
theorem Later.refl (w : World) : Later w w := RowKit.Below.refl _ _
theorem Later.trans {a b c : World} (h : Later a b) (k : Later b c) : Later a c := below_step h k
/-- What a run of one operation gives: a value and a world, of which R holds; a call of a function may be among them. -/
def Gives (P : Program) (R : Value → World → Prop) : Result Next → Prop
  | .ok (.value u) w' => R u w'
  | .ok .skip w' => R undef w'
  | .ok (.enter f args) w' => Calls P f args w' fun e w'' => ∃ u, e = .returned u ∧ R u w''
  | _ => False
theorem gives_value {R : Value → World → Prop} {v : Value} {r : Result Next} {w' : World} (h : r = .ok (.value v) w') (hR : R v w') : Gives P R r := by subst h; exact hR
theorem gives_skip {R : Value → World → Prop} {r : Result Next} {w' : World} (h : r = .ok .skip w') (hR : R undef w') : Gives P R r := by subst h; exact hR
theorem gives_enter {R : Value → World → Prop} {f : FuncId} {args : Array Value} {r : Result Next} {w' : World} (h : r = .ok (.enter f args) w') (hc : Calls P f args w' fun e w'' => ∃ u, e = .returned u ∧ R u w'') : Gives P R r := by subst h; exact hc
/-- One value, whatever the world. -/
def Same (v : Value) (w : World) : Value → World → Prop := fun u w' => u = v ∧ Later w w'
def GivesIf (P : Program) (ops : Array Oper) (w : World) (o : Oper) (v : Value) (a : Act) : Prop :=
  (Region.wanted o (yielded ops a.tmps) = true ∧ ∀ w1, Later w w1 → Gives P (Same v w1) ((execOp a.eval o).run P w1)) ∨ (Region.wanted o (yielded ops a.tmps) = false ∧ v = undef)

theorem Gives.wpOp {i : Nat} {o : Oper} {a : Act} (hi : ops[i]? = some o) (hw : Region.wanted o (yielded ops a.tmps) = true) {R : Value → World → Prop} {K : Act → World → Prop} {w : World}
    (hg : Gives P R ((execOp a.eval o).run P w)) (h : ∀ u w', R u w' → K (a.put o.dst u) w') : wpOp P ops Q i K a w := by
  unfold Go.wpOp
  rw [hi]
  refine (if_pos hw).mpr (Or.inl ?_)
  unfold Oper.wp
  generalize (execOp a.eval o).run P w = r at hg ⊢
  match r, hg with
  | .ok (.value u) w', hg => exact h _ _ hg
  | .ok .skip w', hg => exact h _ _ hg
  | .ok (.enter f args) w', hg =>
    refine Calls.mono hg fun e w'' he => ?_
    obtain ⟨u, rfl, h2⟩ := he
    exact h _ _ h2
theorem GivesIf.wpOp {i : Nat} {o : Oper} {v : Value} {a : Act} (hi : ops[i]? = some o) {w : World} (hy : GivesIf P ops w o v a)
    {K : Act → World → Prop} (h : ∀ w', Later w w' → K (a.put o.dst v) w') : wpOp P ops Q i K a w := by
  rcases hy with ⟨hw, hv⟩ | ⟨hw, rfl⟩
  · exact Gives.wpOp hi hw (hv w (Later.refl w)) fun u w' hR => by obtain ⟨rfl, h2⟩ := hR; exact h _ h2
  · unfold Go.wpOp
    rw [hi]
    exact (if_neg (by rw [hw]; decide)).mpr (h w (Later.refl w))

/-- Another operation, apart from it, runs the same behind it, and leaves what it looks at. -/
theorem wpOp_behind {j : Nat} {oi oj : Oper} {v : Value} (hj : ops[j]? = some oj) (hap : oi.apart ops oj = true) (hsi : ∀ cs b, oi.op ≠ .select cs b) (hsj : ∀ cs b, oj.op ≠ .select cs b)
    (hQ : ∀ c a w, Q (.panic c) (a.put oi.dst v) w → Q (.panic c) a w) {K : Act → World → Prop} {a : Act} {w : World} (h : wpOp P ops Q j K (a.put oi.dst v) w) :
    wpOp P ops Q j (fun a' w' => K (a'.put oi.dst v) w' ∧ execOp a'.eval oi = execOp a.eval oi ∧ Region.wanted oi (yielded ops a'.tmps) = Region.wanted oi (yielded ops a.tmps)) a w := by
  obtain ⟨p1, p2, p3⟩ := Oper.apart_spec hap
  have e1 := execOp_put oj hsj a oi.dst v p1
  have e2 := wanted_put oj a oi.dst v p1
  have fin : ∀ u w', K ((a.put oi.dst v).put oj.dst u) w' → (K ((a.put oj.dst u).put oi.dst v) w' ∧ execOp (a.put oj.dst u).eval oi = execOp a.eval oi ∧ Region.wanted oi (yielded ops (a.put oj.dst u).tmps) = Region.wanted oi (yielded ops a.tmps)) :=
    fun u w' hk => ⟨by rw [← Act.put_comm a v u p2]; exact hk, execOp_put oi hsi a oj.dst u p3, wanted_put oi a oj.dst u p3⟩
  unfold wpOp at h ⊢
  rw [hj] at h ⊢
  dsimp only at h ⊢
  rw [e2] at h
  by_cases hw : Region.wanted oj (yielded ops a.tmps) = true
  · rw [if_pos hw] at h ⊢
    rcases h with h | ⟨h, hl⟩
    · refine Or.inl ?_
      unfold Oper.wp at h ⊢
      rw [e1] at h
      generalize (execOp a.eval oj).run P w = r at h ⊢
      match r, h with
      | .ok (.value u) w', h => exact fin u w' h
      | .ok .skip w', h => exact fin undef w' h
      | .ok (.defer d) w', h =>
        have h' : K ((({ a with defers := d :: a.defers } : Act).put oi.dst v).put oj.dst undef) w' := by rw [← Act.put_defers]; exact h
        refine ⟨?_, execOp_put (ops := ops) oi hsi { a with defers := d :: a.defers } oj.dst undef p3, wanted_put (ops := ops) oi { a with defers := d :: a.defers } oj.dst undef p3⟩
        rw [← Act.put_comm _ v undef p2]; exact h'
      | .ok (.enter f args) w', h =>
        refine Calls.mono h fun e w'' he => ?_
        match e, he with
        | .returned u, he => exact fin u w'' he
        | .panicked c, he => exact hQ _ _ _ he
        | .outgrown, he => exact he
      | .ok (.row row args) w', h => exact Rows.mono h fun u w'' he => fin u w'' he
      | .halt (.panic u) w', h => exact hQ _ _ _ h
    · refine Or.inr ⟨?_, hl⟩
      unfold Oper.asks at h ⊢
      rw [e1] at h; exact h
  · rw [if_neg hw] at h ⊢
    exact fin undef w h

/-- An operation that waits for all the others. -/
def Lastly (md : Region.Mode) (ops : Array Oper) (j : Nat) : Bool :=
  match ops[j]? with
  | none => false
  | some oj => (List.range ops.size).all fun k => k == j || oj.after.any fun e => Region.binds md e && e.on == k
theorem lastly_listed {j i : Nat} (h : Lastly md ops j = true) {oj : Oper} (hj : ops[j]? = some oj) (hi : i < ops.size) (hne : i ≠ j) {listed : Array Bool} (hall : ∀ e ∈ oj.after, Region.binds md e = true → listed.getD e.on false = true) : listed.getD i false = true := by
  unfold Lastly at h
  rw [hj] at h
  simp only [List.all_eq_true, List.mem_range, Bool.or_eq_true, beq_iff_eq] at h
  rcases h i hi with h | h
  · exact absurd h hne
  · obtain ⟨e, he, hb⟩ := Array.any_eq_true'.1 h
    simp only [Bool.and_eq_true, beq_iff_eq] at hb
    rw [← hb.2]
    exact hall e he hb.1
/-- Whatever order is picked from here on, in whatever later worlds. -/
def wpAnyL (P : Program) (md : Region.Mode) (ops : Array Oper) (Q : Exit → Act → World → Prop) : Nat → Array Bool → Act → World → Prop
  | 0, listed, a, w => Region.ready md ops listed = [] ∧ Q .normal a w
  | fuel + 1, listed, a, w => (Region.ready md ops listed = [] → Q .normal a w) ∧
    ∀ i ∈ Region.ready md ops listed, wpOp P ops Q i (fun a' w' => (Later w w' ∧ ∀ w'', Later w' w'' → wpAnyL P md ops Q fuel (listed.setIfInBounds i true) a' w'') ∨ (Lastly md ops i = true ∧ Region.ready md ops (listed.setIfInBounds i true) = [] ∧ Q .normal a' w')) a w
def Behind (P : Program) (md : Region.Mode) (ops : Array Oper) (Q : Exit → Act → World → Prop) (fuel : Nat) (listed : Array Bool) (i : Nat) (w : World) : Act → World → Prop := fun a' w' =>
  (Later w w' ∧ ∀ w'', Later w' w'' → wpAnyL P md ops Q fuel (listed.setIfInBounds i true) a' w'') ∨ (Lastly md ops i = true ∧ Region.ready md ops (listed.setIfInBounds i true) = [] ∧ Q .normal a' w')
theorem wpAny_end {listed : Array Bool} {a : Act} {w : World} (hr : Region.ready md ops listed = []) (h : Q .normal a w) : ∀ fuel, wpAny P md ops Q fuel listed a w
  | 0 => ⟨hr, h⟩
  | _ + 1 => ⟨fun _ => h, by rw [hr]; simp⟩
theorem wpAny_of_later : ∀ (fuel : Nat) (listed : Array Bool) (a : Act) (w : World), wpAnyL P md ops Q fuel listed a w → wpAny P md ops Q fuel listed a w
  | 0, _, _, _, h => h
  | fuel + 1, _, _, _, h => ⟨h.1, fun i hi => wpOp_mono (fun a' w' h' => by
      rcases h' with h' | h'
      · exact wpAny_of_later fuel _ a' w' (h'.2 w' (Later.refl w'))
      · exact wpAny_end h'.2.1 h'.2.2 fuel) (h.2 i hi)⟩
theorem GivesIf.later {w w' : World} {o : Oper} {v : Value} {a : Act} (h : GivesIf P ops w o v a) (hw : Later w w') : GivesIf P ops w' o v a :=
  h.imp (fun ⟨h1, h2⟩ => ⟨h1, fun w1 h3 => h2 w1 (hw.trans h3)⟩) id
theorem wpAnyL_first {i : Nat} {oi : Oper} {v : Value} (hi : ops[i]? = some oi) (hsel : ∀ (j : Nat) (o : Oper) cs b, ops[j]? = some o → o.op ≠ .select cs b) (hQ : ∀ c a w, Q (.panic c) (a.put oi.dst v) w → Q (.panic c) a w) :
    ∀ (fuel : Nat) (listed : Array Bool) (a : Act) (w : World),
      (∀ j oj, ops[j]? = some oj → j ≠ i → listed.getD j true = false → (∀ e ∈ oj.after, Region.binds md e = true → e.on ≠ i) → oi.apart ops oj = true) →
      i ∈ Region.ready md ops listed → GivesIf P ops w oi v a → (∀ w', Later w w' → wpAnyL P md ops Q fuel (listed.setIfInBounds i true) (a.put oi.dst v) w') → wpAnyL P md ops Q (fuel + 1) listed a w
  | 0, listed, a, w, hfree, hr, hy, H => ⟨fun h => (by rw [h] at hr; cases hr), fun j hj => by
      by_cases hji : j = i
      · subst hji; exact hy.wpOp hi fun w' h' => Or.inl ⟨h', fun w'' h'' => H w'' (h'.trans h'')⟩
      · have h2 := ready_mono hj hji
        rw [(H w (Later.refl w)).1] at h2
        cases h2⟩
  | fuel + 1, listed, a, w, hfree, hr, hy, H => ⟨fun h => (by rw [h] at hr; cases hr), fun j hj => by
      by_cases hji : j = i
      · subst hji; exact hy.wpOp hi fun w' h' => Or.inl ⟨h', fun w'' h'' => H w'' (h'.trans h'')⟩
      · have h1 := (H w (Later.refl w)).2 j (ready_mono hj hji)
        obtain ⟨hun, oj, hoj, hall⟩ := mem_ready.1 hj
        have hin := (mem_ready.1 hr).1
        have hnot : ∀ e ∈ oj.after, Region.binds md e = true → e.on ≠ i := fun e he hb heq => by
          have h3 := hall e he hb
          rw [heq] at h3
          by_cases hlt : i < listed.size
          · simp [hlt] at h3 hin; rw [hin] at h3; cases h3
          · simp [hlt] at h3
        have hap := hfree j oj hoj hji hun hnot
        refine wpOp_mono (fun a' w' h3 => ?_) (wpOp_behind hoj hap (fun cs b => hsel i oi cs b hi) (fun cs b => hsel j oj cs b hoj) hQ h1)
        obtain ⟨h45, h6, h7⟩ := h3
        rcases h45 with ⟨h4, h5⟩ | ⟨hl, _, _⟩
        case inr =>
          have hli := lastly_listed hl hoj (Array.getElem?_eq_some_iff.1 hi).1 (Ne.symm hji) hall
          exfalso
          by_cases hlt : i < listed.size
          · simp [hlt] at hli hin; rw [hin] at hli; cases hli
          · simp [hlt] at hli
        refine Or.inl ⟨h4, fun w'' h'' => wpAnyL_first hi hsel hQ fuel _ a' w'' (fun k ok hk hki hkun hkno => hfree k ok hk hki ?_ hkno) (ready_mono hr (Ne.symm hji)) ?_ (fun w3 hw3 => ?_)⟩
        · by_cases hjk : j = k
          · subst hjk; exact hun
          · rw [getD_set_ne true hjk] at hkun; exact hkun
        · have hy2 := hy.later (h4.trans h'')
          unfold GivesIf at hy2 ⊢
          rw [h6, h7]; exact hy2
        · rw [Array.setIfInBounds_comm _ _ hji]; exact h5 w3 (h''.trans hw3)⟩
/-- One operation, taken first: it gives v in whatever later world. -/
theorem wpAnyL_take (i : Nat) {oi : Oper} {v : Value} {fuel : Nat} {listed : Array Bool} {a : Act} {w : World} (hi : ops[i]? = some oi)
    (hs : Region.noSelect ops = true) (hf : Region.free md ops listed i = true) (hr : (Region.ready md ops listed).contains i = true)
    (hQ : ∀ c a w, Q (.panic c) (a.put oi.dst v) w → Q (.panic c) a w) (hy : GivesIf P ops w oi v a)
    (h : ∀ w', Later w w' → wpAnyL P md ops Q fuel (listed.setIfInBounds i true) (a.put oi.dst v) w') : wpAnyL P md ops Q (fuel + 1) listed a w :=
  wpAnyL_first hi (Region.noSelect_spec hs) hQ fuel listed a w (Region.free_spec hi hf) (by simpa using hr) hy h
/-- What is to be shown behind an operation that is branched over. -/
def Then (P : Program) (md : Region.Mode) (ops : Array Oper) (Q : Exit → Act → World → Prop) (fuel : Nat) (listed : Array Bool) (i : Nat) (d : Option Tmp) (a : Act) (w : World) : Value → World → Prop := fun u w' =>
  Later w w' ∧ ∀ w'', Later w' w'' → wpAnyL P md ops Q fuel (listed.setIfInBounds i true) (a.put d u) w''
theorem wpAnyL_one (i : Nat) {oi : Oper} {fuel : Nat} {listed : Array Bool} {a : Act} {w : World} (hi : ops[i]? = some oi) (hr : Region.ready md ops listed = [i])
    (hw : Region.wanted oi (yielded ops a.tmps) = true) (h : Gives P (Then P md ops Q fuel listed i oi.dst a w) ((execOp a.eval oi).run P w)) : wpAnyL P md ops Q (fuel + 1) listed a w :=
  ⟨fun h0 => (by rw [hr] at h0; cases h0), fun j hj => by
    rw [hr, List.mem_singleton] at hj
    subst hj
    exact Gives.wpOp hi hw h fun u w' hR => Or.inl hR⟩
theorem wpAnyL_two (i j : Nat) {oi oj : Oper} {fuel : Nat} {listed : Array Bool} {a : Act} {w : World} (hi : ops[i]? = some oi) (hj : ops[j]? = some oj) (hr : Region.ready md ops listed = [i, j])
    (hw : Region.wanted oi (yielded ops a.tmps) = true) (hw2 : Region.wanted oj (yielded ops a.tmps) = true)
    (h : Gives P (Then P md ops Q fuel listed i oi.dst a w) ((execOp a.eval oi).run P w)) (h2 : Gives P (Then P md ops Q fuel listed j oj.dst a w) ((execOp a.eval oj).run P w)) : wpAnyL P md ops Q (fuel + 1) listed a w :=
  ⟨fun h0 => (by rw [hr] at h0; cases h0), fun k hk => by
    rw [hr] at hk
    rcases List.mem_cons.1 hk with hk | hk
    · subst hk; exact Gives.wpOp hi hw h fun u w' hR => Or.inl hR
    · rw [List.mem_singleton] at hk; subst hk; exact Gives.wpOp hj hw2 h2 fun u w' hR => Or.inl hR⟩
/-- One operation that alone may come up, by the walk's own step: K is what is to be shown behind it. -/
theorem wpAnyL_step (i : Nat) {oi : Oper} {fuel : Nat} {listed : Array Bool} {a : Act} {w : World} (hi : ops[i]? = some oi) (hr : Region.ready md ops listed = [i]) (hw : Region.wanted oi (yielded ops a.tmps) = true)
    (h : ∀ K : Act → World → Prop, (∀ a' w', (Later w w' ∧ ∀ w'', Later w' w'' → wpAnyL P md ops Q fuel (listed.setIfInBounds i true) a' w'') → K a' w') → if Region.wanted oi (yielded ops a.tmps) = true then Oper.wp P oi a w K Q else True) : wpAnyL P md ops Q (fuel + 1) listed a w :=
  ⟨fun h0 => (by rw [hr] at h0; cases h0), fun j hj => by
    rw [hr, List.mem_singleton] at hj
    subst hj
    have h1 := h (Behind P md ops Q fuel listed _ w) (fun a' w' hk => Or.inl hk)
    rw [if_pos hw] at h1
    unfold wpOp
    rw [hi]
    exact (if_pos hw).mpr (Or.inl h1)⟩
/-- The last operation: whatever it does to the world. -/
theorem wpAnyL_last (i : Nat) {oi : Oper} {fuel : Nat} {listed : Array Bool} {a : Act} {w : World} (hi : ops[i]? = some oi) (hr : Region.ready md ops listed = [i]) (hw : Region.wanted oi (yielded ops a.tmps) = true) (hl : Lastly md ops i = true) (he : Region.ready md ops (listed.setIfInBounds i true) = [])
    (h : ∀ K : Act → World → Prop, (∀ a' w', Q .normal a' w' → K a' w') → if Region.wanted oi (yielded ops a.tmps) = true then Oper.wp P oi a w K Q else True) : wpAnyL P md ops Q (fuel + 1) listed a w :=
  ⟨fun h0 => (by rw [hr] at h0; cases h0), fun j hj => by
    rw [hr, List.mem_singleton] at hj
    subst hj
    have h1 := h (Behind P md ops Q fuel listed _ w) (fun a' w' hk => Or.inr ⟨hl, he, hk⟩)
    rw [if_pos hw] at h1
    unfold wpOp
    rw [hi]
    exact (if_pos hw).mpr (Or.inl h1)⟩
/-- Either of two may come up. -/
theorem wpAnyL_both (i j : Nat) {oi oj : Oper} {fuel : Nat} {listed : Array Bool} {a : Act} {w : World} (hi : ops[i]? = some oi) (hj : ops[j]? = some oj) (hr : Region.ready md ops listed = [i, j]) (hw : Region.wanted oi (yielded ops a.tmps) = true) (hw2 : Region.wanted oj (yielded ops a.tmps) = true)
    (h : ∀ K : Act → World → Prop, (∀ a' w', (Later w w' ∧ ∀ w'', Later w' w'' → wpAnyL P md ops Q fuel (listed.setIfInBounds i true) a' w'') → K a' w') → if Region.wanted oi (yielded ops a.tmps) = true then Oper.wp P oi a w K Q else True)
    (h2 : ∀ K : Act → World → Prop, (∀ a' w', (Later w w' ∧ ∀ w'', Later w' w'' → wpAnyL P md ops Q fuel (listed.setIfInBounds j true) a' w'') → K a' w') → if Region.wanted oj (yielded ops a.tmps) = true then Oper.wp P oj a w K Q else True) : wpAnyL P md ops Q (fuel + 1) listed a w :=
  ⟨fun h0 => (by rw [hr] at h0; cases h0), fun k hk => by
    rw [hr] at hk
    rcases List.mem_cons.1 hk with hk | hk
    · subst hk
      have h1 := h (Behind P md ops Q fuel listed _ w) (fun a' w' hk => Or.inl hk)
      rw [if_pos hw] at h1
      unfold wpOp
      rw [hi]
      exact (if_pos hw).mpr (Or.inl h1)
    · rw [List.mem_singleton] at hk
      subst hk
      have h1 := h2 (Behind P md ops Q fuel listed _ w) (fun a' w' hk => Or.inl hk)
      rw [if_pos hw2] at h1
      unfold wpOp
      rw [hj]
      exact (if_pos hw2).mpr (Or.inl h1)⟩
theorem wpAnyL_done {listed : Array Bool} {a : Act} {w : World} (hr : Region.ready md ops listed = []) (h : Q .normal a w) : ∀ fuel, wpAnyL P md ops Q fuel listed a w
  | 0 => ⟨hr, h⟩
  | _ + 1 => ⟨fun _ => h, by rw [hr]; simp⟩
theorem later_drew (w : World) : Later w w.drew := below_drew (RowKit.Below.refl _ _)
theorem wp_region_later {id : Nat} {a : Act} {w : World} (hm : P.follows .mixedOrders = true)
    (h : ∀ w', Later w w' → wpAnyL P .any ops Q ops.size (Array.replicate ops.size false) a w') : (Code.region id ops true).wp P Q a w :=
  wp_region_any hm (wpAny_of_later _ _ _ _ (h _ (later_drew w)))
end
end Go.Proofs.Ytdladbfjgkejiaa
namespace Go.Proofs.Ytdladbfjgkejiaa
open Go.RowKit
set_option linter.unusedVariables false
set_option linter.unusedSimpArgs false

theorem few_short {xss : List (List Int)} (h : fFew xss = true) : xss.length ≤ 200 ∧ ShortR xss 50 := by
  unfold fFew at h
  simp only [Bool.and_eq_true, decide_eq_true_eq] at h
  refine ⟨h.1, fun c hc => ?_⟩
  have := List.all_eq_true.1 h.2 c hc
  simpa using this
set_option maxRecDepth 100000 in
set_option maxHeartbeats 8000000 in
theorem cnfValues_walk0 (haw : ∀ W, Calls Try.prog 7 #[] W fun e w' => e = .returned (.bool true) ∧ Below W.heap.size W w') (w : World) (vars : Int) (a : Option Addr) (len cap : Nat) (xss : List (List Int)) (hr : Rows2 w a len xss) (hfr : FitsR' xss)
    (ma : Option Addr) (ml mc : Nat) (m : List Bool) (hm : BoolRow w ma ml m) (la : Option Addr) (ll lc : Nat) (l : List Int) (hl : IntRow w la ll l) (hfl : Fits' l) :
    Calls Try.prog 3 #[.agg #[.int .i64 vars, .slice a len cap], .slice ma ml mc, .slice la ll lc] w fun e w' => e = .returned (.bool true) ∧ Below w.heap.size w w' := by
  have HAW := Lib.hid haw
  have HFR := Lib.hid hfr; have HFL := Lib.hid hfl
  have hb1 : Below w.heap.size w (w.alloc (.cells #[.int .i64 vars, .slice a len cap] 24)) := below_alloc (Below.refl _ _) _
  have hc1 := Blk.made w #[.int .i64 vars, .slice a len cap] 24
  generalize hw1 : w.alloc (.cells #[.int .i64 vars, .slice a len cap] 24) = w1 at *
  have HW1 := Lib.hid hw1
  have e0 := hc1.cell 0; have e1 := hc1.cell 1
  have HC1 := Lib.hid hc1
  simp only [List.getElem?_toArray, List.getElem?_cons_zero, List.getElem?_cons_succ] at e0 e1
  have HR := Lib.hid (hr.later hb1); have HM := Lib.hid (hm.later hb1); have HL := Lib.hid (hl.later hb1)
  have HB := Lib.hid hb1
  have d5 : decide (300 < (ml : Int)) = decide (300 < ml) := by rw [Bool.eq_iff_iff]; simp; omega
  have d6 : decide (200 < (ll : Int)) = decide (200 < ll) := by rw [Bool.eq_iff_iff]; simp; omega
  clear hr hm hl hfr hfl haw hw1 hc1
  by_cases h1 : fFew xss = true
  · have HS := Lib.hid (few_short h1)
    have H1 := Lib.hid h1
    clear h1
    by_cases h2 : 300 < ml
    · rw [decide_eq_true h2] at d5
      clear d6 h2
      go_enter Try.func3, Try.ntmps3
      go_wp2_with fail
      rw [HW1.out]
      refine (law_Few vars a len cap xss w1 HR.out).mono ?_
      rintro e w2 ⟨rfl, hb2⟩
      rw [H1.out]
      go_wp2_with fail
      refine (HAW.out w2).mono ?_
      rintro e w3 ⟨rfl, hb3⟩
      go_wp2_with fail
      go_returns
      exact ⟨rfl, below_step HB.out (below_step hb2 hb3)⟩
    by_cases h3 : 200 < ll
    · rw [decide_eq_true h3] at d6
      rw [decide_eq_false h2] at d5
      clear h2 h3
      go_enter Try.func3, Try.ntmps3
      go_wp2_with fail
      rw [HW1.out]
      refine (law_Few vars a len cap xss w1 HR.out).mono ?_
      rintro e w2 ⟨rfl, hb2⟩
      rw [H1.out]
      go_wp2_with fail
      refine (HAW.out w2).mono ?_
      rintro e w3 ⟨rfl, hb3⟩
      go_wp2_with fail
      go_returns
      exact ⟨rfl, below_step HB.out (below_step hb2 hb3)⟩
    · rw [decide_eq_false h2] at d5
      rw [decide_eq_false h3] at d6
      have HN := Lib.hid (show ll ≤ 1000000 by omega)
      clear h2 h3 hb1
      go_enter Try.func3, Try.ntmps3
      go_wp2_with fail
      rw [HW1.out]
      refine (law_Few vars a len cap xss w1 HR.out).mono ?_
      rintro e w2 ⟨rfl, hb2⟩
      rw [H1.out]

      go_wp2_with fail
      have E0 := Lib.hid e0; have E1 := Lib.hid e1
      clear e0 e1 d5 d6
      refine wp_region_later (by kernel_rfl) (fun wk0 hn => ?_)
      have hB : Later w1 wk0 := Later.trans (hb2) hn
      clear hn
      refine wpAnyL_take 0 (oi := ?_) (v := ?_) ?_ (by kernel_rfl) (by kernel_rfl) (by kernel_rfl) ?_ (Or.inl ⟨?_, fun wz hy => ?_⟩) (fun wk1 hn => ?_)
      rotate_left 2
      focus
        simp only [List.getElem?_toArray, List.getElem?_cons_succ, List.getElem?_cons_zero]
        rfl
      focus exact fun _ _ _ h => h
      focus rfl
      focus
        have hz : Later w1 wz := Later.trans hB hy
        have e0 := cell_later hz E0.out; have e1 := cell_later hz E1.out
        refine gives_value (w' := wz) ?_ ⟨rfl, Later.refl _⟩
        go_simp
        try with_reducible rfl
      replace hB : Later w1 wk1 := Later.trans hB hn
      clear hn
      try clear wk0
      try simp only [Act.put, List.setIfInBounds_toArray, List.set_cons_zero, List.set_cons_succ]
      refine wpAnyL_take 1 (oi := ?_) (v := ?_) ?_ (by kernel_rfl) (by kernel_rfl) (by kernel_rfl) ?_ (Or.inl ⟨?_, fun wz hy => ?_⟩) (fun wk2 hn => ?_)
      rotate_left 2
      focus
        simp only [List.getElem?_toArray, List.getElem?_cons_succ, List.getElem?_cons_zero]
        rfl
      focus exact fun _ _ _ h => h
      focus rfl
      focus
        have hz : Later w1 wz := Later.trans hB hy
        have e0 := cell_later hz E0.out; have e1 := cell_later hz E1.out
        refine gives_value (w' := wz) ?_ ⟨rfl, Later.refl _⟩
        go_simp
        try with_reducible rfl
      replace hB : Later w1 wk2 := Later.trans hB hn
      clear hn
      try clear wk1
      try simp only [Act.put, List.setIfInBounds_toArray, List.set_cons_zero, List.set_cons_succ]
      refine wpAnyL_take 2 (oi := ?_) (v := ?_) ?_ (by kernel_rfl) (by kernel_rfl) (by kernel_rfl) ?_ (Or.inl ⟨?_, fun wz hy => ?_⟩) (fun wk3 hn => ?_)
      rotate_left 2
      focus
        simp only [List.getElem?_toArray, List.getElem?_cons_succ, List.getElem?_cons_zero]
        rfl
      focus exact fun _ _ _ h => h
      focus rfl
      focus
        have hz : Later w1 wz := Later.trans hB hy
        refine gives_enter (w' := wz) ?_ (Calls.mono (cnf_First vars a len cap xss ma ml mc m wz (HR.out.later hz) (HM.out.later hz)) ?_)
        focus
          go_simp
          try with_reducible rfl
        rintro e w2 ⟨rfl, hb⟩; refine ⟨_, rfl, ?_, hb⟩; rfl
      replace hB : Later w1 wk3 := Later.trans hB hn
      clear hn
      try clear wk2
      try simp only [Act.put, List.setIfInBounds_toArray, List.set_cons_zero, List.set_cons_succ]
      refine wpAnyL_take 3 (oi := ?_) (v := ?_) ?_ (by kernel_rfl) (by kernel_rfl) (by kernel_rfl) ?_ (Or.inl ⟨?_, fun wz hy => ?_⟩) (fun wk4 hn => ?_)
      rotate_left 2
      focus
        simp only [List.getElem?_toArray, List.getElem?_cons_succ, List.getElem?_cons_zero]
        rfl
      focus exact fun _ _ _ h => h
      focus rfl
      focus
        have hz : Later w1 wz := Later.trans hB hy
        have e0 := cell_later hz E0.out; have e1 := cell_later hz E1.out
        refine gives_value (w' := wz) ?_ ⟨rfl, Later.refl _⟩
        go_simp
        try with_reducible rfl
      replace hB : Later w1 wk4 := Later.trans hB hn
      clear hn
      try clear wk3
      try simp only [Act.put, List.setIfInBounds_toArray, List.set_cons_zero, List.set_cons_succ]
      refine wpAnyL_take 4 (oi := ?_) (v := ?_) ?_ (by kernel_rfl) (by kernel_rfl) (by kernel_rfl) ?_ (Or.inl ⟨?_, fun wz hy => ?_⟩) (fun wk5 hn => ?_)
      rotate_left 2
      focus
        simp only [List.getElem?_toArray, List.getElem?_cons_succ, List.getElem?_cons_zero]
        rfl
      focus exact fun _ _ _ h => h
      focus rfl
      focus
        have hz : Later w1 wz := Later.trans hB hy
        have e0 := cell_later hz E0.out; have e1 := cell_later hz E1.out
        refine gives_value (w' := wz) ?_ ⟨rfl, Later.refl _⟩
        go_simp
        try with_reducible rfl
      replace hB : Later w1 wk5 := Later.trans hB hn
      clear hn
      try clear wk4
      try simp only [Act.put, List.setIfInBounds_toArray, List.set_cons_zero, List.set_cons_succ]
      refine wpAnyL_take 5 (oi := ?_) (v := ?_) ?_ (by kernel_rfl) (by kernel_rfl) (by kernel_rfl) ?_ (Or.inl ⟨?_, fun wz hy => ?_⟩) (fun wk6 hn => ?_)
      rotate_left 2
      focus
        simp only [List.getElem?_toArray, List.getElem?_cons_succ, List.getElem?_cons_zero]
        rfl
      focus exact fun _ _ _ h => h
      focus rfl
      focus
        have hz : Later w1 wz := Later.trans hB hy
        refine gives_enter (w' := wz) ?_ (Calls.mono (ref_First04 vars a len cap xss ma ml mc m wz (HR.out.later hz) (HM.out.later hz)) ?_)
        focus
          go_simp
          try with_reducible rfl
        rintro e w2 ⟨rfl, hb⟩; refine ⟨_, rfl, ?_, hb⟩; rfl
      replace hB : Later w1 wk6 := Later.trans hB hn
      clear hn
      try clear wk5
      try simp only [Act.put, List.setIfInBounds_toArray, List.set_cons_zero, List.set_cons_succ]
      refine wpAnyL_take 6 (oi := ?_) (v := ?_) ?_ (by kernel_rfl) (by kernel_rfl) (by kernel_rfl) ?_ (Or.inl ⟨?_, fun wz hy => ?_⟩) (fun wk7 hn => ?_)
      rotate_left 2
      focus
        simp only [List.getElem?_toArray, List.getElem?_cons_succ, List.getElem?_cons_zero]
        rfl
      focus exact fun _ _ _ h => h
      focus rfl
      focus
        have hz : Later w1 wz := Later.trans hB hy
        have e0 := cell_later hz E0.out; have e1 := cell_later hz E1.out
        refine gives_value (w' := wz) ?_ ⟨rfl, Later.refl _⟩
        go_simp
        try with_reducible rfl
      replace hB : Later w1 wk7 := Later.trans hB hn
      clear hn
      try clear wk6
      try simp only [Act.put, List.setIfInBounds_toArray, List.set_cons_zero, List.set_cons_succ]
      refine wpAnyL_take 7 (oi := ?_) (v := ?_) ?_ (by kernel_rfl) (by kernel_rfl) (by kernel_rfl) ?_ (Or.inl ⟨?_, fun wz hy => ?_⟩) (fun wk8 hn => ?_)
      rotate_left 2
      focus
        simp only [List.getElem?_toArray, List.getElem?_cons_succ, List.getElem?_cons_zero]
        rfl
      focus exact fun _ _ _ h => h
      focus rfl
      focus
        have hz : Later w1 wz := Later.trans hB hy
        have e0 := cell_later hz E0.out; have e1 := cell_later hz E1.out
        refine gives_value (w' := wz) ?_ ⟨rfl, Later.refl _⟩
        go_simp
        try with_reducible rfl
      replace hB : Later w1 wk8 := Later.trans hB hn
      clear hn
      try clear wk7
      try simp only [Act.put, List.setIfInBounds_toArray, List.set_cons_zero, List.set_cons_succ]
      refine wpAnyL_take 8 (oi := ?_) (v := ?_) ?_ (by kernel_rfl) (by kernel_rfl) (by kernel_rfl) ?_ (Or.inl ⟨?_, fun wz hy => ?_⟩) (fun wk9 hn => ?_)
      rotate_left 2
      focus
        simp only [List.getElem?_toArray, List.getElem?_cons_succ, List.getElem?_cons_zero]
        rfl
      focus exact fun _ _ _ h => h
      focus rfl
      focus
        have hz : Later w1 wz := Later.trans hB hy
        have e0 := cell_later hz E0.out; have e1 := cell_later hz E1.out
        refine gives_value (w' := wz) ?_ ⟨rfl, Later.refl _⟩
        go_simp
        try with_reducible rfl
      replace hB : Later w1 wk9 := Later.trans hB hn
      clear hn
      try clear wk8
      try simp only [Act.put, List.setIfInBounds_toArray, List.set_cons_zero, List.set_cons_succ]
      refine wpAnyL_take 9 (oi := ?_) (v := ?_) ?_ (by kernel_rfl) (by kernel_rfl) (by kernel_rfl) ?_ (Or.inl ⟨?_, fun wz hy => ?_⟩) (fun wk10 hn => ?_)
      rotate_left 2
      focus
        simp only [List.getElem?_toArray, List.getElem?_cons_succ, List.getElem?_cons_zero]
        rfl
      focus exact fun _ _ _ h => h
      focus rfl
      focus
        have hz : Later w1 wz := Later.trans hB hy
        have e0 := cell_later hz E0.out; have e1 := cell_later hz E1.out
        refine gives_value (w' := wz) ?_ ⟨rfl, Later.refl _⟩
        go_simp
        try with_reducible rfl
      replace hB : Later w1 wk10 := Later.trans hB hn
      clear hn
      try clear wk9
      try simp only [Act.put, List.setIfInBounds_toArray, List.set_cons_zero, List.set_cons_succ]
      refine wpAnyL_take 10 (oi := ?_) (v := ?_) ?_ (by kernel_rfl) (by kernel_rfl) (by kernel_rfl) ?_ (Or.inl ⟨?_, fun wz hy => ?_⟩) (fun wk11 hn => ?_)
      rotate_left 2
      focus
        simp only [List.getElem?_toArray, List.getElem?_cons_succ, List.getElem?_cons_zero]
        rfl
      focus exact fun _ _ _ h => h
      focus rfl
      focus
        have hz : Later w1 wz := Later.trans hB hy
        refine gives_enter (w' := wz) ?_ (Calls.mono (cnf_Holds vars a len cap xss ma ml mc m wz (HR.out.later hz) (HM.out.later hz)) ?_)
        focus
          go_simp
          try with_reducible rfl
        rintro e w2 ⟨rfl, hb⟩; refine ⟨_, rfl, ?_, hb⟩; rfl
      replace hB : Later w1 wk11 := Later.trans hB hn
      clear hn
      try clear wk10
      try simp only [Act.put, List.setIfInBounds_toArray, List.set_cons_zero, List.set_cons_succ]
      refine wpAnyL_take 11 (oi := ?_) (v := ?_) ?_ (by kernel_rfl) (by kernel_rfl) (by kernel_rfl) ?_ (Or.inl ⟨?_, fun wz hy => ?_⟩) (fun wk12 hn => ?_)
      rotate_left 2
      focus
        simp only [List.getElem?_toArray, List.getElem?_cons_succ, List.getElem?_cons_zero]
        rfl
      focus exact fun _ _ _ h => h
      focus rfl
      focus
        have hz : Later w1 wz := Later.trans hB hy
        have e0 := cell_later hz E0.out; have e1 := cell_later hz E1.out
        refine gives_value (w' := wz) ?_ ⟨rfl, Later.refl _⟩
        go_simp
        try with_reducible rfl
      replace hB : Later w1 wk12 := Later.trans hB hn
      clear hn
      try clear wk11
      try simp only [Act.put, List.setIfInBounds_toArray, List.set_cons_zero, List.set_cons_succ]
      refine wpAnyL_take 12 (oi := ?_) (v := ?_) ?_ (by kernel_rfl) (by kernel_rfl) (by kernel_rfl) ?_ (Or.inl ⟨?_, fun wz hy => ?_⟩) (fun wk13 hn => ?_)
      rotate_left 2
      focus
        simp only [List.getElem?_toArray, List.getElem?_cons_succ, List.getElem?_cons_zero]
        rfl
      focus exact fun _ _ _ h => h
      focus rfl
      focus
        have hz : Later w1 wz := Later.trans hB hy
        have e0 := cell_later hz E0.out; have e1 := cell_later hz E1.out
        refine gives_value (w' := wz) ?_ ⟨rfl, Later.refl _⟩
        go_simp
        try with_reducible rfl
      replace hB : Later w1 wk13 := Later.trans hB hn
      clear hn
      try clear wk12
      try simp only [Act.put, List.setIfInBounds_toArray, List.set_cons_zero, List.set_cons_succ]
      refine wpAnyL_take 13 (oi := ?_) (v := ?_) ?_ (by kernel_rfl) (by kernel_rfl) (by kernel_rfl) ?_ (Or.inl ⟨?_, fun wz hy => ?_⟩) (fun wk14 hn => ?_)
      rotate_left 2
      focus
        simp only [List.getElem?_toArray, List.getElem?_cons_succ, List.getElem?_cons_zero]
        rfl
      focus exact fun _ _ _ h => h
      focus rfl
      focus
        have hz : Later w1 wz := Later.trans hB hy
        refine gives_enter (w' := wz) ?_ (Calls.mono (ref_Holds04 vars a len cap xss ma ml mc m wz (HR.out.later hz) (HM.out.later hz)) ?_)
        focus
          go_simp
          try with_reducible rfl
        rintro e w2 ⟨rfl, hb⟩; refine ⟨_, rfl, ?_, hb⟩; rfl
      replace hB : Later w1 wk14 := Later.trans hB hn
      clear hn
      try clear wk13
      try simp only [Act.put, List.setIfInBounds_toArray, List.set_cons_zero, List.set_cons_succ]
      refine wpAnyL_take 14 (oi := ?_) (v := ?_) ?_ (by kernel_rfl) (by kernel_rfl) (by kernel_rfl) ?_ (Or.inl ⟨?_, fun wz hy => ?_⟩) (fun wk15 hn => ?_)
      rotate_left 2
      focus
        simp only [List.getElem?_toArray, List.getElem?_cons_succ, List.getElem?_cons_zero]
        rfl
      focus exact fun _ _ _ h => h
      focus rfl
      focus
        have hz : Later w1 wz := Later.trans hB hy
        have e0 := cell_later hz E0.out; have e1 := cell_later hz E1.out
        refine gives_value (w' := wz) ?_ ⟨rfl, Later.refl _⟩
        go_simp
        try with_reducible rfl
      replace hB : Later w1 wk15 := Later.trans hB hn
      clear hn
      try clear wk14
      try simp only [Act.put, List.setIfInBounds_toArray, List.set_cons_zero, List.set_cons_succ]
      refine wpAnyL_take 15 (oi := ?_) (v := ?_) ?_ (by kernel_rfl) (by kernel_rfl) (by kernel_rfl) ?_ (Or.inl ⟨?_, fun wz hy => ?_⟩) (fun wk16 hn => ?_)
      rotate_left 2
      focus
        simp only [List.getElem?_toArray, List.getElem?_cons_succ, List.getElem?_cons_zero]
        rfl
      focus exact fun _ _ _ h => h
      focus rfl
      focus
        have hz : Later w1 wz := Later.trans hB hy
        have e0 := cell_later hz E0.out; have e1 := cell_later hz E1.out
        refine gives_value (w' := wz) ?_ ⟨rfl, Later.refl _⟩
        go_simp
        try with_reducible rfl
      replace hB : Later w1 wk16 := Later.trans hB hn
      clear hn
      try clear wk15
      try simp only [Act.put, List.setIfInBounds_toArray, List.set_cons_zero, List.set_cons_succ]
      refine wpAnyL_take 16 (oi := ?_) (v := ?_) ?_ (by kernel_rfl) (by kernel_rfl) (by kernel_rfl) ?_ (Or.inl ⟨?_, fun wz hy => ?_⟩) (fun wk17 hn => ?_)
      rotate_left 2
      focus
        simp only [List.getElem?_toArray, List.getElem?_cons_succ, List.getElem?_cons_zero]
        rfl
      focus exact fun _ _ _ h => h
      focus rfl
      focus
        have hz : Later w1 wz := Later.trans hB hy
        have e0 := cell_later hz E0.out; have e1 := cell_later hz E1.out
        refine gives_value (w' := wz) ?_ ⟨rfl, Later.refl _⟩
        go_simp
        try with_reducible rfl
      replace hB : Later w1 wk17 := Later.trans hB hn
      clear hn
      try clear wk16
      try simp only [Act.put, List.setIfInBounds_toArray, List.set_cons_zero, List.set_cons_succ]
      refine wpAnyL_take 17 (oi := ?_) (v := ?_) ?_ (by kernel_rfl) (by kernel_rfl) (by kernel_rfl) ?_ (Or.inl ⟨?_, fun wz hy => ?_⟩) (fun wk18 hn => ?_)
      rotate_left 2
      focus
        simp only [List.getElem?_toArray, List.getElem?_cons_succ, List.getElem?_cons_zero]
        rfl
      focus exact fun _ _ _ h => h
      focus rfl
      focus
        have hz : Later w1 wz := Later.trans hB hy
        have e0 := cell_later hz E0.out; have e1 := cell_later hz E1.out
        refine gives_value (w' := wz) ?_ ⟨rfl, Later.refl _⟩
        go_simp
        try with_reducible rfl
      replace hB : Later w1 wk18 := Later.trans hB hn
      clear hn
      try clear wk17
      try simp only [Act.put, List.setIfInBounds_toArray, List.set_cons_zero, List.set_cons_succ]
      refine wpAnyL_take 18 (oi := ?_) (v := ?_) ?_ (by kernel_rfl) (by kernel_rfl) (by kernel_rfl) ?_ (Or.inl ⟨?_, fun wz hy => ?_⟩) (fun wk19 hn => ?_)
      rotate_left 2
      focus
        simp only [List.getElem?_toArray, List.getElem?_cons_succ, List.getElem?_cons_zero]
        rfl
      focus exact fun _ _ _ h => h
      focus rfl
      focus
        have hz : Later w1 wz := Later.trans hB hy
        have e0 := cell_later hz E0.out; have e1 := cell_later hz E1.out
        refine gives_value (w' := wz) ?_ ⟨rfl, Later.refl _⟩
        go_simp
        try with_reducible rfl
      replace hB : Later w1 wk19 := Later.trans hB hn
      clear hn
      try clear wk18
      try simp only [Act.put, List.setIfInBounds_toArray, List.set_cons_zero, List.set_cons_succ]
      refine wpAnyL_take 19 (oi := ?_) (v := ?_) ?_ (by kernel_rfl) (by kernel_rfl) (by kernel_rfl) ?_ (Or.inl ⟨?_, fun wz hy => ?_⟩) (fun wk20 hn => ?_)
      rotate_left 2
      focus
        simp only [List.getElem?_toArray, List.getElem?_cons_succ, List.getElem?_cons_zero]
        rfl
      focus exact fun _ _ _ h => h
      focus rfl
      focus
        have hz : Later w1 wz := Later.trans hB hy
        refine gives_enter (w' := wz) ?_ (Calls.mono (cnf_Status vars a len cap xss la ll lc l wz (HR.out.later hz) (HL.out.later hz) HN.out HFL.out HFR.out (fun c hc => Nat.le_trans (HS.out.2 c hc) (by decide))) ?_)
        focus
          go_simp
          try with_reducible rfl
        rintro e w2 ⟨rfl, hb⟩; refine ⟨_, rfl, ?_, hb⟩; rfl
      replace hB : Later w1 wk20 := Later.trans hB hn
      clear hn
      try clear wk19
      try simp only [Act.put, List.setIfInBounds_toArray, List.set_cons_zero, List.set_cons_succ]
      refine wpAnyL_take 20 (oi := ?_) (v := ?_) ?_ (by kernel_rfl) (by kernel_rfl) (by kernel_rfl) ?_ (Or.inl ⟨?_, fun wz hy => ?_⟩) (fun wk21 hn => ?_)
      rotate_left 2
      focus
        simp only [List.getElem?_toArray, List.getElem?_cons_succ, List.getElem?_cons_zero]
        rfl
      focus exact fun _ _ _ h => h
      focus rfl
      focus
        have hz : Later w1 wz := Later.trans hB hy
        have e0 := cell_later hz E0.out; have e1 := cell_later hz E1.out
        refine gives_value (w' := wz) ?_ ⟨rfl, Later.refl _⟩
        go_simp
        try with_reducible rfl
      replace hB : Later w1 wk21 := Later.trans hB hn
      clear hn
      try clear wk20
      try simp only [Act.put, List.setIfInBounds_toArray, List.set_cons_zero, List.set_cons_succ]
      refine wpAnyL_take 21 (oi := ?_) (v := ?_) ?_ (by kernel_rfl) (by kernel_rfl) (by kernel_rfl) ?_ (Or.inl ⟨?_, fun wz hy => ?_⟩) (fun wk22 hn => ?_)
      rotate_left 2
      focus
        simp only [List.getElem?_toArray, List.getElem?_cons_succ, List.getElem?_cons_zero]
        rfl
      focus exact fun _ _ _ h => h
      focus rfl
      focus
        have hz : Later w1 wz := Later.trans hB hy
        have e0 := cell_later hz E0.out; have e1 := cell_later hz E1.out
        refine gives_value (w' := wz) ?_ ⟨rfl, Later.refl _⟩
        go_simp
        try with_reducible rfl
      replace hB : Later w1 wk22 := Later.trans hB hn
      clear hn
      try clear wk21
      try simp only [Act.put, List.setIfInBounds_toArray, List.set_cons_zero, List.set_cons_succ]
      refine wpAnyL_take 22 (oi := ?_) (v := ?_) ?_ (by kernel_rfl) (by kernel_rfl) (by kernel_rfl) ?_ (Or.inl ⟨?_, fun wz hy => ?_⟩) (fun wk23 hn => ?_)
      rotate_left 2
      focus
        simp only [List.getElem?_toArray, List.getElem?_cons_succ, List.getElem?_cons_zero]
        rfl
      focus exact fun _ _ _ h => h
      focus rfl
      focus
        have hz : Later w1 wz := Later.trans hB hy
        refine gives_enter (w' := wz) ?_ (Calls.mono (ref_Status04 vars a len cap xss la ll lc l wz (HR.out.later hz) (HL.out.later hz)) ?_)
        focus
          go_simp
          try with_reducible rfl
        rintro e w2 ⟨rfl, hb⟩; refine ⟨_, rfl, ?_, hb⟩; rfl
      replace hB : Later w1 wk23 := Later.trans hB hn
      clear hn
      try clear wk22
      try simp only [Act.put, List.setIfInBounds_toArray, List.set_cons_zero, List.set_cons_succ]
      refine wpAnyL_take 23 (oi := ?_) (v := ?_) ?_ (by kernel_rfl) (by kernel_rfl) (by kernel_rfl) ?_ (Or.inl ⟨?_, fun wz hy => ?_⟩) (fun wk24 hn => ?_)
      rotate_left 2
      focus
        simp only [List.getElem?_toArray, List.getElem?_cons_succ, List.getElem?_cons_zero]
        rfl
      focus exact fun _ _ _ h => h
      focus rfl
      focus
        have hz : Later w1 wz := Later.trans hB hy
        have e0 := cell_later hz E0.out; have e1 := cell_later hz E1.out
        refine gives_value (w' := wz) ?_ ⟨rfl, Later.refl _⟩
        go_simp
        try with_reducible rfl
      replace hB : Later w1 wk24 := Later.trans hB hn
      clear hn
      try clear wk23
      try simp only [Act.put, List.setIfInBounds_toArray, List.set_cons_zero, List.set_cons_succ]
      refine wpAnyL_take 24 (oi := ?_) (v := ?_) ?_ (by kernel_rfl) (by kernel_rfl) (by kernel_rfl) ?_ (Or.inl ⟨?_, fun wz hy => ?_⟩) (fun wk25 hn => ?_)
      rotate_left 2
      focus
        simp only [List.getElem?_toArray, List.getElem?_cons_succ, List.getElem?_cons_zero]
        rfl
      focus exact fun _ _ _ h => h
      focus rfl
      focus
        have hz : Later w1 wz := Later.trans hB hy
        have e0 := cell_later hz E0.out; have e1 := cell_later hz E1.out
        refine gives_value (w' := wz) ?_ ⟨rfl, Later.refl _⟩
        go_simp
        try with_reducible rfl
      replace hB : Later w1 wk25 := Later.trans hB hn
      clear hn
      try clear wk24
      try simp only [Act.put, List.setIfInBounds_toArray, List.set_cons_zero, List.set_cons_succ]
      refine wpAnyL_take 25 (oi := ?_) (v := ?_) ?_ (by kernel_rfl) (by kernel_rfl) (by kernel_rfl) ?_ (Or.inl ⟨?_, fun wz hy => ?_⟩) (fun wk26 hn => ?_)
      rotate_left 2
      focus
        simp only [List.getElem?_toArray, List.getElem?_cons_succ, List.getElem?_cons_zero]
        rfl
      focus exact fun _ _ _ h => h
      focus rfl
      focus
        have hz : Later w1 wz := Later.trans hB hy
        have e0 := cell_later hz E0.out; have e1 := cell_later hz E1.out
        refine gives_value (w' := wz) ?_ ⟨rfl, Later.refl _⟩
        go_simp
        try with_reducible rfl
      replace hB : Later w1 wk26 := Later.trans hB hn
      clear hn
      try clear wk25
      try simp only [Act.put, List.setIfInBounds_toArray, List.set_cons_zero, List.set_cons_succ]
      refine wpAnyL_take 26 (oi := ?_) (v := ?_) ?_ (by kernel_rfl) (by kernel_rfl) (by kernel_rfl) ?_ (Or.inl ⟨?_, fun wz hy => ?_⟩) (fun wk27 hn => ?_)
      rotate_left 2
      focus
        simp only [List.getElem?_toArray, List.getElem?_cons_succ, List.getElem?_cons_zero]
        rfl
      focus exact fun _ _ _ h => h
      focus rfl
      focus
        have hz : Later w1 wz := Later.trans hB hy
        refine gives_enter (w' := wz) ?_ (Calls.mono (HAW.out wz) ?_)
        focus
          go_simp
          try with_reducible rfl
        rintro e w2 ⟨rfl, hb⟩; refine ⟨_, rfl, ?_, hb⟩; rfl
      replace hB : Later w1 wk27 := Later.trans hB hn
      clear hn
      try clear wk26
      try simp only [Act.put, List.setIfInBounds_toArray, List.set_cons_zero, List.set_cons_succ]
      refine wpAnyL_take 27 (oi := ?_) (v := ?_) ?_ (by kernel_rfl) (by kernel_rfl) (by kernel_rfl) ?_ (Or.inl ⟨?_, fun wz hy => ?_⟩) (fun wk28 hn => ?_)
      rotate_left 2
      focus
        simp only [List.getElem?_toArray, List.getElem?_cons_succ, List.getElem?_cons_zero]
        rfl
      focus exact fun _ _ _ h => h
      focus rfl
      focus
        have hz : Later w1 wz := Later.trans hB hy
        have e0 := cell_later hz E0.out; have e1 := cell_later hz E1.out
        refine gives_value (w' := wz) ?_ ⟨rfl, Later.refl _⟩
        go_simp
        try with_reducible rfl
      replace hB : Later w1 wk28 := Later.trans hB hn
      clear hn
      try clear wk27
      try simp only [Act.put, List.setIfInBounds_toArray, List.set_cons_zero, List.set_cons_succ]
      refine wpAnyL_take 28 (oi := ?_) (v := ?_) ?_ (by kernel_rfl) (by kernel_rfl) (by kernel_rfl) ?_ (Or.inl ⟨?_, fun wz hy => ?_⟩) (fun wk29 hn => ?_)
      rotate_left 2
      focus
        simp only [List.getElem?_toArray, List.getElem?_cons_succ, List.getElem?_cons_zero]
        rfl
      focus exact fun _ _ _ h => h
      focus rfl
      focus
        have hz : Later w1 wz := Later.trans hB hy
        have e0 := cell_later hz E0.out; have e1 := cell_later hz E1.out
        refine gives_value (w' := wz) ?_ ⟨rfl, Later.refl _⟩
        go_simp
        try with_reducible rfl
      replace hB : Later w1 wk29 := Later.trans hB hn
      clear hn
      try clear wk28
      try simp only [Act.put, List.setIfInBounds_toArray, List.set_cons_zero, List.set_cons_succ]
      refine wpAnyL_done (by kernel_rfl) ?_ _
      go_wp2_with fail
      go_returns
      exact ⟨rfl, below_step HB.out hB⟩
  · have H1 : Hid (fFew xss = false) := Lib.hid (by simpa using h1)
    clear h1 d5 d6
    go_enter Try.func3, Try.ntmps3
    go_wp2_with fail
    rw [HW1.out]
    refine (law_Few vars a len cap xss w1 HR.out).mono ?_
    rintro e w2 ⟨rfl, hb2⟩
    rw [H1.out]
    go_wp2_with fail
    refine (HAW.out w2).mono ?_
    rintro e w3 ⟨rfl, hb3⟩
    go_wp2_with fail
    go_returns
    exact ⟨rfl, below_step HB.out (below_step hb2 hb3)⟩
end Go.Proofs.Ytdladbfjgkejiaa
namespace Go.Proofs.Ytdladbfjgkejiaa
open Go.RowKit
set_option linter.unusedVariables false
set_option linter.unusedSimpArgs false
theorem short_max {xss : List (List Int)} {n : Nat} (h : ShortR xss n) (hn : n ≤ 1000000000) : ∀ xs ∈ xss, xs.length ≤ maxLen := fun xs hx => by have := h xs hx; unfold maxLen; omega
theorem tup2 (a b : Value) (G : Gh) : RA 0 G (.tup [lt a, lt b]) (.tuple #[a, b]) := .tup [lt a, lt b] [a, b] rfl (RL.two (.iv _ _ (.lit _)) (.iv _ _ (.lit _))).2
theorem pf_Check (vars : Int) (xss : List (List Int)) (hl : xss.length ≤ 1000000) (hs : ShortR xss 100000) : PF Try.prog 14 [aForm vars xss] fun r H' => r = .tup [lint (fAt vars xss), lint (fErr vars xss)] ∧ H' = [] :=
  PF_of_walk2 ⟨_, Try.func14, by kernel_rfl, rfl⟩ (tup2 _ _) fun G w vs hi hr => by
    obtain ⟨v, us, rfl, h1, hr⟩ := hr.uncons
    rw [hr.unnil]
    obtain ⟨a, cap, rfl, h2⟩ := form_open hi (by unfold maxLen; omega) (short_max hs (by omega)) h1
    exact cnf_Check vars a _ cap xss w h2 hs
theorem pf_Balance (vars : Int) (xss : List (List Int)) (v : Int) (hl : xss.length ≤ 1000000) (hs : ShortR xss 100000) : PF Try.prog 19 [aForm vars xss, lint v] fun r H' => r = .tup [lint (fBalY v xss), lint (fBalN v xss)] ∧ H' = [] :=
  PF_of_walk2 ⟨_, Try.func19, by kernel_rfl, rfl⟩ (tup2 _ _) fun G w vs hi hr => by
    obtain ⟨u, us, rfl, h1, hr⟩ := hr.uncons
    obtain ⟨u2, us, rfl, h3, hr⟩ := hr.uncons
    rw [hr.unnil, h3.lit_inv]
    obtain ⟨a, cap, rfl, h2⟩ := form_open hi (by unfold maxLen; omega) (short_max hs (by omega)) h1
    exact cnf_Balance vars a _ cap xss v w h2 hl hs
theorem pf_Size (vars : Int) (xss : List (List Int)) (hl : xss.length ≤ 1000000) (hs : ShortR xss 100000) : PF Try.prog 21 [aForm vars xss] fun r H' => r = lint (fSize xss : Int) ∧ H' = [] :=
  PF_of_walk ⟨_, Try.func21, by kernel_rfl, rfl⟩ fun G w vs hi hr => by
    obtain ⟨u, us, rfl, h1, hr⟩ := hr.uncons
    rw [hr.unnil]
    obtain ⟨a, cap, rfl, h2⟩ := form_open hi (by unfold maxLen; omega) (short_max hs (by omega)) h1
    exact cnf_Size vars a _ cap xss w h2 hl hs
theorem pf_Few (vars : Int) (xss : List (List Int)) (hl : xss.length ≤ maxLen) (hs : ∀ xs ∈ xss, xs.length ≤ maxLen) : PF Try.prog 6 [aForm vars xss] fun r H' => r = lt (.bool (fFew xss)) ∧ H' = [] :=
  PF_of_walk ⟨_, Try.func6, by kernel_rfl, rfl⟩ fun G w vs hi hr => by
    obtain ⟨u, us, rfl, h1, hr⟩ := hr.uncons
    rw [hr.unnil]
    obtain ⟨a, cap, rfl, h2⟩ := form_open hi hl hs h1
    exact law_Few vars a _ cap xss w h2
theorem pf_First (vars : Int) (xss : List (List Int)) (m : List Bool) (hl : xss.length ≤ 1000000) (hs : ShortR xss 100000) (hm : m.length ≤ 1000000) : PF Try.prog 8 [aForm vars xss, .iv (iBools m)] fun r H' => r = lint (fFirst m xss) ∧ H' = [] :=
  PF_of_walk ⟨_, Try.func8, by kernel_rfl, rfl⟩ fun G w vs hi hr => by
    obtain ⟨u, us, rfl, h1, hr⟩ := hr.uncons
    obtain ⟨u2, us, rfl, h3, hr⟩ := hr.uncons
    rw [hr.unnil]
    cases h3 with
    | iv _ _ h3 =>
      obtain ⟨b, cb, rfl, _, _, h4⟩ := bools_row hi.fz (by unfold maxLen; omega) h3
      obtain ⟨a, cap, rfl, h2⟩ := form_open hi (by unfold maxLen; omega) (short_max hs (by omega)) h1
      exact cnf_First vars a _ cap xss b _ cb m w h2 h4
theorem pf_Holds (vars : Int) (xss : List (List Int)) (m : List Bool) (hl : xss.length ≤ 1000000) (hs : ShortR xss 100000) (hm : m.length ≤ 1000000) : PF Try.prog 10 [aForm vars xss, .iv (iBools m)] fun r H' => r = lt (.bool (fHolds vars m xss)) ∧ H' = [] :=
  PF_of_walk ⟨_, Try.func10, by kernel_rfl, rfl⟩ fun G w vs hi hr => by
    obtain ⟨u, us, rfl, h1, hr⟩ := hr.uncons
    obtain ⟨u2, us, rfl, h3, hr⟩ := hr.uncons
    rw [hr.unnil]
    cases h3 with
    | iv _ _ h3 =>
      obtain ⟨b, cb, rfl, _, _, h4⟩ := bools_row hi.fz (by unfold maxLen; omega) h3
      obtain ⟨a, cap, rfl, h2⟩ := form_open hi (by unfold maxLen; omega) (short_max hs (by omega)) h1
      exact cnf_Holds vars a _ cap xss b _ cb m w h2 h4
theorem pf_Status (vars : Int) (xss : List (List Int)) (l : List Int) (hl : xss.length ≤ 1000000) (hs : ShortR xss 100000) (hll : l.length ≤ 1000000) (hf : Fits' l) (hfr : FitsR' xss) : PF Try.prog 12 [aForm vars xss, .iv (iInts l)] fun r H' => r = lint (fStat l xss) ∧ H' = [] :=
  PF_of_walk ⟨_, Try.func12, by kernel_rfl, rfl⟩ fun G w vs hi hr => by
    obtain ⟨u, us, rfl, h1, hr⟩ := hr.uncons
    obtain ⟨u2, us, rfl, h3, hr⟩ := hr.uncons
    rw [hr.unnil]
    cases h3 with
    | iv _ _ h3 =>
      obtain ⟨b, cb, rfl, _, _, h4⟩ := ints_row hi.fz (by unfold maxLen; omega) h3
      obtain ⟨a, cap, rfl, h2⟩ := form_open hi (by unfold maxLen; omega) (short_max hs (by omega)) h1
      exact cnf_Status vars a _ cap xss b _ cb l w h2 h4 hll hf hfr (fun xs hx => Nat.le_trans (hs xs hx) (by omega))
theorem pf_Same (v1 v2 : Int) (xss yss : List (List Int)) (hl : xss.length ≤ 1000000) (hs : ShortR xss 100000) (hl2 : yss.length ≤ 1000000) (hs2 : ShortR yss 100000) : PF Try.prog 22 [aForm v1 xss, aForm v2 yss] fun r H' => r = lt (.bool (fSame v1 v2 xss yss)) ∧ H' = [] :=
  PF_of_walk ⟨_, Try.func22, by kernel_rfl, rfl⟩ fun G w vs hi hr => by
    obtain ⟨u, us, rfl, h1, hr⟩ := hr.uncons
    obtain ⟨u2, us, rfl, h3, hr⟩ := hr.uncons
    rw [hr.unnil]
    obtain ⟨a, cap, rfl, h2⟩ := form_open hi (by unfold maxLen; omega) (short_max hs (by omega)) h1
    obtain ⟨b, cb, rfl, h4⟩ := form_open hi (by unfold maxLen; omega) (short_max hs2 (by omega)) h3
    exact cnf_Same v1 v2 a b _ cap _ cb xss yss w h2 h4
theorem pf_Pure (vars : Int) (xss : List (List Int)) (hl : xss.length ≤ 1000000) (hs : ShortR xss 100000) : PF Try.prog 17 [aForm vars xss] fun r H' => r = .iv (iInts (pureUp xss (pureV vars))) ∧ H' = [] :=
  PF_of_own ⟨_, Try.func17, by kernel_rfl, rfl⟩ fun G w vs hi hr => by
    obtain ⟨u, us, rfl, h1, hr⟩ := hr.uncons
    rw [hr.unnil]
    obtain ⟨a, cap, rfl, h2⟩ := form_open hi (by unfold maxLen; omega) (short_max hs (by omega)) h1
    exact cnf_Pure vars a _ cap xss w h2 hl hs
theorem pf_Clone (xs : List Int) (hl : xs.length ≤ 1000000) : PF Try.prog 34 [.iv (iInts xs)] fun r H' => r = .iv (iInts xs) ∧ H' = [] :=
  PF_of_own ⟨_, Try.func34, by kernel_rfl, rfl⟩ fun G w vs hi hr => by
    obtain ⟨u, us, rfl, h1, hr⟩ := hr.uncons
    rw [hr.unnil]
    cases h1 with
    | iv _ _ h1 =>
      obtain ⟨b, cb, rfl, _, _, h4⟩ := ints_row hi.fz (by unfold maxLen; omega) h1
      exact sl_Clone b _ cb xs w h4 (by omega)
theorem pf_Most (xs : List Int) (hl : xs.length ≤ 1000000) : PF Try.prog 35 [.iv (iInts xs)] fun r H' => r = lint (lmost xs) ∧ H' = [] :=
  PF_of_walk ⟨_, Try.func35, by kernel_rfl, rfl⟩ fun G w vs hi hr => by
    obtain ⟨u, us, rfl, h1, hr⟩ := hr.uncons
    rw [hr.unnil]
    cases h1 with
    | iv _ _ h1 =>
      obtain ⟨b, cb, rfl, _, _, h4⟩ := ints_row hi.fz (by unfold maxLen; omega) h1
      exact (lit_Most b _ cb xs w h4).mono fun e w' h => ⟨h.1, h.2 ▸ Below.refl _ _⟩
end Go.Proofs.Ytdladbfjgkejiaa
