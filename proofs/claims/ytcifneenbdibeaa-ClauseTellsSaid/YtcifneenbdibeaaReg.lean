/- A region that draws its order, in one way: an operation that gives one value in whatever later world may be taken first; one that does not is branched over. No program. -/
import Derived.Orders
import Derived.OrdersHeld
import Derived.WalkKit
import Derived.Test.YtcifneenbdibeaaMem
namespace Go.Proofs.Ytcifneenbdibeaa
set_option linter.unusedVariables false
section
variable {P : Program} {ops : Array Oper} {Q : Exit → Act → World → Prop} {md : Region.Mode}

/-- A later world: what there was is there. -/
def Later (w w' : World) : Prop := RowKit.Below w.heap.size w w'
theorem Later.refl (w : World) : Later w w := RowKit.Below.refl _ _
theorem Later.trans {a b c : World} (h : Later a b) (k : Later b c) : Later a c := below_step h k
/-- What a run of one operation gives: a value and a world, of which R holds; a call of a function may be among them. -/
def Gives (P : Program) (R : Value → World → Prop) : Result Next → Prop
  | .ok (.value u) w' => R u w'
  | .ok .skip w' => R undef w'
  | .ok (.enter f args) w' => Calls P f args w' fun e w'' => ∃ u, e = .returned u ∧ R u w''
  | _ => False
theorem gives_value {R : Value → World → Prop} {v : Value} {r : Result Next} {w' : World} (h : r = .ok (.value v) w') (hR : R v w') : Gives P R r := by subst h; exact hR
theorem gives_skip {R : Value → World → Prop} {r : Result Next} {w' : World} (h : r = .ok .skip w') (hR : R undef w') : Gives P R r := by subst h; exact hR
theorem gives_enter {R : Value → World → Prop} {f : FuncId} {args : Array Value} {r : Result Next} {w' : World} (h : r = .ok (.enter f args) w') (hc : Calls P f args w' fun e w'' => ∃ u, e = .returned u ∧ R u w'') : Gives P R r := by subst h; exact hc
/-- One value, whatever the world. -/
def Same (v : Value) (w : World) : Value → World → Prop := fun u w' => u = v ∧ Later w w'
def GivesIf (P : Program) (ops : Array Oper) (w : World) (o : Oper) (v : Value) (a : Act) : Prop :=
  (Region.wanted o (yielded ops a.tmps) = true ∧ ∀ w1, Later w w1 → Gives P (Same v w1) ((execOp a.eval o).run P w1)) ∨ (Region.wanted o (yielded ops a.tmps) = false ∧ v = undef)

theorem Gives.wpOp {i : Nat} {o : Oper} {a : Act} (hi : ops[i]? = some o) (hw : Region.wanted o (yielded ops a.tmps) = true) {R : Value → World → Prop} {K : Act → World → Prop} {w : World}
    (hg : Gives P R ((execOp a.eval o).run P w)) (h : ∀ u w', R u w' → K (a.put o.dst u) w') : wpOp P ops Q i K a w := by
  unfold Go.wpOp
  rw [hi]
  refine (if_pos hw).mpr (Or.inl ?_)
  unfold Oper.wp
  generalize (execOp a.eval o).run P w = r at hg ⊢
  match r, hg with
  | .ok (.value u) w', hg => exact h _ _ hg
  | .ok .skip w', hg => exact h _ _ hg
  | .ok (.enter f args) w', hg =>
    refine Calls.mono hg fun e w'' he => ?_
    obtain ⟨u, rfl, h2⟩ := he
    exact h _ _ h2
theorem GivesIf.wpOp {i : Nat} {o : Oper} {v : Value} {a : Act} (hi : ops[i]? = some o) {w : World} (hy : GivesIf P ops w o v a)
    {K : Act → World → Prop} (h : ∀ w', Later w w' → K (a.put o.dst v) w') : wpOp P ops Q i K a w := by
  rcases hy with ⟨hw, hv⟩ | ⟨hw, rfl⟩
  · exact Gives.wpOp hi hw (hv w (Later.refl w)) fun u w' hR => by obtain ⟨rfl, h2⟩ := hR; exact h _ h2
  · unfold Go.wpOp
    rw [hi]
    exact (if_neg (by rw [hw]; decide)).mpr (h w (Later.refl w))

/-- Another operation, apart from it, runs the same behind it, and leaves what it looks at. -/
theorem wpOp_behind {j : Nat} {oi oj : Oper} {v : Value} (hj : ops[j]? = some oj) (hap : oi.apart ops oj = true) (hsi : ∀ cs b, oi.op ≠ .select cs b) (hsj : ∀ cs b, oj.op ≠ .select cs b)
    (hQ : ∀ c a w, Q (.panic c) (a.put oi.dst v) w → Q (.panic c) a w) {K : Act → World → Prop} {a : Act} {w : World} (h : wpOp P ops Q j K (a.put oi.dst v) w) :
    wpOp P ops Q j (fun a' w' => K (a'.put oi.dst v) w' ∧ execOp a'.eval oi = execOp a.eval oi ∧ Region.wanted oi (yielded ops a'.tmps) = Region.wanted oi (yielded ops a.tmps)) a w := by
  obtain ⟨p1, p2, p3⟩ := Oper.apart_spec hap
  have e1 := execOp_put oj hsj a oi.dst v p1
  have e2 := wanted_put oj a oi.dst v p1
  have fin : ∀ u w', K ((a.put oi.dst v).put oj.dst u) w' → (K ((a.put oj.dst u).put oi.dst v) w' ∧ execOp (a.put oj.dst u).eval oi = execOp a.eval oi ∧ Region.wanted oi (yielded ops (a.put oj.dst u).tmps) = Region.wanted oi (yielded ops a.tmps)) :=
    fun u w' hk => ⟨by rw [← Act.put_comm a v u p2]; exact hk, execOp_put oi hsi a oj.dst u p3, wanted_put oi a oj.dst u p3⟩
  unfold wpOp at h ⊢
  rw [hj] at h ⊢
  dsimp only at h ⊢
  rw [e2] at h
  by_cases hw : Region.wanted oj (yielded ops a.tmps) = true
  · rw [if_pos hw] at h ⊢
    rcases h with h | ⟨h, hl⟩
    · refine Or.inl ?_
      unfold Oper.wp at h ⊢
      rw [e1] at h
      generalize (execOp a.eval oj).run P w = r at h ⊢
      match r, h with
      | .ok (.value u) w', h => exact fin u w' h
      | .ok .skip w', h => exact fin undef w' h
      | .ok (.defer d) w', h =>
        have h' : K ((({ a with defers := d :: a.defers } : Act).put oi.dst v).put oj.dst undef) w' := by rw [← Act.put_defers]; exact h
        refine ⟨?_, execOp_put (ops := ops) oi hsi { a with defers := d :: a.defers } oj.dst undef p3, wanted_put (ops := ops) oi { a with defers := d :: a.defers } oj.dst undef p3⟩
        rw [← Act.put_comm _ v undef p2]; exact h'
      | .ok (.enter f args) w', h =>
        refine Calls.mono h fun e w'' he => ?_
        match e, he with
        | .returned u, he => exact fin u w'' he
        | .panicked c, he => exact hQ _ _ _ he
        | .outgrown, he => exact he
      | .ok (.row row args) w', h => exact Rows.mono h fun u w'' he => fin u w'' he
      | .halt (.panic u) w', h => exact hQ _ _ _ h
    · refine Or.inr ⟨?_, hl⟩
      unfold Oper.asks at h ⊢
      rw [e1] at h; exact h
  · rw [if_neg hw] at h ⊢
    exact fin undef w h

/-- Whatever order is picked from here on, in whatever later worlds. -/
def wpAnyL (P : Program) (md : Region.Mode) (ops : Array Oper) (Q : Exit → Act → World → Prop) : Nat → Array Bool → Act → World → Prop
  | 0, listed, a, w => Region.ready md ops listed = [] ∧ Q .normal a w
  | fuel + 1, listed, a, w => (Region.ready md ops listed = [] → Q .normal a w) ∧
    ∀ i ∈ Region.ready md ops listed, wpOp P ops Q i (fun a' w' => Later w w' ∧ ∀ w'', Later w' w'' → wpAnyL P md ops Q fuel (listed.setIfInBounds i true) a' w'') a w
theorem wpAny_of_later : ∀ (fuel : Nat) (listed : Array Bool) (a : Act) (w : World), wpAnyL P md ops Q fuel listed a w → wpAny P md ops Q fuel listed a w
  | 0, _, _, _, h => h
  | fuel + 1, _, _, _, h => ⟨h.1, fun i hi => wpOp_mono (fun a' w' h' => wpAny_of_later fuel _ a' w' (h'.2 w' (Later.refl w'))) (h.2 i hi)⟩
theorem GivesIf.later {w w' : World} {o : Oper} {v : Value} {a : Act} (h : GivesIf P ops w o v a) (hw : Later w w') : GivesIf P ops w' o v a :=
  h.imp (fun ⟨h1, h2⟩ => ⟨h1, fun w1 h3 => h2 w1 (hw.trans h3)⟩) id
theorem wpAnyL_first {i : Nat} {oi : Oper} {v : Value} (hi : ops[i]? = some oi) (hsel : ∀ (j : Nat) (o : Oper) cs b, ops[j]? = some o → o.op ≠ .select cs b) (hQ : ∀ c a w, Q (.panic c) (a.put oi.dst v) w → Q (.panic c) a w) :
    ∀ (fuel : Nat) (listed : Array Bool) (a : Act) (w : World),
      (∀ j oj, ops[j]? = some oj → j ≠ i → listed.getD j true = false → (∀ e ∈ oj.after, Region.binds md e = true → e.on ≠ i) → oi.apart ops oj = true) →
      i ∈ Region.ready md ops listed → GivesIf P ops w oi v a → (∀ w', Later w w' → wpAnyL P md ops Q fuel (listed.setIfInBounds i true) (a.put oi.dst v) w') → wpAnyL P md ops Q (fuel + 1) listed a w
  | 0, listed, a, w, hfree, hr, hy, H => ⟨fun h => (by rw [h] at hr; cases hr), fun j hj => by
      by_cases hji : j = i
      · subst hji; exact hy.wpOp hi fun w' h' => ⟨h', fun w'' h'' => H w'' (h'.trans h'')⟩
      · have h2 := ready_mono hj hji
        rw [(H w (Later.refl w)).1] at h2
        cases h2⟩
  | fuel + 1, listed, a, w, hfree, hr, hy, H => ⟨fun h => (by rw [h] at hr; cases hr), fun j hj => by
      by_cases hji : j = i
      · subst hji; exact hy.wpOp hi fun w' h' => ⟨h', fun w'' h'' => H w'' (h'.trans h'')⟩
      · have h1 := (H w (Later.refl w)).2 j (ready_mono hj hji)
        obtain ⟨hun, oj, hoj, hall⟩ := mem_ready.1 hj
        have hin := (mem_ready.1 hr).1
        have hnot : ∀ e ∈ oj.after, Region.binds md e = true → e.on ≠ i := fun e he hb heq => by
          have h3 := hall e he hb
          rw [heq] at h3
          by_cases hlt : i < listed.size
          · simp [hlt] at h3 hin; rw [hin] at h3; cases h3
          · simp [hlt] at h3
        have hap := hfree j oj hoj hji hun hnot
        refine wpOp_mono (fun a' w' h3 => ?_) (wpOp_behind hoj hap (fun cs b => hsel i oi cs b hi) (fun cs b => hsel j oj cs b hoj) hQ h1)
        obtain ⟨⟨h4, h5⟩, h6, h7⟩ := h3
        refine ⟨h4, fun w'' h'' => wpAnyL_first hi hsel hQ fuel _ a' w'' (fun k ok hk hki hkun hkno => hfree k ok hk hki ?_ hkno) (ready_mono hr (Ne.symm hji)) ?_ (fun w3 hw3 => ?_)⟩
        · by_cases hjk : j = k
          · subst hjk; exact hun
          · rw [getD_set_ne true hjk] at hkun; exact hkun
        · have hy2 := hy.later (h4.trans h'')
          unfold GivesIf at hy2 ⊢
          rw [h6, h7]; exact hy2
        · rw [Array.setIfInBounds_comm _ _ hji]; exact h5 w3 (h''.trans hw3)⟩
/-- One operation, taken first: it gives v in whatever later world. -/
theorem wpAnyL_take (i : Nat) {oi : Oper} {v : Value} {fuel : Nat} {listed : Array Bool} {a : Act} {w : World} (hi : ops[i]? = some oi)
    (hs : Region.noSelect ops = true) (hf : Region.free md ops listed i = true) (hr : (Region.ready md ops listed).contains i = true)
    (hQ : ∀ c a w, Q (.panic c) (a.put oi.dst v) w → Q (.panic c) a w) (hy : GivesIf P ops w oi v a)
    (h : ∀ w', Later w w' → wpAnyL P md ops Q fuel (listed.setIfInBounds i true) (a.put oi.dst v) w') : wpAnyL P md ops Q (fuel + 1) listed a w :=
  wpAnyL_first hi (Region.noSelect_spec hs) hQ fuel listed a w (Region.free_spec hi hf) (by simpa using hr) hy h
/-- What is to be shown behind an operation that is branched over. -/
def Then (P : Program) (md : Region.Mode) (ops : Array Oper) (Q : Exit → Act → World → Prop) (fuel : Nat) (listed : Array Bool) (i : Nat) (d : Option Tmp) (a : Act) (w : World) : Value → World → Prop := fun u w' =>
  Later w w' ∧ ∀ w'', Later w' w'' → wpAnyL P md ops Q fuel (listed.setIfInBounds i true) (a.put d u) w''
theorem wpAnyL_one (i : Nat) {oi : Oper} {fuel : Nat} {listed : Array Bool} {a : Act} {w : World} (hi : ops[i]? = some oi) (hr : Region.ready md ops listed = [i])
    (hw : Region.wanted oi (yielded ops a.tmps) = true) (h : Gives P (Then P md ops Q fuel listed i oi.dst a w) ((execOp a.eval oi).run P w)) : wpAnyL P md ops Q (fuel + 1) listed a w :=
  ⟨fun h0 => (by rw [hr] at h0; cases h0), fun j hj => by
    rw [hr, List.mem_singleton] at hj
    subst hj
    exact Gives.wpOp hi hw h fun u w' hR => hR⟩
theorem wpAnyL_two (i j : Nat) {oi oj : Oper} {fuel : Nat} {listed : Array Bool} {a : Act} {w : World} (hi : ops[i]? = some oi) (hj : ops[j]? = some oj) (hr : Region.ready md ops listed = [i, j])
    (hw : Region.wanted oi (yielded ops a.tmps) = true) (hw2 : Region.wanted oj (yielded ops a.tmps) = true)
    (h : Gives P (Then P md ops Q fuel listed i oi.dst a w) ((execOp a.eval oi).run P w)) (h2 : Gives P (Then P md ops Q fuel listed j oj.dst a w) ((execOp a.eval oj).run P w)) : wpAnyL P md ops Q (fuel + 1) listed a w :=
  ⟨fun h0 => (by rw [hr] at h0; cases h0), fun k hk => by
    rw [hr] at hk
    rcases List.mem_cons.1 hk with hk | hk
    · subst hk; exact Gives.wpOp hi hw h fun u w' hR => hR
    · rw [List.mem_singleton] at hk; subst hk; exact Gives.wpOp hj hw2 h2 fun u w' hR => hR⟩
theorem wpAnyL_done {listed : Array Bool} {a : Act} {w : World} (hr : Region.ready md ops listed = []) (h : Q .normal a w) : ∀ fuel, wpAnyL P md ops Q fuel listed a w
  | 0 => ⟨hr, h⟩
  | _ + 1 => ⟨fun _ => h, by rw [hr]; simp⟩
theorem later_drew (w : World) : Later w w.drew := below_drew (RowKit.Below.refl _ _)
theorem wp_region_later {id : Nat} {a : Act} {w : World} (hm : P.follows .mixedOrders = true)
    (h : ∀ w', Later w w' → wpAnyL P .any ops Q ops.size (Array.replicate ops.size false) a w') : (Code.region id ops true).wp P Q a w :=
  wp_region_any hm (wpAny_of_later _ _ _ _ (h _ (later_drew w)))
end
end Go.Proofs.Ytcifneenbdibeaa
