import Derived.WalkKit
import Derived.WalkSpells
import Derived.WalkLawsBesides
import Derived.Below
import Derived.OneCell
import Derived.Lib.ItoaNum
namespace Go.Proofs.YtdaenbgjafalcaaDoor
set_option linter.unusedVariables false
set_option linter.unusedSimpArgs false
open Go.RowKit
inductive IV where
  | lit (v : Value)
  | sl (get : Nat → IV) (len sz : Nat)
  | ptr (get : Nat → IV) (ext : Nat)
inductive AV where
  | iv (x : IV)
  | agg (xs : List AV)
  | tup (xs : List AV)
  | osl (o off len sz : Nat)
  | optr (o off : Nat)
  | xptr (o sz : Nat)
  | fn (f : FuncId) (first caps : List AV)
instance : Inhabited AV := ⟨.iv (.lit undef)⟩
abbrev lt (v : Value) : AV := .iv (.lit v)
abbrev uD : AV := .iv (.lit undef)
structure AObj where
  t : TypeId
  cells : List AV
abbrev AHeap := List (Option AObj)
def tabObj (k : IntKind) (zs : List Int) (x : Obj) : Prop := ∃ t fr, x = .cells (zs.map (Value.int k)).toArray t fr
def errObj (x : Obj) : Prop := ∃ te pe t fr, x = .cells #[.iface te pe] t fr
def baseTabs : List (Nat × (Obj → Prop)) := [(1, tabObj .u64 Go.Lib.pow10Tab), (3, errObj)]
def baseOk (fz : Nat → Option Obj) : Prop := ∀ p ∈ baseTabs, ∃ x, fz p.1 = some x ∧ p.2 x
theorem baseOk_up {fz fz' : Nat → Option Obj} (h : ∀ b x, fz b = some x → fz' b = some x) (k : baseOk fz) : baseOk fz' := fun p hp => by
  obtain ⟨x, e, q⟩ := k p hp
  exact ⟨x, h _ _ e, q⟩
class BaseAt (fz : Nat → Option Obj) : Prop where
  ok : baseOk fz
structure Gh where
  dom : Nat → Prop
  mu : Nat → Nat × Nat
  sz : Nat → Nat
  fz : Nat → Option Obj
  kp : Nat → Option Obj
  os : Os
  tape : Nat → Question → Nat
  output : Array (Nat × ByteArray)
  bs : baseOk fz
structure Gh.le (n : Nat) (G G' : Gh) : Prop where
  mu : ∀ o, G.dom o → G'.mu o = G.mu o
  sz : ∀ o, G.dom o → G'.sz o = G.sz o
  dom : ∀ o, G.dom o → G'.dom o
  back : ∀ o, o < n → G'.dom o → G.dom o
  fz : ∀ b x, G.fz b = some x → G'.fz b = some x
  kp : ∀ b x, G.kp b = some x → G'.kp b = some x
  new : ∀ b x y, G.kp b = some x → G'.fz b = some y → ∃ z, G.fz b = some z
  os : G'.os = G.os
  tape : G'.tape = G.tape
  output : G'.output = G.output
theorem Gh.le.refl (n : Nat) (G : Gh) : Gh.le n G G := ⟨fun _ _ => rfl, fun _ _ => rfl, fun _ h => h, fun _ _ h => h, fun _ _ h => h, fun _ _ h => h, fun _ _ y _ h => ⟨y, h⟩, rfl, rfl, rfl⟩
theorem Gh.le.trans {n m : Nat} {a b c : Gh} (h : Gh.le n a b) (k : Gh.le m b c) (hnm : n ≤ m) : Gh.le n a c :=
  ⟨fun o ho => (k.mu o (h.dom o ho)).trans (h.mu o ho), fun o ho => (k.sz o (h.dom o ho)).trans (h.sz o ho), fun o ho => k.dom o (h.dom o ho), fun o ho hd => h.back o ho (k.back o (by omega) hd), fun b x e => k.fz b x (h.fz b x e), fun b x e => k.kp b x (h.kp b x e), fun b x y e f => (by obtain ⟨z, hz⟩ := k.new b x y (h.kp b x e) f; exact h.new b x z e hz), k.os.trans h.os, k.tape.trans h.tape, k.output.trans h.output⟩
inductive RI (fz : Nat → Option Obj) : IV → Value → Prop
  | lit (v : Value) : RI fz (.lit v) v
  | nil (get : Nat → IV) (sz cap : Nat) : cap ≤ maxLen → RI fz (.sl get 0 sz) (.slice none 0 cap)
  | empty (get : Nat → IV) (sz : Nat) (a : Addr) (cap : Nat) : cap ≤ maxLen → RI fz (.sl get 0 sz) (.slice (some a) 0 cap)
  | sl (get : Nat → IV) (len sz b off cap : Nat) (cs : Array Value) (t : TypeId) (fr : Nat × Nat) (vs : Nat → Value) :
      fz b = some (.cells cs t fr) → (∀ j, j < len * sz → cs[off + j]? = some (vs j)) → (∀ j, j < len * sz → RI fz (get j) (vs j)) → len ≤ cap → cap ≤ maxLen →
      RI fz (.sl get len sz) (.slice (some ⟨b, off, none⟩) len cap)
  | ptr (get : Nat → IV) (ext b off : Nat) (cs : Array Value) (t : TypeId) (fr : Nat × Nat) (vs : Nat → Value) :
      fz b = some (.cells cs t fr) → (∀ j, j < ext → cs[off + j]? = some (vs j)) → (∀ j, j < ext → RI fz (get j) (vs j)) →
      RI fz (.ptr get ext) (.pointer (some ⟨b, off, none⟩))
theorem RI.mono {fz fz' : Nat → Option Obj} (h : ∀ b x, fz b = some x → fz' b = some x) {x : IV} {v : Value} (r : RI fz x v) : RI fz' x v := by
  induction r with
  | lit v => exact .lit v
  | nil get sz cap hc => exact .nil get sz cap hc
  | empty get sz a cap hc => exact .empty get sz a cap hc
  | sl get len sz b off cap cs t fr vs h1 h2 h3 h4 h5 ih => exact .sl get len sz b off cap cs t fr vs (h _ _ h1) h2 ih h4 h5
  | ptr get ext b off cs t fr vs h1 h2 h3 ih => exact .ptr get ext b off cs t fr vs (h _ _ h1) h2 ih
def AV.one : AV → Bool
  | .iv (.lit (.agg _)) | .iv (.lit (.tuple _)) | .agg _ | .tup _ => false
  | _ => true
inductive RA (n : Nat) (G : Gh) : AV → Value → Prop
  | iv (x : IV) (v : Value) : RI G.fz x v → RA n G (.iv x) v
  | agg (xs : List AV) (vs : List Value) : xs.length = vs.length → (∀ (i : Nat) (x : AV) (v : Value), xs[i]? = some x → vs[i]? = some v → RA n G x v) → xs.all AV.one = true → RA n G (.agg xs) (.agg vs.toArray)
  | tup (xs : List AV) (vs : List Value) : xs.length = vs.length → (∀ (i : Nat) (x : AV) (v : Value), xs[i]? = some x → vs[i]? = some v → RA n G x v) → RA n G (.tup xs) (.tuple vs.toArray)
  | osl (o off len sz b a cap : Nat) : G.dom o → (G.mu o).1 = b → (0 < cap → a = (G.mu o).2 + off) → len ≤ cap → cap ≤ maxLen → (0 < cap → a + cap * sz ≤ G.sz o) → RA n G (.osl o off len sz) (.slice (some ⟨b, a, none⟩) len cap)
  | onil (o off sz : Nat) : G.dom o → RA n G (.osl o off 0 sz) (.slice none 0 0)
  | optr (o off : Nat) : G.dom o → RA n G (.optr o off) (.pointer (some ⟨(G.mu o).1, (G.mu o).2 + off, none⟩))
  | xptr (o sz : Nat) : G.dom o → (G.mu o).2 = 0 → G.sz o = sz → RA n G (.xptr o sz) (.pointer (some ⟨(G.mu o).1, 0, none⟩))
  | fn (f : FuncId) (first caps : List AV) (vs us : List Value) : first.length = vs.length → caps.length = us.length → (∀ (i : Nat) (x : AV) (v : Value), first[i]? = some x → vs[i]? = some v → RA n G x v) → (∀ (i : Nat) (x : AV) (v : Value), caps[i]? = some x → us[i]? = some v → RA n G x v) →
      RA n G (.fn f first caps) (.func (.func f) vs.toArray us.toArray)
theorem RA.mono {n n' m : Nat} {G G' : Gh} (h : Gh.le m G G') (hn : n ≤ n') {x : AV} {v : Value} (r : RA n G x v) : RA n' G' x v := by
  induction r with
  | iv x v hr => exact .iv x v (hr.mono h.fz)
  | agg xs vs h1 h2 h3 ih => exact .agg xs vs h1 ih h3
  | tup xs vs h1 h2 ih => exact .tup xs vs h1 ih
  | osl o off len sz b a cap h1 h2 h3 h4 h5 h6 => exact .osl o off len sz b a cap (h.dom o h1) (by rw [h.mu o h1]; exact h2) (by rw [h.mu o h1]; exact h3) h4 h5 (by rw [h.sz o h1]; exact h6)
  | onil o off sz h1 => exact .onil o off sz (h.dom o h1)
  | optr o off h1 => rw [← h.mu o h1]; exact .optr o off (h.dom o h1)
  | xptr o sz h1 h2 h3 => rw [← h.mu o h1]; exact .xptr o sz (h.dom o h1) (by rw [h.mu o h1]; exact h2) (by rw [h.sz o h1]; exact h3)
  | fn f first caps vs us h1 h2 h3 h4 ih1 ih2 => exact .fn f first caps vs us h1 h2 ih1 ih2
def RL (n : Nat) (G : Gh) (xs : List AV) (vs : List Value) : Prop := xs.length = vs.length ∧ ∀ (i : Nat) (x : AV) (v : Value), xs[i]? = some x → vs[i]? = some v → RA n G x v
theorem RL.mono {n n' m : Nat} {G G' : Gh} (h : Gh.le m G G') (hn : n ≤ n') {xs : List AV} {vs : List Value} (r : RL n G xs vs) : RL n' G' xs vs :=
  ⟨r.1, fun i x v h1 h2 => (r.2 i x v h1 h2).mono h hn⟩
theorem RL.nil (n : Nat) (G : Gh) : RL n G [] [] := ⟨rfl, fun i x v h => by simp at h⟩
theorem RL.cons {n : Nat} {G : Gh} {x : AV} {v : Value} {xs : List AV} {vs : List Value} (h : RA n G x v) (r : RL n G xs vs) : RL n G (x :: xs) (v :: vs) :=
  ⟨by simp [r.1], fun i y u h1 h2 => by
    cases i with
    | zero => simp at h1 h2; subst h1 h2; exact h
    | succ i => exact r.2 i y u (by simpa using h1) (by simpa using h2)⟩
theorem RL.uncons {n : Nat} {G : Gh} {x : AV} {xs : List AV} {vs : List Value} (r : RL n G (x :: xs) vs) : ∃ v us, vs = v :: us ∧ RA n G x v ∧ RL n G xs us := by
  cases vs with
  | nil => have := r.1; simp at this
  | cons v us => exact ⟨v, us, rfl, r.2 0 x v rfl rfl, by simpa using r.1, fun i y u h1 h2 => r.2 (i + 1) y u (by simpa using h1) (by simpa using h2)⟩
theorem RL.unnil {n : Nat} {G : Gh} {vs : List Value} (r : RL n G [] vs) : vs = [] := List.length_eq_zero_iff.1 r.1.symm
theorem RL.append {n : Nat} {G : Gh} {xs ys : List AV} {vs us : List Value} (r : RL n G xs vs) (s : RL n G ys us) : RL n G (xs ++ ys) (vs ++ us) := by
  induction xs generalizing vs with
  | nil => rw [r.unnil]; exact s
  | cons x xs ih => obtain ⟨v, vs', rfl, h1, h2⟩ := r.uncons; exact RL.cons h1 (ih h2)
theorem RL.at {n : Nat} {G : Gh} {xs : List AV} {vs : List Value} (r : RL n G xs vs) {i : Nat} {x : AV} (h : xs[i]? = some x) : ∃ v, vs[i]? = some v ∧ RA n G x v := by
  have hi : i < xs.length := (List.getElem?_eq_some_iff.1 h).1
  have hi' : i < vs.length := by rw [← r.1]; exact hi
  exact ⟨vs[i], List.getElem?_eq_getElem hi', r.2 i x _ h (List.getElem?_eq_getElem hi')⟩
theorem RL.at_back {n : Nat} {G : Gh} {xs : List AV} {vs : List Value} (r : RL n G xs vs) {i : Nat} {v : Value} (h : vs[i]? = some v) : ∃ x, xs[i]? = some x ∧ RA n G x v := by
  have hi : i < vs.length := (List.getElem?_eq_some_iff.1 h).1
  have hi' : i < xs.length := by rw [r.1]; exact hi
  exact ⟨xs[i], List.getElem?_eq_getElem hi', r.2 i _ v (List.getElem?_eq_getElem hi') h⟩
theorem RL.take {n : Nat} {G : Gh} {xs : List AV} {vs : List Value} (r : RL n G xs vs) (k : Nat) : RL n G (xs.take k) (vs.take k) := by
  refine ⟨by simp [r.1], fun i x v h1 h2 => ?_⟩
  rw [List.getElem?_take] at h1 h2
  split at h1
  · rename_i hlt; rw [if_pos hlt] at h2; exact r.2 i x v h1 h2
  · cases h1
theorem RL.drop {n : Nat} {G : Gh} {xs : List AV} {vs : List Value} (r : RL n G xs vs) (k : Nat) : RL n G (xs.drop k) (vs.drop k) := by
  refine ⟨by simp [r.1], fun i x v h1 h2 => ?_⟩
  rw [List.getElem?_drop] at h1 h2
  exact r.2 _ x v h1 h2
theorem RL.set {n : Nat} {G : Gh} {xs : List AV} {vs : List Value} (r : RL n G xs vs) (k : Nat) {x : AV} {v : Value} (h : RA n G x v) : RL n G (xs.set k x) (vs.set k v) := by
  refine ⟨by simp [r.1], fun i y u h1 h2 => ?_⟩
  rw [List.getElem?_set] at h1 h2
  by_cases hk : k = i
  · subst hk
    rw [if_pos rfl] at h1 h2
    split at h1
    · rename_i hl; rw [if_pos (by rw [← r.1]; exact hl)] at h2; cases h1; cases h2; exact h
    · cases h1
  · rw [if_neg hk] at h1 h2
    exact r.2 i y u h1 h2
def ObjAt (G : Gh) (n : Nat) (w : World) (o : Nat) (x : AObj) : Prop := ∃ cs : Array Value, w.heap[(G.mu o).1]? = some (.cells cs x.t (0, 0)) ∧ cs.size = G.sz o ∧ RL n G x.cells ((cs.toList.drop (G.mu o).2).take x.cells.length) ∧ x.cells.all AV.one = true ∧ G.fz (G.mu o).1 = none ∧ G.kp (G.mu o).1 = none
structure Inv (G : Gh) (H : AHeap) (w : World) : Prop where
  os : w.os = G.os
  tape : w.tape = G.tape
  output : w.output = G.output
  fz : ∀ b x, G.fz b = some x → w.heap[b]? = some x
  kp : ∀ b x, G.kp b = some x → w.heap[b]? = some x
  dom : ∀ o, G.dom o → o < H.length
  live : ∀ o x, H[o]? = some (some x) → G.dom o
  obj : ∀ o x, H[o]? = some (some x) → (x.cells = [] ∧ G.sz o = 0) ∨ (G.sz o ≠ 0 ∧ ObjAt G H.length w o x)
  inj : ∀ o o' x x', H[o]? = some (some x) → H[o']? = some (some x') → o ≠ o' → G.sz o ≠ 0 → G.sz o' ≠ 0 → (G.mu o).1 ≠ (G.mu o').1
theorem Inv.real {G : Gh} {H : AHeap} {w : World} (h : Inv G H w) {o : Nat} {x : AObj} (ho : H[o]? = some (some x)) (hx : x.cells ≠ []) : G.sz o ≠ 0 ∧ ObjAt G H.length w o x :=
  (h.obj o x ho).resolve_left fun e => hx e.1
structure AS where
  fr : List AV
  H : AHeap
structure Rst (G : Gh) (s : AS) (a : Act) (w : World) : Prop where
  defers : a.defers = []
  fr : RL s.H.length G s.fr a.tmps.toList
  inv : Inv G s.H w
end Go.Proofs.YtdaenbgjafalcaaDoor
namespace Go.Proofs.YtdaenbgjafalcaaDoor
open Go.RowKit
set_option linter.unusedVariables false
set_option linter.unusedSimpArgs false
def Post (G : Gh) (n : Nat) (Q : Exit → AS → Prop) : Exit → Act → World → Prop := fun e a w => ∃ G' s', Gh.le n G G' ∧ n ≤ s'.H.length ∧ Rst G' s' a w ∧ Q e s'
def AW (P : Program) (c : Code) (Q : Exit → AS → Prop) (s : AS) : Prop := ∀ G a w, Rst G s a w → c.wp P (Post G s.H.length Q) a w
def AL (P : Program) (ops : Array Oper) (rest : List Oper) (Q : Exit → AS → Prop) (s : AS) : Prop := ∀ G a w, Rst G s a w → wpList P ops (Post G s.H.length Q) rest a w
def CallPost (G : Gh) (n : Nat) (Q : AV → AHeap → Prop) : Ending → World → Prop := fun e w' => ∃ v r G' H', e = .returned v ∧ Gh.le n G G' ∧ n ≤ H'.length ∧ Inv G' H' w' ∧ RA H'.length G' r v ∧ Q r H'
def SC (P : Program) (f : FuncId) (args : List AV) (H : AHeap) (Q : AV → AHeap → Prop) : Prop := ∀ G w vs, Inv G H w → RL H.length G args vs → Calls P f vs.toArray w (CallPost G H.length Q)
theorem Post.step {G G' : Gh} {n n' : Nat} {Q : Exit → AS → Prop} {e : Exit} {a : Act} {w : World} (h : Gh.le n G G') (hn : n ≤ n') (p : Post G' n' Q e a w) : Post G n Q e a w := by
  obtain ⟨G2, s2, h1, h2, h3, h4⟩ := p
  exact ⟨G2, s2, h.trans h1 hn, Nat.le_trans hn h2, h3, h4⟩
theorem Post.now {G : Gh} {s : AS} {Q : Exit → AS → Prop} {e : Exit} {a : Act} {w : World} (h : Rst G s a w) (hq : Q e s) : Post G s.H.length Q e a w := ⟨G, s, Gh.le.refl _ _, Nat.le_refl _, h, hq⟩
def thenA (next : AS → Prop) (Q : Exit → AS → Prop) : Exit → AS → Prop
  | .normal, s => next s
  | e, s => Q e s
def inBlockA (id : Nat) (Q : Exit → AS → Prop) : Exit → AS → Prop
  | .exit id', s => if id' = id then Q .normal s else Q (.exit id') s
  | e, s => Q e s
section
variable {P : Program} {Q : Exit → AS → Prop} {s : AS}
theorem AW.mono {c : Code} {Q' : Exit → AS → Prop} (h : AW P c Q s) (hq : ∀ e s, Q e s → Q' e s) : AW P c Q' s := fun G a w hr =>
  wp_mono (h G a w hr) fun e a w ⟨G', s', h1, h2, h3, h4⟩ => ⟨G', s', h1, h2, h3, hq _ _ h4⟩
def AS.ev (s : AS) : Operand → AV
  | .tmp t => s.fr.getD t uD
  | .const v => lt v
  | .global g => lt (.pointer (some ⟨g, 0, none⟩))
  | .func f => .fn f [] []
theorem RL.getD {n : Nat} {G : Gh} {xs : List AV} {vs : List Value} (r : RL n G xs vs) (t : Nat) : RA n G (xs.getD t uD) (vs.getD t undef) := by
  by_cases h : t < xs.length
  · have h' : t < vs.length := by rw [← r.1]; exact h
    have e1 : xs.getD t uD = xs[t] := by simp [List.getD, h]
    have e2 : vs.getD t undef = vs[t] := by simp [List.getD, h']
    rw [e1, e2]
    exact r.2 t _ _ (List.getElem?_eq_getElem h) (List.getElem?_eq_getElem h')
  · have h' : ¬ t < vs.length := by rw [← r.1]; exact h
    have e1 : xs.getD t uD = uD := by simp [List.getD, List.getElem?_eq_none (Nat.le_of_not_lt h)]
    have e2 : vs.getD t undef = undef := by simp [List.getD, List.getElem?_eq_none (Nat.le_of_not_lt h')]
    rw [e1, e2]
    exact .iv _ _ (.lit _)
theorem Rst.ev {G : Gh} {a : Act} {w : World} (h : Rst G s a w) (x : Operand) : RA s.H.length G (s.ev x) (a.eval x) := by
  cases x with
  | tmp t =>
    have := h.fr.getD t
    simp only [AS.ev, Act.eval]
    rw [show a.tmps.getD t undef = a.tmps.toList.getD t undef by simp [Array.getD, List.getD]; split <;> simp_all]
    exact this
  | const v => exact .iv _ _ (.lit _)
  | global g => exact .iv _ _ (.lit _)
  | func f => exact .fn f [] [] [] [] rfl rfl (fun i x v h => by simp at h) (fun i x v h => by simp at h)
theorem RA.lit_inv {n : Nat} {G : Gh} {v u : Value} (h : RA n G (lt v) u) : u = v := by
  cases h with
  | iv _ _ h => cases h; rfl
def AS.put (s : AS) (d : Option Tmp) (v : AV) : List AV := match d with | some d => s.fr.set d v | none => s.fr
def AS.wanted (s : AS) (ops : Array Oper) (o : Oper) : Option Bool :=
  match o.guard with
  | none => some true
  | some (j, want) => match (ops[j]?).bind (·.dst) with
    | none => some false
    | some d => match s.fr[d]? with
      | none => some false
      | some (.iv (.lit (.bool b))) => some (b == want)
      | some (.iv (.lit (.tuple _))) => some false
      | _ => none
theorem Rst.wanted {G : Gh} {a : Act} {w : World} {ops : Array Oper} {o : Oper} {b : Bool} (h : Rst G s a w) (hw : s.wanted ops o = some b) : Region.wanted o (yielded ops a.tmps) = b := by
  unfold AS.wanted at hw
  unfold Region.wanted yielded
  cases hg : o.guard with
  | none => rw [hg] at hw; simpa using hw
  | some jw =>
    obtain ⟨j, want⟩ := jw
    rw [hg] at hw
    dsimp only at hw ⊢
    cases hj : (ops[j]?).bind (·.dst) with
    | none => rw [hj] at hw; simp at hw; simp [← hw]
    | some d =>
      rw [hj] at hw
      dsimp only at hw
      simp only [Option.bind_some]
      cases hf : s.fr[d]? with
      | none =>
        rw [hf] at hw
        have : a.tmps[d]? = none := by
          rw [← Array.getElem?_toList, List.getElem?_eq_none]
          rw [← h.fr.1]
          exact List.getElem?_eq_none_iff.1 hf
        rw [this]; simp at hw; simp [← hw]
      | some x =>
        rw [hf] at hw
        obtain ⟨v, hv, hr⟩ := h.fr.at hf
        rw [Array.getElem?_toList] at hv
        rw [hv]
        split at hw <;> try (cases hw)
        all_goals simp_all
        · have := hr.lit_inv; subst this; first | exact hw | simp_all
        · have := hr.lit_inv; subst this; simp
theorem Rst.put {G G' : Gh} {s' : AHeap} {a : Act} {w w' : World} {x : AV} {v : Value} (h : Rst G s a w) (hle : Gh.le s.H.length G G') (hn : s.H.length ≤ s'.length) (hi : Inv G' s' w') (hx : RA s'.length G' x v) (d : Option Tmp) : Rst G' ⟨s.put d x, s'⟩ (a.put d v) w' := by
  refine ⟨?_, ?_, hi⟩
  · cases d <;> exact h.defers
  · cases d with
    | none => exact h.fr.mono hle hn
    | some d =>
      simp only [AS.put, Act.put, Array.toList_setIfInBounds]
      exact (h.fr.mono hle hn).set d hx
theorem AL_nil {ops : Array Oper} (h : Q .normal s) : AL P ops [] Q s := fun G a w hr => Post.now hr h
def Gives1 (P : Program) (s : AS) (o : Oper) (x : AV) (H' : AHeap) : Prop := ∀ G a w, Rst G s a w → ∃ G' v w', ((execOp a.eval o).run P w = .ok (.value v) w' ∨ ((execOp a.eval o).run P w = .ok .skip w' ∧ v = undef)) ∧ Gh.le s.H.length G G' ∧ s.H.length ≤ H'.length ∧ Inv G' H' w' ∧ RA H'.length G' x v
theorem wpList_mono {ops : Array Oper} {Q Q' : Exit → Act → World → Prop} (hq : ∀ e a w, Q e a w → Q' e a w) : ∀ (l : List Oper) a w, wpList P ops Q l a w → wpList P ops Q' l a w
  | [], a, w, h => hq _ _ _ h
  | o :: l, a, w, h => by
    unfold wpList at h ⊢
    split
    · rename_i hw
      rw [if_pos hw] at h
      rcases h with h | ⟨h, a0, w0, h2⟩
      · refine .inl ?_
        unfold Oper.wp at *
        generalize (execOp a.eval o).run P w = r at *
        cases r with
        | ok n w' =>
          cases n <;> simp only [Oper.upon] at h ⊢ <;>
            first
              | exact wpList_mono hq l _ _ h
              | exact Calls.mono h (fun e w'' he => by cases e <;> first | exact wpList_mono hq l _ _ he | exact hq _ _ _ he | (obtain ⟨a0, w0, he⟩ := he; exact ⟨a0, w0, hq _ _ _ he⟩))
              | exact Rows.mono h (fun _ _ he => wpList_mono hq l _ _ he)
        | halt x w' => cases x <;> simp only [Oper.upon] at h ⊢ <;> first | exact hq _ _ _ h | exact h
      · exact .inr ⟨h, a0, w0, hq _ _ _ h2⟩
    · rename_i hw
      rw [if_neg hw] at h
      exact wpList_mono hq l _ _ h
end
end Go.Proofs.YtdaenbgjafalcaaDoor
namespace Go.Proofs.YtdaenbgjafalcaaDoor
open Go.RowKit
set_option linter.unusedVariables false
set_option linter.unusedSimpArgs false
def Callable (P : Program) (f : FuncId) : Prop := ∃ fn, P.funcs[f]? = some fn ∧ (fn.name == "runtime.NumGoroutine") = false ∧ fn.body.isNone = false
theorem run_enter {P : Program} {f : FuncId} (h : Callable P f) (args : Array Value) (w : World) : (callFunc f args).run P w = .ok (.enter f args) w := by
  obtain ⟨fn, h1, h2, h3⟩ := h
  have h2' : ¬ fn.name = "runtime.NumGoroutine" := by simpa using h2
  have h3' : ¬ fn.body = none := by cases hb : fn.body <;> simp_all
  simp [callFunc, h1, h2', h3']
structure SF (P : Program) (f : FuncId) (args : List AV) (H : AHeap) (Q : AV → AHeap → Prop) : Prop where
  callable : Callable P f
  calls : SC P f args H Q
theorem SF.mono {P : Program} {f : FuncId} {args : List AV} {H : AHeap} {Q Q' : AV → AHeap → Prop} (h : SF P f args H Q) (hq : ∀ r H', Q r H' → Q' r H') : SF P f args H Q' :=
  ⟨h.callable, fun G w vs hi hr => (h.calls G w vs hi hr).mono fun e w' ⟨v, r, G', H', h1, h2, h3, h4, h5, h6⟩ => ⟨v, r, G', H', h1, h2, h3, h4, h5, hq _ _ h6⟩⟩
section
variable {P : Program} {Q : Exit → AS → Prop} {s : AS}
theorem AS.args {G : Gh} {a : Act} {w : World} (h : Rst G s a w) (l : List Operand) : RL s.H.length G (l.map s.ev) (l.map a.eval) := by
  induction l with
  | nil => exact RL.nil _ _
  | cons x l ih => exact RL.cons (h.ev x) ih
def aresult (P : Program) (s : AS) (load : TypeId → AV → Option AV) : ResultVar → Option AV
  | .tmp t => some (s.fr.getD t uD)
  | .cell a t => load t (s.fr.getD a uD)
def LoadOk (P : Program) (H : AHeap) (load : TypeId → AV → Option AV) : Prop := ∀ t x y, load t x = some y → ∀ G w v, Inv G H w → RA H.length G x v → ∃ a u, v = .pointer (some a) ∧ (loadVar t a).run P w = .ok u w ∧ RA H.length G y u
def aresults (P : Program) (fn : Func) (s : AS) (load : TypeId → AV → Option AV) : Option AV :=
  match fn.results.toList with
  | [] => some (.tup [])
  | [r] => aresult P s load r
  | [r1, r2] => (aresult P s load r1).bind fun x => (aresult P s load r2).bind fun y => some (.tup [x, y])
  | [r1, r2, r3] => (aresult P s load r1).bind fun x => (aresult P s load r2).bind fun y => (aresult P s load r3).bind fun z => some (.tup [x, y, z])
  | [r1, r2, r3, r4] => (aresult P s load r1).bind fun x => (aresult P s load r2).bind fun y => (aresult P s load r3).bind fun z => (aresult P s load r4).bind fun u => some (.tup [x, y, z, u])
  | _ => none
def oneResult (a : Act) : ResultVar → Sem Value
  | .tmp t => pure (a.tmps.getD t undef)
  | .cell b t => do loadVar t (← asAddr (a.tmps.getD b undef))
theorem aresult_run {load : TypeId → AV → Option AV} (hl : LoadOk P s.H load) {G : Gh} {a : Act} {w : World} (hr : Rst G s a w) {rv : ResultVar} {x : AV} (h : aresult P s load rv = some x) : ∃ v, (oneResult a rv).run P w = .ok v w ∧ RA s.H.length G x v := by
  have hg : ∀ t, RA s.H.length G (s.fr.getD t uD) (a.tmps.getD t undef) := fun t => by
    rw [show a.tmps.getD t undef = a.tmps.toList.getD t undef by simp [Array.getD, List.getD]; split <;> simp_all]
    exact hr.fr.getD t
  cases rv with
  | tmp t => simp only [aresult, Option.some.injEq] at h; subst h; exact ⟨_, rfl, hg t⟩
  | cell b t =>
    obtain ⟨ad, u, hv, hrun, hx⟩ := hl t _ _ h G w _ hr.inv (hg b)
    exact ⟨u, by simp [oneResult, hv, asAddr, hrun], hx⟩
def packed (vs : List Value) : Value := match vs with | [v] => v | vs => .tuple vs.toArray
theorem results_run {fn : Func} {a : Act} {w : World} (l : List ResultVar) (hl : fn.results.toList = l) (vs : List Value) (hv : l.length = vs.length) (h : ∀ (i : Nat) r v, l[i]? = some r → vs[i]? = some v → (oneResult a r).run P w = .ok v w) :
    (results fn a.tmps).run P w = .ok (packed vs) w := by
  have e : fn.results = l.toArray := by rw [← hl]
  have key : ∀ (l : List ResultVar) (vs : List Value), l.length = vs.length → (∀ (i : Nat) r v, l[i]? = some r → vs[i]? = some v → (oneResult a r).run P w = .ok v w) → (l.mapM (oneResult a)).run P w = .ok vs w := by
    intro l
    induction l with
    | nil => intro vs hv _; rw [List.length_eq_zero_iff.1 hv.symm]; simp
    | cons r l ih =>
      intro vs hv h
      cases vs with
      | nil => simp at hv
      | cons v vs =>
        have h0 := h 0 r v rfl rfl
        have hi := ih vs (by simpa using hv) (fun i r v h1 h2 => h (i + 1) r v (by simpa using h1) (by simpa using h2))
        simp [List.mapM_cons, h0, hi]
  have hm : (fn.results.mapM (oneResult a)).run P w = .ok vs.toArray w := by
    rw [e, List.mapM_toArray]
    simp [key l vs hv h]
  have e2 : results fn a.tmps = (do let vs ← fn.results.mapM (oneResult a); pure (if h : vs.size = 1 then vs[0] else .tuple vs)) := by
    unfold results
    congr 1
  rw [e2]
  simp only [Sem.run_bind]
  rw [hm]
  simp only [Result.andThen_ok, Sem.run_pure]
  congr 1
  clear hv h hm
  match vs with
  | [] => rfl
  | [v] => rfl
  | v1 :: v2 :: vs => simp [packed]
theorem aresults_run {fn : Func} {load : TypeId → AV → Option AV} (hl : LoadOk P s.H load) {G : Gh} {a : Act} {w : World} (hr : Rst G s a w) {x : AV} (h : aresults P fn s load = some x) : ∃ v, (results fn a.tmps).run P w = .ok v w ∧ RA s.H.length G x v := by
  unfold aresults at h
  split at h
  · rename_i hf
    simp only [Option.some.injEq] at h; subst h
    exact ⟨_, results_run [] hf [] rfl (fun i r v h => by simp at h), .tup [] [] rfl (fun i x v h => by simp at h)⟩
  · rename_i r hf
    obtain ⟨v, h1, h2⟩ := aresult_run hl hr h
    exact ⟨_, results_run [r] hf [v] rfl (fun i r' v' e1 e2 => by
      cases i with
      | zero => simp at e1 e2; subst e1 e2; exact h1
      | succ i => simp at e1), h2⟩
  · rename_i r1 r2 hf
    obtain ⟨x1, k1, h⟩ := Option.bind_eq_some_iff.1 h
    obtain ⟨x2, k2, h⟩ := Option.bind_eq_some_iff.1 h
    simp only [Option.some.injEq] at h; subst h
    obtain ⟨v1, a1, b1⟩ := aresult_run hl hr k1
    obtain ⟨v2, a2, b2⟩ := aresult_run hl hr k2
    refine ⟨_, results_run [r1, r2] hf [v1, v2] rfl (fun i r' v' e1 e2 => ?_), .tup [x1, x2] [v1, v2] rfl (RL.cons b1 (RL.cons b2 (RL.nil _ _))).2⟩
    match i with
    | 0 => simp at e1 e2; subst e1 e2; exact a1
    | 1 => simp at e1 e2; subst e1 e2; exact a2
    | i + 2 => simp at e1
  · rename_i r1 r2 r3 hf
    obtain ⟨x1, k1, h⟩ := Option.bind_eq_some_iff.1 h
    obtain ⟨x2, k2, h⟩ := Option.bind_eq_some_iff.1 h
    obtain ⟨x3, k3, h⟩ := Option.bind_eq_some_iff.1 h
    simp only [Option.some.injEq] at h; subst h
    obtain ⟨v1, a1, b1⟩ := aresult_run hl hr k1
    obtain ⟨v2, a2, b2⟩ := aresult_run hl hr k2
    obtain ⟨v3, a3, b3⟩ := aresult_run hl hr k3
    refine ⟨_, results_run [r1, r2, r3] hf [v1, v2, v3] rfl (fun i r' v' e1 e2 => ?_), .tup [x1, x2, x3] [v1, v2, v3] rfl (RL.cons b1 (RL.cons b2 (RL.cons b3 (RL.nil _ _)))).2⟩
    match i with
    | 0 => simp at e1 e2; subst e1 e2; exact a1
    | 1 => simp at e1 e2; subst e1 e2; exact a2
    | 2 => simp at e1 e2; subst e1 e2; exact a3
    | i + 3 => simp at e1
  · rename_i r1 r2 r3 r4 hf
    obtain ⟨x1, k1, h⟩ := Option.bind_eq_some_iff.1 h
    obtain ⟨x2, k2, h⟩ := Option.bind_eq_some_iff.1 h
    obtain ⟨x3, k3, h⟩ := Option.bind_eq_some_iff.1 h
    obtain ⟨x4, k4, h⟩ := Option.bind_eq_some_iff.1 h
    simp only [Option.some.injEq] at h; subst h
    obtain ⟨v1, a1, b1⟩ := aresult_run hl hr k1
    obtain ⟨v2, a2, b2⟩ := aresult_run hl hr k2
    obtain ⟨v3, a3, b3⟩ := aresult_run hl hr k3
    obtain ⟨v4, a4, b4⟩ := aresult_run hl hr k4
    refine ⟨_, results_run [r1, r2, r3, r4] hf [v1, v2, v3, v4] rfl (fun i r' v' e1 e2 => ?_), .tup [x1, x2, x3, x4] [v1, v2, v3, v4] rfl (RL.cons b1 (RL.cons b2 (RL.cons b3 (RL.cons b4 (RL.nil _ _))))).2⟩
    match i with
    | 0 => simp at e1 e2; subst e1 e2; exact a1
    | 1 => simp at e1 e2; subst e1 e2; exact a2
    | 2 => simp at e1 e2; subst e1 e2; exact a3
    | 3 => simp at e1 e2; subst e1 e2; exact a4
    | i + 4 => simp at e1
  · cases h
def bodyA (P : Program) (fn : Func) (load : AHeap → TypeId → AV → Option AV) (Q : AV → AHeap → Prop) : Exit → AS → Prop
  | .normal, s | .ret, s => ∃ r, aresults P fn s (load s.H) = some r ∧ Q r s.H
  | _, _ => False
end
end Go.Proofs.YtdaenbgjafalcaaDoor
