import Derived.Test.YtcjnikkmjhagmaaGreatDoorMgAA
import Derived.Deep.Fields
import Derived.WalkKit
import Derived.WalkSpells
import Derived.WalkLawsBesides
import Derived.Below
import Derived.OneCell
import Derived.Lib.ItoaNum
namespace Go.Proofs.YtcjnikkmjhagmaaGreatDoor
open Go.ChangeShapes Go.WideShapes Go.ChangeAt Go.RowKit
open Go.Deep (oneCellFields)
set_option linter.unusedVariables false
def StructRow (w : World) (k : Nat) (a : Option Addr) (len cap : Nat) : Prop := len ≤ cap ∧ cap ≤ maxLen ∧ (a = none → cap = 0) ∧ (0 < len → ∃ b off, a = some ⟨b, off, none⟩ ∧ ∀ i, i < len → ∃ g : Nat → Int, ∀ j, j < k → w.cell? ⟨b, off + i * k + j, none⟩ = some (.int .i64 (g j)) ∧ -9223372036854775808 ≤ g j ∧ g j ≤ 9223372036854775807)
theorem open_structs {P : Program} {H : Type} {enc : TypeId × Value → H} {W : World} {base : Nat} {sp : Nat → Bool} {held : Bool} {t e T : TypeId} {a : Option Addr} {len cap : Nat} {x : DataW H} {pl : List MemPlace} {fs : Array Field} {k : Nat}
    (ht : P.underlying t = some (.slice e)) (he : P.underlying e = some (.struct fs)) (hT : P.underlying T = some (.int .i64)) (hall : fs.toList.all (fun f => f.type == T) = true) (hone : oneCellFields P fs = true) (hk : fs.size = k) (hk0 : 0 < k) (hC : P.cellsOf e = k)
    (h : DataW.Trod enc P W base sp held t (.slice a len cap) x pl) : StructRow W k a len cap := by
  obtain ⟨fuel, hf⟩ := h
  rcases Go.Deep.open_slice ht hf with ⟨hcs, _⟩ | ⟨y, l, c, m, n, D, Pl, hcs, _, hl, hm, hmm, _, hi⟩
  · simp [Value.cells] at hcs
    obtain ⟨rfl, rfl, rfl⟩ := hcs
    exact ⟨Nat.le_refl _, Nat.zero_le _, fun _ => rfl, fun h => by omega⟩
  · simp [Value.cells] at hcs
    obtain ⟨rfl, rfl, rfl⟩ := hcs
    have hz' : len ≤ m := by rw [hmm]; split <;> omega
    have hcell : ∀ i, i < len → ∃ g : Nat → Int, ∀ j, j < k → W.cell? (y.add (i * k + j)) = some (.int .i64 (g j)) ∧ -9223372036854775808 ≤ g j ∧ g j ≤ 9223372036854775807 := by
      intro i hlt
      obtain ⟨cs', hc, htr⟩ := hi i (by omega)
      obtain ⟨_, hlen, hat⟩ := World.cells?_some hc
      obtain ⟨ys, n', _, _, _, hyl, hfs⟩ := DataW.trod_struct he htr
      have hone1 : ∀ j, j < k → ∃ v : Int, W.cell? (y.add (i * k + j)) = some (.int .i64 v) ∧ -9223372036854775808 ≤ v ∧ v ≤ 9223372036854775807 := by
        intro j hj
        have hjs : j < fs.size := by omega
        have hfj : fs[j]? = some fs[j] := Array.getElem?_eq_getElem hjs
        obtain ⟨ho, hco⟩ := Go.Deep.hone_of hone j _ hfj
        have hty : fs[j].type = T := by
          have := List.all_eq_true.1 hall fs[j] (by simp)
          simpa using this
        have hjc : j < cs'.length := by rw [hlen, hC]; exact hj
        have h1 := hfs j _ hfj
        rw [ho, hco, hty] at h1
        have h2 : (cs'.drop j).take 1 = [cs'[j]] := by rw [List.drop_eq_getElem_cons hjc]; rfl
        rw [h2, List.getElem?_eq_getElem (by omega : j < ys.length)] at h1
        obtain ⟨v, hv, _, hw⟩ := DataW.trod_int hT h1
        simp only [List.cons.injEq, and_true] at hv
        have h3 := hat j (by rw [hC]; exact hj)
        rw [Go.Deep.add_add, hC, List.getElem?_eq_getElem hjc, hv] at h3
        exact ⟨v, h3, bounds_i64 hw⟩
      obtain ⟨g, hg⟩ := Go.Deep.choose_lt hone1
      exact ⟨g, hg⟩
    refine ⟨hl, hm, (fun h => by cases h), fun hp => ?_⟩
    obtain ⟨b, off, spot⟩ := y
    obtain ⟨g0, hg0⟩ := hcell 0 hp
    have hspot : spot = none := by
      have := (hg0 0 hk0).1
      simpa [Addr.add] using World.cell?_spot this
    subst hspot
    refine ⟨b, off, rfl, fun i hi => ?_⟩
    obtain ⟨g, hg⟩ := hcell i hi
    refine ⟨g, fun j hj => ⟨?_, (hg j hj).2⟩⟩
    have hadd : ∀ n, Addr.add ⟨b, off, none⟩ n = ⟨b, off + n, none⟩ := fun n => by by_cases hn : n = 0 <;> simp [Addr.add, hn]
    have h1 := (hg j hj).1
    rw [hadd, ← Nat.add_assoc] at h1
    exact h1
end Go.Proofs.YtcjnikkmjhagmaaGreatDoor
namespace Go.Proofs.YtcjnikkmjhagmaaGreatDoor
set_option linter.unusedVariables false
set_option linter.unusedSimpArgs false
open Go.RowKit
inductive IV where
  | lit (v : Value)
  | sl (get : Nat → IV) (len sz : Nat)
  | ptr (get : Nat → IV) (ext : Nat)
inductive AV where
  | iv (x : IV)
  | agg (xs : List AV)
  | tup (xs : List AV)
  | osl (o off len sz : Nat)
  | optr (o off : Nat)
  | xptr (o sz : Nat)
  | fn (f : FuncId) (first caps : List AV)
instance : Inhabited AV := ⟨.iv (.lit undef)⟩
abbrev lt (v : Value) : AV := .iv (.lit v)
abbrev uD : AV := .iv (.lit undef)
structure AObj where
  t : TypeId
  cells : List AV
abbrev AHeap := List (Option AObj)
def tabObj (k : IntKind) (zs : List Int) (x : Obj) : Prop := ∃ t fr, x = .cells (zs.map (Value.int k)).toArray t fr
def errObj (x : Obj) : Prop := ∃ te pe t fr, x = .cells #[.iface te pe] t fr
def baseTabs : List (Nat × (Obj → Prop)) := []
def baseOk (fz : Nat → Option Obj) : Prop := ∀ p ∈ baseTabs, ∃ x, fz p.1 = some x ∧ p.2 x
theorem baseOk_up {fz fz' : Nat → Option Obj} (h : ∀ b x, fz b = some x → fz' b = some x) (k : baseOk fz) : baseOk fz' := fun p hp => by
  obtain ⟨x, e, q⟩ := k p hp
  exact ⟨x, h _ _ e, q⟩
class BaseAt (fz : Nat → Option Obj) : Prop where
  ok : baseOk fz
instance {fz : Nat → Option Obj} : BaseAt fz := ⟨fun p hp => by simp [baseTabs] at hp⟩
structure Gh where
  dom : Nat → Prop
  mu : Nat → Nat × Nat
  sz : Nat → Nat
  fz : Nat → Option Obj
  kp : Nat → Option Obj
  os : Os
  tape : Nat → Question → Nat
  output : Array (Nat × ByteArray)
  bs : baseOk fz
structure Gh.le (n : Nat) (G G' : Gh) : Prop where
  mu : ∀ o, G.dom o → G'.mu o = G.mu o
  sz : ∀ o, G.dom o → G'.sz o = G.sz o
  dom : ∀ o, G.dom o → G'.dom o
  back : ∀ o, o < n → G'.dom o → G.dom o
  fz : ∀ b x, G.fz b = some x → G'.fz b = some x
  kp : ∀ b x, G.kp b = some x → G'.kp b = some x
  new : ∀ b x y, G.kp b = some x → G'.fz b = some y → ∃ z, G.fz b = some z
  os : G'.os = G.os
  tape : G'.tape = G.tape
  output : G'.output = G.output
theorem Gh.le.refl (n : Nat) (G : Gh) : Gh.le n G G := ⟨fun _ _ => rfl, fun _ _ => rfl, fun _ h => h, fun _ _ h => h, fun _ _ h => h, fun _ _ h => h, fun _ _ y _ h => ⟨y, h⟩, rfl, rfl, rfl⟩
theorem Gh.le.trans {n m : Nat} {a b c : Gh} (h : Gh.le n a b) (k : Gh.le m b c) (hnm : n ≤ m) : Gh.le n a c :=
  ⟨fun o ho => (k.mu o (h.dom o ho)).trans (h.mu o ho), fun o ho => (k.sz o (h.dom o ho)).trans (h.sz o ho), fun o ho => k.dom o (h.dom o ho), fun o ho hd => h.back o ho (k.back o (by omega) hd), fun b x e => k.fz b x (h.fz b x e), fun b x e => k.kp b x (h.kp b x e), fun b x y e f => (by obtain ⟨z, hz⟩ := k.new b x y (h.kp b x e) f; exact h.new b x z e hz), k.os.trans h.os, k.tape.trans h.tape, k.output.trans h.output⟩
inductive RI (fz : Nat → Option Obj) : IV → Value → Prop
  | lit (v : Value) : RI fz (.lit v) v
  | nil (get : Nat → IV) (sz cap : Nat) : cap ≤ maxLen → RI fz (.sl get 0 sz) (.slice none 0 cap)
  | empty (get : Nat → IV) (sz : Nat) (a : Addr) (cap : Nat) : cap ≤ maxLen → RI fz (.sl get 0 sz) (.slice (some a) 0 cap)
  | sl (get : Nat → IV) (len sz b off cap : Nat) (cs : Array Value) (t : TypeId) (fr : Nat × Nat) (vs : Nat → Value) :
      fz b = some (.cells cs t fr) → (∀ j, j < len * sz → cs[off + j]? = some (vs j)) → (∀ j, j < len * sz → RI fz (get j) (vs j)) → len ≤ cap → cap ≤ maxLen →
      RI fz (.sl get len sz) (.slice (some ⟨b, off, none⟩) len cap)
  | ptr (get : Nat → IV) (ext b off : Nat) (cs : Array Value) (t : TypeId) (fr : Nat × Nat) (vs : Nat → Value) :
      fz b = some (.cells cs t fr) → (∀ j, j < ext → cs[off + j]? = some (vs j)) → (∀ j, j < ext → RI fz (get j) (vs j)) →
      RI fz (.ptr get ext) (.pointer (some ⟨b, off, none⟩))
theorem RI.mono {fz fz' : Nat → Option Obj} (h : ∀ b x, fz b = some x → fz' b = some x) {x : IV} {v : Value} (r : RI fz x v) : RI fz' x v := by
  induction r with
  | lit v => exact .lit v
  | nil get sz cap hc => exact .nil get sz cap hc
  | empty get sz a cap hc => exact .empty get sz a cap hc
  | sl get len sz b off cap cs t fr vs h1 h2 h3 h4 h5 ih => exact .sl get len sz b off cap cs t fr vs (h _ _ h1) h2 ih h4 h5
  | ptr get ext b off cs t fr vs h1 h2 h3 ih => exact .ptr get ext b off cs t fr vs (h _ _ h1) h2 ih
def AV.one : AV → Bool
  | .iv (.lit (.agg _)) | .iv (.lit (.tuple _)) | .agg _ | .tup _ => false
  | _ => true
inductive RA (n : Nat) (G : Gh) : AV → Value → Prop
  | iv (x : IV) (v : Value) : RI G.fz x v → RA n G (.iv x) v
  | agg (xs : List AV) (vs : List Value) : xs.length = vs.length → (∀ (i : Nat) (x : AV) (v : Value), xs[i]? = some x → vs[i]? = some v → RA n G x v) → xs.all AV.one = true → RA n G (.agg xs) (.agg vs.toArray)
  | tup (xs : List AV) (vs : List Value) : xs.length = vs.length → (∀ (i : Nat) (x : AV) (v : Value), xs[i]? = some x → vs[i]? = some v → RA n G x v) → RA n G (.tup xs) (.tuple vs.toArray)
  | osl (o off len sz b a cap : Nat) : G.dom o → (G.mu o).1 = b → (0 < cap → a = (G.mu o).2 + off) → len ≤ cap → cap ≤ maxLen → (0 < cap → a + cap * sz ≤ G.sz o) → RA n G (.osl o off len sz) (.slice (some ⟨b, a, none⟩) len cap)
  | onil (o off sz : Nat) : G.dom o → RA n G (.osl o off 0 sz) (.slice none 0 0)
  | optr (o off : Nat) : G.dom o → RA n G (.optr o off) (.pointer (some ⟨(G.mu o).1, (G.mu o).2 + off, none⟩))
  | xptr (o sz : Nat) : G.dom o → (G.mu o).2 = 0 → G.sz o = sz → RA n G (.xptr o sz) (.pointer (some ⟨(G.mu o).1, 0, none⟩))
  | fn (f : FuncId) (first caps : List AV) (vs us : List Value) : first.length = vs.length → caps.length = us.length → (∀ (i : Nat) (x : AV) (v : Value), first[i]? = some x → vs[i]? = some v → RA n G x v) → (∀ (i : Nat) (x : AV) (v : Value), caps[i]? = some x → us[i]? = some v → RA n G x v) →
      RA n G (.fn f first caps) (.func (.func f) vs.toArray us.toArray)
theorem RA.mono {n n' m : Nat} {G G' : Gh} (h : Gh.le m G G') (hn : n ≤ n') {x : AV} {v : Value} (r : RA n G x v) : RA n' G' x v := by
  induction r with
  | iv x v hr => exact .iv x v (hr.mono h.fz)
  | agg xs vs h1 h2 h3 ih => exact .agg xs vs h1 ih h3
  | tup xs vs h1 h2 ih => exact .tup xs vs h1 ih
  | osl o off len sz b a cap h1 h2 h3 h4 h5 h6 => exact .osl o off len sz b a cap (h.dom o h1) (by rw [h.mu o h1]; exact h2) (by rw [h.mu o h1]; exact h3) h4 h5 (by rw [h.sz o h1]; exact h6)
  | onil o off sz h1 => exact .onil o off sz (h.dom o h1)
  | optr o off h1 => rw [← h.mu o h1]; exact .optr o off (h.dom o h1)
  | xptr o sz h1 h2 h3 => rw [← h.mu o h1]; exact .xptr o sz (h.dom o h1) (by rw [h.mu o h1]; exact h2) (by rw [h.sz o h1]; exact h3)
  | fn f first caps vs us h1 h2 h3 h4 ih1 ih2 => exact .fn f first caps vs us h1 h2 ih1 ih2
def RL (n : Nat) (G : Gh) (xs : List AV) (vs : List Value) : Prop := xs.length = vs.length ∧ ∀ (i : Nat) (x : AV) (v : Value), xs[i]? = some x → vs[i]? = some v → RA n G x v
theorem RL.mono {n n' m : Nat} {G G' : Gh} (h : Gh.le m G G') (hn : n ≤ n') {xs : List AV} {vs : List Value} (r : RL n G xs vs) : RL n' G' xs vs :=
  ⟨r.1, fun i x v h1 h2 => (r.2 i x v h1 h2).mono h hn⟩
theorem RL.nil (n : Nat) (G : Gh) : RL n G [] [] := ⟨rfl, fun i x v h => by simp at h⟩
theorem RL.cons {n : Nat} {G : Gh} {x : AV} {v : Value} {xs : List AV} {vs : List Value} (h : RA n G x v) (r : RL n G xs vs) : RL n G (x :: xs) (v :: vs) :=
  ⟨by simp [r.1], fun i y u h1 h2 => by
    cases i with
    | zero => simp at h1 h2; subst h1 h2; exact h
    | succ i => exact r.2 i y u (by simpa using h1) (by simpa using h2)⟩
theorem RL.uncons {n : Nat} {G : Gh} {x : AV} {xs : List AV} {vs : List Value} (r : RL n G (x :: xs) vs) : ∃ v us, vs = v :: us ∧ RA n G x v ∧ RL n G xs us := by
  cases vs with
  | nil => have := r.1; simp at this
  | cons v us => exact ⟨v, us, rfl, r.2 0 x v rfl rfl, by simpa using r.1, fun i y u h1 h2 => r.2 (i + 1) y u (by simpa using h1) (by simpa using h2)⟩
theorem RL.unnil {n : Nat} {G : Gh} {vs : List Value} (r : RL n G [] vs) : vs = [] := List.length_eq_zero_iff.1 r.1.symm
theorem RL.append {n : Nat} {G : Gh} {xs ys : List AV} {vs us : List Value} (r : RL n G xs vs) (s : RL n G ys us) : RL n G (xs ++ ys) (vs ++ us) := by
  induction xs generalizing vs with
  | nil => rw [r.unnil]; exact s
  | cons x xs ih => obtain ⟨v, vs', rfl, h1, h2⟩ := r.uncons; exact RL.cons h1 (ih h2)
theorem RL.at {n : Nat} {G : Gh} {xs : List AV} {vs : List Value} (r : RL n G xs vs) {i : Nat} {x : AV} (h : xs[i]? = some x) : ∃ v, vs[i]? = some v ∧ RA n G x v := by
  have hi : i < xs.length := (List.getElem?_eq_some_iff.1 h).1
  have hi' : i < vs.length := by rw [← r.1]; exact hi
  exact ⟨vs[i], List.getElem?_eq_getElem hi', r.2 i x _ h (List.getElem?_eq_getElem hi')⟩
theorem RL.at_back {n : Nat} {G : Gh} {xs : List AV} {vs : List Value} (r : RL n G xs vs) {i : Nat} {v : Value} (h : vs[i]? = some v) : ∃ x, xs[i]? = some x ∧ RA n G x v := by
  have hi : i < vs.length := (List.getElem?_eq_some_iff.1 h).1
  have hi' : i < xs.length := by rw [r.1]; exact hi
  exact ⟨xs[i], List.getElem?_eq_getElem hi', r.2 i _ v (List.getElem?_eq_getElem hi') h⟩
theorem RL.take {n : Nat} {G : Gh} {xs : List AV} {vs : List Value} (r : RL n G xs vs) (k : Nat) : RL n G (xs.take k) (vs.take k) := by
  refine ⟨by simp [r.1], fun i x v h1 h2 => ?_⟩
  rw [List.getElem?_take] at h1 h2
  split at h1
  · rename_i hlt; rw [if_pos hlt] at h2; exact r.2 i x v h1 h2
  · cases h1
theorem RL.drop {n : Nat} {G : Gh} {xs : List AV} {vs : List Value} (r : RL n G xs vs) (k : Nat) : RL n G (xs.drop k) (vs.drop k) := by
  refine ⟨by simp [r.1], fun i x v h1 h2 => ?_⟩
  rw [List.getElem?_drop] at h1 h2
  exact r.2 _ x v h1 h2
theorem RL.set {n : Nat} {G : Gh} {xs : List AV} {vs : List Value} (r : RL n G xs vs) (k : Nat) {x : AV} {v : Value} (h : RA n G x v) : RL n G (xs.set k x) (vs.set k v) := by
  refine ⟨by simp [r.1], fun i y u h1 h2 => ?_⟩
  rw [List.getElem?_set] at h1 h2
  by_cases hk : k = i
  · subst hk
    rw [if_pos rfl] at h1 h2
    split at h1
    · rename_i hl; rw [if_pos (by rw [← r.1]; exact hl)] at h2; cases h1; cases h2; exact h
    · cases h1
  · rw [if_neg hk] at h1 h2
    exact r.2 i y u h1 h2
def ObjAt (G : Gh) (n : Nat) (w : World) (o : Nat) (x : AObj) : Prop := ∃ cs : Array Value, w.heap[(G.mu o).1]? = some (.cells cs x.t (0, 0)) ∧ cs.size = G.sz o ∧ RL n G x.cells ((cs.toList.drop (G.mu o).2).take x.cells.length) ∧ x.cells.all AV.one = true ∧ G.fz (G.mu o).1 = none ∧ G.kp (G.mu o).1 = none
structure Inv (G : Gh) (H : AHeap) (w : World) : Prop where
  os : w.os = G.os
  tape : w.tape = G.tape
  output : w.output = G.output
  fz : ∀ b x, G.fz b = some x → w.heap[b]? = some x
  kp : ∀ b x, G.kp b = some x → w.heap[b]? = some x
  dom : ∀ o, G.dom o → o < H.length
  live : ∀ o x, H[o]? = some (some x) → G.dom o
  obj : ∀ o x, H[o]? = some (some x) → (x.cells = [] ∧ G.sz o = 0) ∨ (G.sz o ≠ 0 ∧ ObjAt G H.length w o x)
  inj : ∀ o o' x x', H[o]? = some (some x) → H[o']? = some (some x') → o ≠ o' → G.sz o ≠ 0 → G.sz o' ≠ 0 → (G.mu o).1 ≠ (G.mu o').1
theorem Inv.real {G : Gh} {H : AHeap} {w : World} (h : Inv G H w) {o : Nat} {x : AObj} (ho : H[o]? = some (some x)) (hx : x.cells ≠ []) : G.sz o ≠ 0 ∧ ObjAt G H.length w o x :=
  (h.obj o x ho).resolve_left fun e => hx e.1
structure AS where
  fr : List AV
  H : AHeap
structure Rst (G : Gh) (s : AS) (a : Act) (w : World) : Prop where
  defers : a.defers = []
  fr : RL s.H.length G s.fr a.tmps.toList
  inv : Inv G s.H w
end Go.Proofs.YtcjnikkmjhagmaaGreatDoor
namespace Go.Proofs.YtcjnikkmjhagmaaGreatDoor
open Go.RowKit
set_option linter.unusedVariables false
set_option linter.unusedSimpArgs false
def Post (G : Gh) (n : Nat) (Q : Exit → AS → Prop) : Exit → Act → World → Prop := fun e a w => ∃ G' s', Gh.le n G G' ∧ n ≤ s'.H.length ∧ Rst G' s' a w ∧ Q e s'
def AW (P : Program) (c : Code) (Q : Exit → AS → Prop) (s : AS) : Prop := ∀ G a w, Rst G s a w → c.wp P (Post G s.H.length Q) a w
def AL (P : Program) (ops : Array Oper) (rest : List Oper) (Q : Exit → AS → Prop) (s : AS) : Prop := ∀ G a w, Rst G s a w → wpList P ops (Post G s.H.length Q) rest a w
def CallPost (G : Gh) (n : Nat) (Q : AV → AHeap → Prop) : Ending → World → Prop := fun e w' => ∃ v r G' H', e = .returned v ∧ Gh.le n G G' ∧ n ≤ H'.length ∧ Inv G' H' w' ∧ RA H'.length G' r v ∧ Q r H'
def SC (P : Program) (f : FuncId) (args : List AV) (H : AHeap) (Q : AV → AHeap → Prop) : Prop := ∀ G w vs, Inv G H w → RL H.length G args vs → Calls P f vs.toArray w (CallPost G H.length Q)
theorem Post.step {G G' : Gh} {n n' : Nat} {Q : Exit → AS → Prop} {e : Exit} {a : Act} {w : World} (h : Gh.le n G G') (hn : n ≤ n') (p : Post G' n' Q e a w) : Post G n Q e a w := by
  obtain ⟨G2, s2, h1, h2, h3, h4⟩ := p
  exact ⟨G2, s2, h.trans h1 hn, Nat.le_trans hn h2, h3, h4⟩
theorem Post.now {G : Gh} {s : AS} {Q : Exit → AS → Prop} {e : Exit} {a : Act} {w : World} (h : Rst G s a w) (hq : Q e s) : Post G s.H.length Q e a w := ⟨G, s, Gh.le.refl _ _, Nat.le_refl _, h, hq⟩
def thenA (next : AS → Prop) (Q : Exit → AS → Prop) : Exit → AS → Prop
  | .normal, s => next s
  | e, s => Q e s
def inBlockA (id : Nat) (Q : Exit → AS → Prop) : Exit → AS → Prop
  | .exit id', s => if id' = id then Q .normal s else Q (.exit id') s
  | e, s => Q e s
section
variable {P : Program} {Q : Exit → AS → Prop} {s : AS}
theorem AW.mono {c : Code} {Q' : Exit → AS → Prop} (h : AW P c Q s) (hq : ∀ e s, Q e s → Q' e s) : AW P c Q' s := fun G a w hr =>
  wp_mono (h G a w hr) fun e a w ⟨G', s', h1, h2, h3, h4⟩ => ⟨G', s', h1, h2, h3, hq _ _ h4⟩
def AS.ev (s : AS) : Operand → AV
  | .tmp t => s.fr.getD t uD
  | .const v => lt v
  | .global g => lt (.pointer (some ⟨g, 0, none⟩))
  | .func f => .fn f [] []
theorem RL.getD {n : Nat} {G : Gh} {xs : List AV} {vs : List Value} (r : RL n G xs vs) (t : Nat) : RA n G (xs.getD t uD) (vs.getD t undef) := by
  by_cases h : t < xs.length
  · have h' : t < vs.length := by rw [← r.1]; exact h
    have e1 : xs.getD t uD = xs[t] := by simp [List.getD, h]
    have e2 : vs.getD t undef = vs[t] := by simp [List.getD, h']
    rw [e1, e2]
    exact r.2 t _ _ (List.getElem?_eq_getElem h) (List.getElem?_eq_getElem h')
  · have h' : ¬ t < vs.length := by rw [← r.1]; exact h
    have e1 : xs.getD t uD = uD := by simp [List.getD, List.getElem?_eq_none (Nat.le_of_not_lt h)]
    have e2 : vs.getD t undef = undef := by simp [List.getD, List.getElem?_eq_none (Nat.le_of_not_lt h')]
    rw [e1, e2]
    exact .iv _ _ (.lit _)
theorem Rst.ev {G : Gh} {a : Act} {w : World} (h : Rst G s a w) (x : Operand) : RA s.H.length G (s.ev x) (a.eval x) := by
  cases x with
  | tmp t =>
    have := h.fr.getD t
    simp only [AS.ev, Act.eval]
    rw [show a.tmps.getD t undef = a.tmps.toList.getD t undef by simp [Array.getD, List.getD]; split <;> simp_all]
    exact this
  | const v => exact .iv _ _ (.lit _)
  | global g => exact .iv _ _ (.lit _)
  | func f => exact .fn f [] [] [] [] rfl rfl (fun i x v h => by simp at h) (fun i x v h => by simp at h)
theorem RA.lit_inv {n : Nat} {G : Gh} {v u : Value} (h : RA n G (lt v) u) : u = v := by
  cases h with
  | iv _ _ h => cases h; rfl
def AS.put (s : AS) (d : Option Tmp) (v : AV) : List AV := match d with | some d => s.fr.set d v | none => s.fr
def AS.wanted (s : AS) (ops : Array Oper) (o : Oper) : Option Bool :=
  match o.guard with
  | none => some true
  | some (j, want) => match (ops[j]?).bind (·.dst) with
    | none => some false
    | some d => match s.fr[d]? with
      | none => some false
      | some (.iv (.lit (.bool b))) => some (b == want)
      | some (.iv (.lit (.tuple _))) => some false
      | _ => none
theorem Rst.wanted {G : Gh} {a : Act} {w : World} {ops : Array Oper} {o : Oper} {b : Bool} (h : Rst G s a w) (hw : s.wanted ops o = some b) : Region.wanted o (yielded ops a.tmps) = b := by
  unfold AS.wanted at hw
  unfold Region.wanted yielded
  cases hg : o.guard with
  | none => rw [hg] at hw; simpa using hw
  | some jw =>
    obtain ⟨j, want⟩ := jw
    rw [hg] at hw
    dsimp only at hw ⊢
    cases hj : (ops[j]?).bind (·.dst) with
    | none => rw [hj] at hw; simp at hw; simp [← hw]
    | some d =>
      rw [hj] at hw
      dsimp only at hw
      simp only [Option.bind_some]
      cases hf : s.fr[d]? with
      | none =>
        rw [hf] at hw
        have : a.tmps[d]? = none := by
          rw [← Array.getElem?_toList, List.getElem?_eq_none]
          rw [← h.fr.1]
          exact List.getElem?_eq_none_iff.1 hf
        rw [this]; simp at hw; simp [← hw]
      | some x =>
        rw [hf] at hw
        obtain ⟨v, hv, hr⟩ := h.fr.at hf
        rw [Array.getElem?_toList] at hv
        rw [hv]
        split at hw <;> try (cases hw)
        all_goals simp_all
        · have := hr.lit_inv; subst this; first | exact hw | simp_all
        · have := hr.lit_inv; subst this; simp
theorem Rst.put {G G' : Gh} {s' : AHeap} {a : Act} {w w' : World} {x : AV} {v : Value} (h : Rst G s a w) (hle : Gh.le s.H.length G G') (hn : s.H.length ≤ s'.length) (hi : Inv G' s' w') (hx : RA s'.length G' x v) (d : Option Tmp) : Rst G' ⟨s.put d x, s'⟩ (a.put d v) w' := by
  refine ⟨?_, ?_, hi⟩
  · cases d <;> exact h.defers
  · cases d with
    | none => exact h.fr.mono hle hn
    | some d =>
      simp only [AS.put, Act.put, Array.toList_setIfInBounds]
      exact (h.fr.mono hle hn).set d hx
theorem AL_nil {ops : Array Oper} (h : Q .normal s) : AL P ops [] Q s := fun G a w hr => Post.now hr h
def Gives1 (P : Program) (s : AS) (o : Oper) (x : AV) (H' : AHeap) : Prop := ∀ G a w, Rst G s a w → ∃ G' v w', ((execOp a.eval o).run P w = .ok (.value v) w' ∨ ((execOp a.eval o).run P w = .ok .skip w' ∧ v = undef)) ∧ Gh.le s.H.length G G' ∧ s.H.length ≤ H'.length ∧ Inv G' H' w' ∧ RA H'.length G' x v
theorem wpList_mono {ops : Array Oper} {Q Q' : Exit → Act → World → Prop} (hq : ∀ e a w, Q e a w → Q' e a w) : ∀ (l : List Oper) a w, wpList P ops Q l a w → wpList P ops Q' l a w
  | [], a, w, h => hq _ _ _ h
  | o :: l, a, w, h => by
    unfold wpList at h ⊢
    split
    · rename_i hw
      rw [if_pos hw] at h
      rcases h with h | ⟨h, a0, w0, h2⟩
      · refine .inl ?_
        unfold Oper.wp at *
        generalize (execOp a.eval o).run P w = r at *
        cases r with
        | ok n w' =>
          cases n <;> simp only [Oper.upon] at h ⊢ <;>
            first
              | exact wpList_mono hq l _ _ h
              | exact Calls.mono h (fun e w'' he => by cases e <;> first | exact wpList_mono hq l _ _ he | exact hq _ _ _ he | (obtain ⟨a0, w0, he⟩ := he; exact ⟨a0, w0, hq _ _ _ he⟩))
              | exact Rows.mono h (fun _ _ he => wpList_mono hq l _ _ he)
        | halt x w' => cases x <;> simp only [Oper.upon] at h ⊢ <;> first | exact hq _ _ _ h | exact h
      · exact .inr ⟨h, a0, w0, hq _ _ _ h2⟩
    · rename_i hw
      rw [if_neg hw] at h
      exact wpList_mono hq l _ _ h
end
end Go.Proofs.YtcjnikkmjhagmaaGreatDoor
