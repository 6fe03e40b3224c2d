import Derived.Test.YtpfbcjlgbdbcpaaMgAM
import Derived.Test.YtpfbcjlgbdbcpaaMgAL
namespace Go.Proofs.Ytpfbcjlgbdbcpaa
set_option linter.unusedVariables false
def fb (err : Nat → Int) : Nat → Nat
  | 0 => 0
  | n + 1 => if fb err n < n then fb err n else if err n ≠ 0 then n else n + 1
theorem fb_le (err : Nat → Int) : ∀ n, fb err n ≤ n
  | 0 => Nat.le_refl _
  | n + 1 => by
    have := fb_le err n
    unfold fb
    split
    · omega
    · split <;> omega
theorem fb_all {err : Nat → Int} : ∀ {n : Nat}, (∀ j, j < n → err j = 0) → fb err n = n
  | 0, _ => rfl
  | n + 1, h => by
    have ih := fb_all (n := n) fun j hj => h j (by omega)
    unfold fb
    rw [ih, if_neg (by omega), if_neg (by rw [h n (by omega)]; simp)]
theorem fb_at {err : Nat → Int} {i : Nat} (h : ∀ j, j < i → err j = 0) (hi : err i ≠ 0) : ∀ {n : Nat}, i < n → fb err n = i
  | 0, hn => by omega
  | n + 1, hn => by
    unfold fb
    rcases Nat.lt_or_ge i n with h1 | h1
    · rw [fb_at h hi h1, if_pos h1]
    · obtain rfl : i = n := by omega
      rw [fb_all h, if_neg (by omega), if_pos hi]
theorem fb_before {err : Nat → Int} : ∀ {n j : Nat}, j < fb err n → err j = 0
  | 0, j, h => by unfold fb at h; omega
  | n + 1, j, h => by
    unfold fb at h
    split at h
    · exact fb_before h
    · rename_i h1
      have h2 := fb_le err n
      have h3 : fb err n = n := by omega
      split at h
      · exact fb_before (n := n) (by omega)
      · rename_i h4
        rcases Nat.lt_or_ge j n with h5 | h5
        · exact fb_before (n := n) (by omega)
        · obtain rfl : j = n := by omega
          simpa using h4
theorem fb_bad {err : Nat → Int} : ∀ {n : Nat}, fb err n < n → err (fb err n) ≠ 0
  | 0, h => by omega
  | n + 1, h => by
    by_cases h1 : fb err n < n
    · have e : fb err (n + 1) = fb err n := by rw [fb, if_pos h1]
      rw [e]; exact fb_bad h1
    · by_cases h2 : err n ≠ 0
      · have e : fb err (n + 1) = n := by rw [fb, if_neg h1, if_pos h2]
        rw [e]; exact h2
      · have e : fb err (n + 1) = n + 1 := by rw [fb, if_neg h1, if_neg h2]
        rw [e] at h; omega
theorem fb_eq {err : Nat → Int} {n : Nat} : fb err n = n ↔ ∀ j, j < n → err j = 0 := ⟨fun h j hj => fb_before (n := n) (by omega), fb_all⟩
structure Rw where
  s : Int
  k : Int
  n : Int
  r : Int
def rwAt (xs : List Rw) (i : Nat) : Rw := xs.getD i ⟨0, 0, 0, 0⟩
structure Ob where
  S : Int
  K : Int
  I : Int
  R : List Rw
def obHead (o : Ob) : Prop := 1 ≤ o.S ∧ o.S ≤ 32 ∧ 1 ≤ o.K ∧ o.K ≤ 64 ∧ 0 ≤ o.I ∧ o.I < o.S
instance (o : Ob) : Decidable (obHead o) := by unfold obHead; infer_instance
def rises (a b : Rw) : Prop := a.s < b.s ∨ (a.s = b.s ∧ a.k < b.k)
instance (a b : Rw) : Decidable (rises a b) := by unfold rises; infer_instance
def obErr (o : Ob) (i : Nat) : Int :=
  if ¬ (0 ≤ (rwAt o.R i).s ∧ (rwAt o.R i).s < o.S) ∨ ¬ (0 ≤ (rwAt o.R i).n ∧ (rwAt o.R i).n < o.S) then 30 else if ¬ (0 ≤ (rwAt o.R i).k ∧ (rwAt o.R i).k < o.K) then 31 else if ¬ (0 ≤ (rwAt o.R i).r ∧ (rwAt o.R i).r ≤ 1000000) then 7 else if 0 < i ∧ ¬ rises (rwAt o.R (i - 1)) (rwAt o.R i) then 32 else 0
def obBad (o : Ob) : Nat := fb (obErr o) o.R.length
def obAt (o : Ob) : Int := if obHead o then (obBad o : Int) else -1
def obE (o : Ob) : Int := if obHead o then (if obBad o < o.R.length then obErr o (obBad o) else 0) else 2
theorem obE_zero {o : Ob} : obE o = 0 ↔ obHead o ∧ ∀ i, i < o.R.length → obErr o i = 0 := by
  unfold obE obBad
  by_cases h : obHead o
  · rw [if_pos h]
    have h1 := fb_le (obErr o) o.R.length
    by_cases h2 : fb (obErr o) o.R.length < o.R.length
    · rw [if_pos h2]
      exact ⟨fun h3 => absurd h3 (fb_bad h2), fun h3 => h3.2 _ h2⟩
    · rw [if_neg h2]
      exact ⟨fun _ => ⟨h, fb_eq.1 (by omega)⟩, fun _ => rfl⟩
  · rw [if_neg h]
    exact ⟨fun h2 => by omega, fun h2 => absurd h2.1 h⟩
def mvAt (o : Ob) (st kd : Int) (i : Nat) : Bool := decide ((rwAt o.R i).s = st ∧ (rwAt o.R i).k = kd)
def mvErr (o : Ob) (st kd : Int) (i : Nat) : Int := if mvAt o st kd i = true then 1 else 0
def mvI (o : Ob) (st kd : Int) : Nat := fb (mvErr o st kd) o.R.length
def mvOk (o : Ob) (st kd : Int) : Bool := decide (mvI o st kd < o.R.length)
def mvN (o : Ob) (st kd : Int) : Int := if mvI o st kd < o.R.length then (rwAt o.R (mvI o st kd)).n else 0
def mvR (o : Ob) (st kd : Int) : Int := if mvI o st kd < o.R.length then (rwAt o.R (mvI o st kd)).r else 0
theorem mvI_at {o : Ob} {st kd : Int} {i : Nat} (h : ∀ j, j < i → mvAt o st kd j = false) (hi : mvAt o st kd i = true) (hl : i < o.R.length) : mvI o st kd = i :=
  fb_at (fun j hj => by unfold mvErr; rw [h j hj]; rfl) (by unfold mvErr; rw [if_pos hi]; decide) hl
theorem mvI_no {o : Ob} {st kd : Int} (h : ∀ j, j < o.R.length → mvAt o st kd j = false) : mvI o st kd = o.R.length :=
  fb_all fun j hj => by unfold mvErr; rw [h j hj]; rfl
def stN (o : Ob) (st kd res : Int) : Int := if (0 ≤ st ∧ st < o.S) ∧ mvOk o st kd = true ∧ mvR o st kd = res then mvN o st kd else 0
def stE (o : Ob) (st kd res : Int) : Int := if ¬ (0 ≤ st ∧ st < o.S) then 30 else if mvOk o st kd = true ∧ mvR o st kd = res then 0 else 40
structure Pk where
  o : Int
  r : Int
def pkAt (ps : List Pk) (i : Nat) : Pk := ps.getD i ⟨0, 0⟩
def pkOp (l : List Op5) (p : Pk) : Op5 := oAt l p.o.toNat
def rSt (o : Ob) (l : List Op5) (st : Int) (ps : List Pk) : Nat → Int
  | 0 => st
  | i + 1 => stN o (rSt o l st ps i) (pkOp l (pkAt ps i)).k (pkAt ps i).r
def pkIn (l : List Op5) (p : Pk) : Prop := 0 ≤ p.o ∧ p.o < l.length
instance (l : List Op5) (p : Pk) : Decidable (pkIn l p) := by unfold pkIn; infer_instance
def pkDup (ps : List Pk) (i : Nat) (x : Int) : Prop := ∃ k, k < i ∧ (pkAt ps k).o = x
instance (ps : List Pk) (i : Nat) (x : Int) : Decidable (pkDup ps i x) := by unfold pkDup; infer_instance
def pkE (o : Ob) (l : List Op5) (st : Int) (ps : List Pk) (i : Nat) : Int :=
  if ¬ pkIn l (pkAt ps i) then 2 else if pkDup ps i (pkAt ps i).o then 21 else if stE o (rSt o l st ps i) (pkOp l (pkAt ps i)).k (pkAt ps i).r ≠ 0 then stE o (rSt o l st ps i) (pkOp l (pkAt ps i)).k (pkAt ps i).r else if (pkOp l (pkAt ps i)).e ≠ -1 ∧ (pkOp l (pkAt ps i)).r ≠ (pkAt ps i).r then 40 else 0
def rBad (o : Ob) (l : List Op5) (st : Int) (ps : List Pk) : Nat := fb (pkE o l st ps) ps.length
def rOk (o : Ob) (l : List Op5) (st : Int) (ps : List Pk) : Prop := obE o = 0 ∧ (0 ≤ st ∧ st < o.S) ∧ ∀ i, i < ps.length → pkE o l st ps i = 0
def rEnd (o : Ob) (l : List Op5) (st : Int) (ps : List Pk) : Int := if obE o = 0 ∧ (0 ≤ st ∧ st < o.S) ∧ rBad o l st ps = ps.length then rSt o l st ps ps.length else 0
def rAt (o : Ob) (l : List Op5) (st : Int) (ps : List Pk) : Int := if obE o = 0 ∧ (0 ≤ st ∧ st < o.S) then (rBad o l st ps : Int) else -1
def rErr (o : Ob) (l : List Op5) (st : Int) (ps : List Pk) : Int := if obE o ≠ 0 then 2 else if ¬ (0 ≤ st ∧ st < o.S) then 30 else if rBad o l st ps < ps.length then pkE o l st ps (rBad o l st ps) else 0
def flP (o : Ob) (l : List Op5) (ord : List Int) : Nat → List Pk
  | 0 => []
  | i + 1 => flP o l ord i ++ [⟨ord.getD i 0, if 0 ≤ ord.getD i 0 ∧ ord.getD i 0 < l.length then mvR o (rSt o l o.I (flP o l ord i) i) (oAt l (ord.getD i 0).toNat).k else 0⟩]
end Go.Proofs.Ytpfbcjlgbdbcpaa
namespace Go.Proofs.Ytpfbcjlgbdbcpaa
set_option linter.unusedVariables false
def nbL (D : List Bool) : Nat → List Int
  | 0 => []
  | k + 1 => if D.getD k false = true then nbL D k ++ [(k : Int)] else nbL D k
theorem nbL_len (D : List Bool) : ∀ k, (nbL D k).length ≤ k
  | 0 => Nat.le_refl _
  | k + 1 => by have := nbL_len D k; unfold nbL; split <;> simp <;> omega
theorem nbL_mem {D : List Bool} {x : Int} : ∀ {k : Nat}, x ∈ nbL D k ↔ ∃ i : Nat, i < k ∧ x = i ∧ D.getD i false = true
  | 0 => ⟨fun h => by simp [nbL] at h, fun ⟨i, h, _⟩ => by omega⟩
  | k + 1 => by
    have ih := nbL_mem (D := D) (x := x) (k := k)
    unfold nbL
    by_cases h : D.getD k false = true
    · rw [if_pos h, List.mem_append, ih, List.mem_singleton]
      constructor
      · rintro (⟨i, h1, h2⟩ | rfl)
        · exact ⟨i, by omega, h2⟩
        · exact ⟨k, by omega, rfl, h⟩
      · rintro ⟨i, h1, h2, h3⟩
        rcases Nat.lt_or_ge i k with h4 | h4
        · exact .inl ⟨i, h4, h2, h3⟩
        · exact .inr (by rw [h2, show i = k by omega])
    · rw [if_neg h, ih]
      constructor
      · rintro ⟨i, h1, h2⟩; exact ⟨i, by omega, h2⟩
      · rintro ⟨i, h1, h2, h3⟩
        rcases Nat.lt_or_ge i k with h4 | h4
        · exact ⟨i, h4, h2, h3⟩
        · obtain rfl : i = k := by omega
          exact absurd h3 h
def cF (D : List Bool) : Nat → Nat
  | 0 => 0
  | k + 1 => cF D k + (if D.getD k false = true then 0 else 1)
theorem cF_set {D : List Bool} {p : Nat} (hp : p < D.length) (h : D.getD p false = false) : ∀ k, cF (D.set p true) k + (if p < k then 1 else 0) = cF D k
  | 0 => by simp [cF]
  | k + 1 => by
    have ih := cF_set hp h k
    have e : (D.set p true).getD k false = if p = k then true else D.getD k false := by
      rw [List.getD_eq_getElem?_getD, List.getElem?_set, List.getD_eq_getElem?_getD]
      by_cases h1 : p = k
      · subst h1; simp [hp]
      · simp [h1]
    show cF (D.set p true) k + _ + _ = cF D k + _
    rw [e]
    by_cases h1 : p = k
    · subst h1
      rw [if_neg (Nat.lt_irrefl _)] at ih
      have h2 : (if D.getD p false = true then 0 else 1) = 1 := by rw [h]; rfl
      rw [h2, if_pos rfl, if_pos rfl, if_pos (Nat.lt_succ_self p)]
      omega
    · rw [if_neg h1]
      by_cases h2 : p < k
      · rw [if_pos h2] at ih; rw [if_pos (by omega : p < k + 1)]; omega
      · rw [if_neg h2] at ih; rw [if_neg (by omega : ¬ p < k + 1)]; omega
theorem getD_setT {D : List Bool} {p x : Nat} : (D.set p true).getD x false = true ↔ (x = p ∧ p < D.length) ∨ D.getD x false = true := by
  rw [List.getD_eq_getElem?_getD, List.getElem?_set, List.getD_eq_getElem?_getD]
  by_cases h1 : p = x
  · subst h1
    by_cases h2 : p < D.length
    · simp [h2]
    · simp [h2]
  · simp [h1]; intro h; exact absurd h.symm h1
inductive obRe (o : Ob) : Int → Prop
  | init : obRe o o.I
  | step (i : Nat) : i < o.R.length → obRe o (rwAt o.R i).s → obRe o (rwAt o.R i).n
theorem obErr_zero {o : Ob} {i : Nat} (h : obErr o i = 0) : (0 ≤ (rwAt o.R i).s ∧ (rwAt o.R i).s < o.S) ∧ (0 ≤ (rwAt o.R i).n ∧ (rwAt o.R i).n < o.S) ∧ (0 ≤ (rwAt o.R i).k ∧ (rwAt o.R i).k < o.K) ∧ (0 ≤ (rwAt o.R i).r ∧ (rwAt o.R i).r ≤ 1000000) ∧ (0 < i → rises (rwAt o.R (i - 1)) (rwAt o.R i)) := by
  unfold obErr at h
  split at h
  · omega
  · rename_i h1
    split at h
    · omega
    · split at h
      · omega
      · rename_i h2 h3
        refine ⟨by omega, by omega, by omega, by omega, fun hi => ?_⟩
        split at h
        · omega
        · rename_i h4
          by_cases h5 : rises (rwAt o.R (i - 1)) (rwAt o.R i)
          · exact h5
          · exact absurd ⟨hi, h5⟩ h4
theorem obRe_in {o : Ob} (h : obE o = 0) {x : Int} (hx : obRe o x) : 0 ≤ x ∧ x < o.S := by
  obtain ⟨h1, h2⟩ := obE_zero.1 h
  cases hx with
  | init => unfold obHead at h1; omega
  | step i hi _ => exact (obErr_zero (h2 i hi)).2.1
open Classical in
noncomputable def reD (o : Ob) : List Bool := (List.range o.S.toNat).map fun (s : Nat) => decide (obRe o (s : Int))
theorem reD_len (o : Ob) : (reD o).length = o.S.toNat := by unfold reD; simp
theorem reD_at (o : Ob) {s : Nat} (h : s < o.S.toNat) : (reD o).getD s false = true ↔ obRe o (s : Int) := by
  unfold reD
  rw [List.getD_eq_getElem?_getD, List.getElem?_map, List.getElem?_range h]
  simp
noncomputable def reL (o : Ob) : List Int := if obE o = 0 then nbL (reD o) o.S.toNat else []
theorem reL_mem {o : Ob} (h : obE o = 0) {x : Int} : x ∈ reL o ↔ obRe o x := by
  unfold reL
  rw [if_pos h, nbL_mem]
  constructor
  · rintro ⟨i, hi, rfl, hd⟩; exact (reD_at o hi).1 hd
  · intro hx
    have := obRe_in h hx
    exact ⟨x.toNat, by omega, by omega, (reD_at o (by omega)).2 (by rw [Int.toNat_of_nonneg this.1]; exact hx)⟩
theorem reD_eq {o : Ob} (h : obE o = 0) {D : List Bool} (hl : D.length = o.S.toNat) (hI : D.getD o.I.toNat false = true) (hs : ∀ s, s < D.length → D.getD s false = true → obRe o (s : Int)) (hc : ∀ i, i < o.R.length → D.getD (rwAt o.R i).s.toNat false = true → D.getD (rwAt o.R i).n.toNat false = true) : D = reD o := by
  have hall : ∀ x, obRe o x → D.getD x.toNat false = true := fun x hx => by
    induction hx with
    | init => exact hI
    | step i hi _ ih => exact hc i hi ih
  apply List.ext_getElem (by rw [hl, reD_len])
  intro i h1 h2
  have a : D.getD i false = (reD o).getD i false := by
    rw [Bool.eq_iff_iff]
    constructor
    · intro hd; exact (reD_at o (by omega)).2 (hs i h1 hd)
    · intro hd
      have := hall _ ((reD_at o (by omega)).1 hd)
      rwa [Int.toNat_natCast] at this
  rwa [List.getD_eq_getElem?_getD, List.getElem?_eq_getElem h1, List.getD_eq_getElem?_getD, List.getElem?_eq_getElem h2] at a
def obDd (o : Ob) (l : List Int) (k : Int) : Prop := ∀ i, i < o.R.length → ¬ ((rwAt o.R i).k = k ∧ (rwAt o.R i).s ∈ l)
instance (o : Ob) (l : List Int) (k : Int) : Decidable (obDd o l k) := by unfold obDd; infer_instance
def deD (o : Ob) (l : List Int) : List Bool := (List.range o.K.toNat).map fun (k : Nat) => decide (obDd o l (k : Int))
theorem deD_len (o : Ob) (l : List Int) : (deD o l).length = o.K.toNat := by unfold deD; simp
theorem deD_at (o : Ob) (l : List Int) {k : Nat} (h : k < o.K.toNat) : (deD o l).getD k false = decide (obDd o l (k : Int)) := by
  unfold deD
  rw [List.getD_eq_getElem?_getD, List.getElem?_map, List.getElem?_range h]; rfl
noncomputable def deL (o : Ob) : List Int := if obE o = 0 then nbL (deD o (reL o)) o.K.toNat else []
theorem reL_ne {o : Ob} (h : obE o = 0) : 0 < (reL o).length := by
  have := (reL_mem h).2 (obRe.init (o := o))
  exact List.length_pos_of_mem this
end Go.Proofs.Ytpfbcjlgbdbcpaa
namespace Go.Proofs.Ytpfbcjlgbdbcpaa
open Go.RowKit
set_option linter.unusedVariables false
set_option linter.unusedSimpArgs false
structure SX (P : Program) (f : FuncId) (args : List AV) (H : AHeap) (M : MS) (Q : AV → AHeap → MS → Prop) : Prop where
  callable : Callable P f
  calls : ∀ (K : Nat → Option Obj) (G : Gh) (w : World) (vs : List Value), (∀ b x, K b = some x → G.kp b = some x) → MOK K G M → Inv G H w → RL H.length G args vs → Calls P f vs.toArray w fun e w' => ∃ v r G' H' M', e = .returned v ∧ Gh.leb H.length { G with kp := K } G' ∧ MOK K G' M' ∧ H.length ≤ H'.length ∧ Inv G' H' w' ∧ RA H'.length G' r v ∧ Q r H' M'
theorem SX.mono {P : Program} {f : FuncId} {args : List AV} {H : AHeap} {M : MS} {Q Q' : AV → AHeap → MS → Prop} (h : SX P f args H M Q) (hq : ∀ r H' M', Q r H' M' → Q' r H' M') : SX P f args H M Q' :=
  ⟨h.callable, fun K G w vs hk hm hi hr => (h.calls K G w vs hk hm hi hr).mono fun e w' ⟨v, r, G', H', M', h1, h2, h3, h4, h5, h6, h7⟩ => ⟨v, r, G', H', M', h1, h2, h3, h4, h5, h6, hq _ _ _ h7⟩⟩
section
variable {P : Program} {tt : TT} {m : Nat} {Q : Exit → XS → Prop} {fr : List AV} {H : AHeap} {M : MS} {l : List Oper} {o : Oper}
def bodyXM (P : Program) (fn : Func) (load : AHeap → TypeId → AV → Option AV) (Q : AV → AHeap → MS → Prop) : Exit → XS → Prop
  | .normal, s | .ret, s => ∃ r, aresults P fn s.as (load s.H) = some r ∧ Q r s.H s.M
  | _, _ => False
theorem SX.of {f : FuncId} {args : List AV} {Q : AV → AHeap → Prop} (h : SF P f args H Q) : SX P f args H M fun r H' M' => Q r H' ∧ M' = M :=
  ⟨h.callable, fun K G w vs hk hm hi hr => (h.calls G w vs hi hr).mono fun e w' ⟨v, r, G', H', h1, h2, h3, h4, h5, h6⟩ =>
    ⟨v, r, G', H', M, h1, ⟨fun o ho hd => h2.mu o hd, fun o ho hd => h2.sz o hd, fun o ho hd => h2.dom o hd, h2.back, h2.fz, fun b x e => h2.kp b x (hk b x e), fun b x y e f => h2.new b x y (hk b x e) f, h2.os, h2.tape, h2.output⟩, hm.leb (h2.leb (Nat.le_refl _)), h3, h4, h5, h6, rfl⟩⟩
theorem RL.kpany {n : Nat} {G : Gh} {kp : Nat → Option Obj} {xs : List AV} {vs : List Value} (h : RL n G xs vs) : RL n { G with kp := kp } xs vs := ⟨h.1, fun i x v e e' => (h.2 i x v e e').kpany⟩
theorem Rst.call {G0 G G' : Gh} {s : AS} {H' : AHeap} {a : Act} {w w' : World} {x : AV} {v : Value} {kp : Nat → Option Obj} (hr : Rst G s a w) (h : Gh.leb s.H.length { G with kp := kp } G') (hn : s.H.length ≤ H'.length) (hi : Inv G' H' w') (hx : RA H'.length G' x v) (d : Option Tmp) : Rst G' ⟨putL s.fr d x, H'⟩ (a.put d v) w' := by
  have hle : Gh.le s.H.length { G with kp := kp } G' := h.le hr.inv.dom
  have hfr : RL H'.length G' s.fr a.tmps.toList := (RL.kpany (kp := kp) hr.fr).mono hle hn
  refine ⟨?_, ?_, hi⟩
  · cases d <;> exact hr.defers
  · cases d with
    | none => exact hfr
    | some d =>
      simp only [putL, Act.put, Array.toList_setIfInBounds]
      exact hfr.set d hx
theorem AX_late {c : Code} {s : XS} (h : AX P m c (fun e s => LeadX m s (Q e)) s) : AX P m c Q s := fun G0 G a w hm hl hM hr =>
  wp_mono (h G0 G a w hm hl hM hr) fun e a w ⟨G', s', h1, h2, h3, h4, h5⟩ => h5 G0 G' a w h3 h1 h2 h4
theorem SF_of_bodyL {f : FuncId} {fn : Func} {c : Code} {args : List AV} {H : AHeap} {Q : AV → AHeap → Prop} (load : AHeap → TypeId → AV → Option AV) (hl : ∀ H, LoadOk P H (load H)) (hf : P.funcs[f]? = some fn) (hb : fn.body = some c) (hname : (fn.name == "runtime.NumGoroutine") = false)
    (h : AX P H.length c (fun e s => LeadX H.length s (bodyX P fn load Q e)) ⟨args ++ List.replicate (fn.ntmps - args.length) uD, H, []⟩) : SF P f args H Q := SF_of_bodyX load hl hf hb hname (AX_late h)
theorem lead_drop {fr : List AV} {S : XS → Prop} (sel ds : List Nat) (H1 : AHeap) (hs1 : sel.Nodup) (hs2 : sel.all (fun p => decide (m ≤ p)) = true) (hH : okH (named m sel) (H.take m ++ sel.map (atH H)) = true) (hF : okF (named m sel) ds 0 fr = true)
    (hh : selH m sel H = H1) (h : ∀ d : Nat → AV, S ⟨deadS (fr.map (AV.rn (newNo m sel))) d ds, H1, M⟩) : LeadX m ⟨fr, H, M⟩ S :=
  LeadX.of (.ren sel ds hs1 hs2 hH hF fun d => by rw [hh]; exact h _)
end
end Go.Proofs.Ytpfbcjlgbdbcpaa
