import Derived.Test.YtmjkhjebeebahaaMgAM
import Derived.DeepKeys
import Derived.Laws.StructEq
namespace Go.Proofs.Ytmjkhjebeebahaa
open Go.RowKit
set_option linter.unusedVariables false
set_option linter.unusedSimpArgs false
def isI64 (P : Program) (t : TypeId) : Bool := (match P.underlying t with | some (.int .i64) => true | _ => false) && P.plainKey t
def intFields (P : Program) : Nat → List Field → Bool
  | _, [] => true
  | k, f :: fs => f.name != "_" && f.offset == k && isI64 P f.type && intFields P (k + 1) fs
def eqOK (P : Program) (t n : Nat) : Bool := !P.eqGuardType P.depth t && match P.underlying t with
  | some (.struct fs) => intFields P 0 fs.toList && fs.toList.length == n && !P.stoodInHeld t
  | some (.array k e) => isI64 P e && P.cellsOf e == 1 && k == n && (P.info? e).isSome
  | _ => false
section
variable {P : Program}
theorem i64_part {t : TypeId} (h : isI64 P t = true) {xs : Array Value} {i : Nat} {a : Int} (hx : xs[i]? = some (.int .i64 a)) (w : World) : (part t xs i).run P w = .ok (.int .i64 a) w := by
  unfold isI64 at h; rw [Bool.and_eq_true] at h
  exact run_part_plain w h.2 hx
theorem i64_eq {t : TypeId} (h : isI64 P t = true) (d : Nat) (a b : Int) (w : World) : (Op.equalIn (d + 1) t (.int .i64 a) (.int .i64 b)).run P w = .ok (a == b) w := by
  unfold isI64 at h; rw [Bool.and_eq_true] at h
  have h1 := h.1
  split at h1
  · rename_i hu; exact run_equalIn_int w d t .i64 .i64 a b hu
  · cases h1
theorem drop_cons {xs : List Value} {k : Nat} {v : Value} {l : List Value} (h : xs.drop k = v :: l) : xs[k]? = some v ∧ xs.drop (k + 1) = l := by
  constructor
  · have := congrArg (fun l => l[0]?) h; simpa using this
  · have := congrArg List.tail h; simpa using this
theorem eqFields_ints (d : Nat) (xs ys : Array Value) (w : World) : ∀ (fs : List Field) (k : Nat) (us vs2 : List Int), intFields P k fs = true → us.length = fs.length → vs2.length = fs.length → xs.toList.drop k = us.map (Value.int .i64) → ys.toList.drop k = vs2.map (Value.int .i64) →
    (Op.eqFields (d + 1) xs ys fs).run P w = .ok (us == vs2) w
  | [], k, us, vs2, _, h1, h2, _, _ => by
    rw [List.length_eq_zero_iff.1 h1, List.length_eq_zero_iff.1 h2]; simp [Op.eqFields]
  | f :: fs, k, [], vs2, _, h1, _, _, _ => by simp at h1
  | f :: fs, k, a :: us, [], _, _, h2, _, _ => by simp at h2
  | f :: fs, k, a :: us, b :: vs2, h, h1, h2, hx, hy => by
    unfold intFields at h
    simp only [Bool.and_eq_true, bne_iff_ne, beq_iff_eq] at h
    obtain ⟨⟨⟨n1, n2⟩, n3⟩, n4⟩ := h
    obtain ⟨x1, x2⟩ := drop_cons hx
    obtain ⟨y1, y2⟩ := drop_cons hy
    rw [Array.getElem?_toList] at x1 y1
    have ih := eqFields_ints d xs ys w fs (k + 1) us vs2 n4 (by simpa using h1) (by simpa using h2) x2 y2
    simp only [Op.eqFields, n1, ne_eq, not_false_eq_true, if_true, Sem.run_bind, n2, i64_part n3 x1, i64_part n3 y1, i64_eq n3, Result.andThen_ok]
    by_cases hab : a = b
    · subst hab; simpa using ih
    · simp [hab]
theorem eqItems_ints (d : Nat) {e : TypeId} (he : isI64 P e = true) (xs ys : Array Value) (w : World) : ∀ (n k : Nat) (us vs2 : List Int), us.length = n → vs2.length = n → xs.toList.drop k = us.map (Value.int .i64) → ys.toList.drop k = vs2.map (Value.int .i64) →
    (Op.eqItems (d + 1) e 1 xs ys (List.range' k n)).run P w = .ok (us == vs2) w
  | 0, k, us, vs2, h1, h2, _, _ => by
    rw [List.length_eq_zero_iff.1 h1, List.length_eq_zero_iff.1 h2]; simp [Op.eqItems]
  | n + 1, k, [], vs2, h1, _, _, _ => by simp at h1
  | n + 1, k, a :: us, [], _, h2, _, _ => by simp at h2
  | n + 1, k, a :: us, b :: vs2, h1, h2, hx, hy => by
    obtain ⟨x1, x2⟩ := drop_cons hx
    obtain ⟨y1, y2⟩ := drop_cons hy
    rw [Array.getElem?_toList] at x1 y1
    have ih := eqItems_ints d he xs ys w n (k + 1) us vs2 (by simpa using h1) (by simpa using h2) x2 y2
    rw [List.range'_succ]
    simp only [Op.eqItems, Sem.run_bind, Nat.mul_one, i64_part he x1, i64_part he y1, i64_eq he, Result.andThen_ok]
    by_cases hab : a = b
    · subst hab; simpa using ih
    · simp [hab]
theorem eq_ints {t n : Nat} (h : eqOK P t n = true) {us vs2 : List Int} (h1 : us.length = n) (h2 : vs2.length = n) (w : World) : (Op.equalIn 10000 t (.agg (us.map (Value.int .i64)).toArray) (.agg (vs2.map (Value.int .i64)).toArray)).run P w = .ok (us == vs2) w := by
  unfold eqOK at h
  rw [Bool.and_eq_true] at h
  have h := h.2
  split at h
  · rename_i fs hu
    simp only [Bool.and_eq_true, beq_iff_eq, Bool.not_eq_true'] at h
    obtain ⟨⟨f1, f2⟩, f3⟩ := h
    have hf : P.fieldsOf t = fs := by unfold Program.fieldsOf; rw [hu]
    rw [show (10000 : Nat) = 9998 + 1 + 1 from rfl, run_equalIn_struct w _ t _ _ (by rw [hf]; exact hu) f3, hf]
    exact eqFields_ints 9998 _ _ w fs.toList 0 us vs2 f1 (by rw [h1, f2]) (by rw [h2, f2]) (by simp) (by simp)
  · rename_i k e hu
    simp only [Bool.and_eq_true, beq_iff_eq] at h
    obtain ⟨⟨⟨f1, f2⟩, f3⟩, f4⟩ := h
    obtain ⟨i, hi⟩ := Option.isSome_iff_exists.1 f4
    rw [show (10000 : Nat) = 9998 + 1 + 1 from rfl, run_equalIn_array w _ _ _ hu hi, f2, f3, List.range_eq_range']
    exact eqItems_ints 9998 f1 _ _ w n 0 us vs2 h1 h2 (by simp) (by simp)
  · cases h
theorem eq_guard {t n : Nat} (h : eqOK P t n = true) (op : BinOp) (x y : Operand) (xs ys : Array Value) (w : World) : (eqGuard op t x y (.agg xs) (.agg ys)).run P w = .ok () w := by
  unfold eqOK at h
  simp only [Bool.and_eq_true, Bool.not_eq_true'] at h
  exact run_eqGuard_agg w op t x y xs ys h.1
def litI (a : Int) : AV := lt (.int .i64 a)
theorem ra_ints {n : Nat} {G : Gh} {us : List Int} {v : Value} (h : RA n G (.agg (us.map fun a => lt (.int .i64 a))) v) : v = .agg (us.map (Value.int .i64)).toArray := by
  cases h with
  | agg _ vs h1 h2 h3 =>
    congr 2
    refine List.ext_getElem? fun j => ?_
    rw [List.length_map] at h1
    rcases Nat.lt_or_ge j vs.length with hj | hj
    · have hj' : j < us.length := by omega
      have := (h2 j (lt (.int .i64 us[j])) vs[j] (by rw [List.getElem?_map, List.getElem?_eq_getElem hj']; rfl) (List.getElem?_eq_getElem hj)).lit_inv
      rw [List.getElem?_eq_getElem hj, List.getElem?_map, List.getElem?_eq_getElem hj', this]; rfl
    · rw [List.getElem?_eq_none hj, List.getElem?_eq_none (by rw [List.length_map]; omega)]
def eqRes (op : BinOp) (b : Bool) : Bool := match op with | .eql => b | _ => !b
theorem eqA_run {t n : Nat} (h : eqOK P t n = true) {us vs2 : List Int} (h1 : us.length = n) (h2 : vs2.length = n) {op : BinOp} (hop : op = .eql ∨ op = .neq) {x y : Operand} {d : Option Tmp} {t2 ty : TypeId} {pos : String} {after : Array Edge} {g : Option (Nat × Bool)} {ρ : Operand → Value} (hx : ρ x = .agg (us.map (Value.int .i64)).toArray) (hy : ρ y = .agg (vs2.map (Value.int .i64)).toArray) (w : World) :
    (execOp ρ ⟨d, .binOp op t x y t2, ty, pos, after, g⟩).run P w = .ok (.value (.bool (eqRes op (us == vs2)))) w := by
  rcases hop with rfl | rfl
  · simp [execOp, hx, hy, eq_guard h, run_eql_struct, eq_ints h h1 h2, Result.andThen, eqRes]
  · simp [execOp, hx, hy, eq_guard h, run_neq_struct, eq_ints h h1 h2, Result.andThen, eqRes]
variable {m : Nat} {Q : Exit → XS → Prop} {fr : List AV} {H : AHeap} {M : MS} {l : List Oper} {d : Option Tmp} {t2 ty : TypeId} {pos : String} {after : Array Edge} {g : Option (Nat × Bool)}
theorem XRes_eqA {t n : Nat} {op : BinOp} {x y : Operand} {us vs2 : List Int} (hw : wantedS fr ⟨d, .binOp op t x y t2, ty, pos, after, g⟩ = some true) (hop : op = .eql ∨ op = .neq) (hx : AS.ev ⟨fr, H⟩ x = .agg (us.map fun a => lt (.int .i64 a))) (hy : AS.ev ⟨fr, H⟩ y = .agg (vs2.map fun a => lt (.int .i64 a))) (h1 : us.length = n) (h2 : vs2.length = n) (h : eqOK P t n = true)
    (k : XRes P m Q (l, ⟨putL fr d (lt (.bool (eqRes op (us == vs2)))), H, M⟩)) : XRes P m Q (⟨d, .binOp op t x y t2, ty, pos, after, g⟩ :: l, ⟨fr, H, M⟩) :=
  XRes_gives hw (fun G a w hr => ⟨G, _, w, .inl (eqA_run h h1 h2 hop (ra_ints (hx ▸ hr.ev x)) (ra_ints (hy ▸ hr.ev y)) w), Gh.le.refl _ _, Nat.le_refl _, hr.inv, .iv _ _ (.lit _)⟩) k
theorem ADF_eqA {H0 : AHeap} {K : List AV → AHeap → Prop} {t n : Nat} {op : BinOp} {x y : Operand} {us vs2 : List Int} (hw : wantedS fr ⟨d, .binOp op t x y t2, ty, pos, after, g⟩ = some true) (hop : op = .eql ∨ op = .neq) (hx : AS.ev ⟨fr, H0⟩ x = .agg (us.map fun a => lt (.int .i64 a))) (hy : AS.ev ⟨fr, H0⟩ y = .agg (vs2.map fun a => lt (.int .i64 a))) (h1 : us.length = n) (h2 : vs2.length = n) (h : eqOK P t n = true)
    (k : ADF P H0 K (l, putL fr d (lt (.bool (eqRes op (us == vs2)))))) : ADF P H0 K (⟨d, .binOp op t x y t2, ty, pos, after, g⟩ :: l, fr) := fun N hn =>
  ⟨_, H0, none, .free _ (wanted_iff hn hw) fun H => (by
    intro Q' G a w K' hi hl hk
    have ex : AS.ev ⟨fr, H⟩ x = AS.ev ⟨fr, H0⟩ x := by cases x <;> rfl
    have ey : AS.ev ⟨fr, H⟩ y = AS.ev ⟨fr, H0⟩ y := by cases y <;> rfl
    have rx := hl.ev (H := H) (x := x) (by simp [Op.operands])
    have ry := hl.ev (H := H) (x := y) (by simp [Op.operands])
    rw [ex, hx] at rx
    rw [ey, hy] at ry
    unfold Oper.wp
    rw [eqA_run h h1 h2 hop (ra_ints rx) (ra_ints ry) w]
    exact hk G _ w (Gh.le.refl _ _) (Nat.le_refl _) hi (.iv _ _ (.lit _))), k N (by show (putL _ _ _).length ≤ N; rw [putL_len]; exact hn)⟩
end
end Go.Proofs.Ytmjkhjebeebahaa
namespace Go.Proofs.Ytmjkhjebeebahaa

/-- An operation: process, kind, start, end, result. -/
structure Op5 where
  p : Int
  k : Int
  s : Int
  e : Int
  r : Int


def oAhead (a b : Op5) : Bool := decide (0 ≤ a.e ∧ a.e < b.s)
def oMay (x : Op5) : Int :=
  if ¬ (1 ≤ x.p ∧ x.p ≤ 1000) ∨ ¬ (0 ≤ x.s ∧ x.s ≤ 9999) then 2 else if ¬ (0 ≤ x.k ∧ x.k ≤ 63) then 31 else if x.e = -1 ∧ x.r = -1 then 0 else if ¬ (x.s + 1 ≤ x.e ∧ x.e ≤ 9999) ∨ ¬ (0 ≤ x.r ∧ x.r ≤ 1000000) then 7 else 0
theorem oMay_zero {x : Op5} (h : oMay x = 0) : (1 ≤ x.p ∧ x.p ≤ 1000) ∧ (0 ≤ x.s ∧ x.s ≤ 9999) ∧ (0 ≤ x.k ∧ x.k ≤ 63) ∧ ((x.e = -1 ∧ x.r = -1) ∨ (x.s + 1 ≤ x.e ∧ x.e ≤ 9999 ∧ 0 ≤ x.r ∧ x.r ≤ 1000000)) := by
  unfold oMay at h
  split at h
  · omega
  · split at h
    · omega
    · split at h
      · omega
      · split at h <;> omega
def oMeets (a b : Op5) : Prop := a.s = b.s ∨ a.e = b.s ∨ a.s = b.e ∨ (a.e = b.e ∧ a.e ≠ -1)
instance (a b : Op5) : Decidable (oMeets a b) := by unfold oMeets; infer_instance
/-- The operation of a place. -/
def oAt (xs : List Op5) (i : Nat) : Op5 := xs.getD i ⟨0, 0, 0, 0, 0⟩
/-- Does one ahead stand against it by its numbers, or by being open? -/
def oOrd (xs : List Op5) (i : Nat) (o : Op5) : Prop := ∃ k, k < i ∧ ((oAt xs k).s ≥ o.s ∨ oMeets (oAt xs k) o)
def oOpen (xs : List Op5) (i : Nat) (o : Op5) : Prop := ∃ k, k < i ∧ (oAt xs k).p = o.p ∧ oAhead (oAt xs k) o = false
instance (xs : List Op5) (i : Nat) (o : Op5) : Decidable (oOrd xs i o) := by unfold oOrd; infer_instance
instance (xs : List Op5) (i : Nat) (o : Op5) : Decidable (oOpen xs i o) := by unfold oOpen; infer_instance
def oErr (xs : List Op5) (i : Nat) : Int := if oMay (oAt xs i) ≠ 0 then oMay (oAt xs i) else if oOrd xs i (oAt xs i) then 32 else if oOpen xs i (oAt xs i) then 33 else 0
/-- The first k are all right. -/
def oGood (xs : List Op5) (k : Nat) : Prop := ∀ i, i < k → oErr xs i = 0
instance (xs : List Op5) (k : Nat) : Decidable (oGood xs k) := by unfold oGood; infer_instance
theorem oGood.succ {xs : List Op5} {k : Nat} (h : oGood xs k) (he : oErr xs k = 0) : oGood xs (k + 1) := fun i hi => by
  rcases Nat.lt_or_ge i k with h1 | h1
  · exact h i h1
  · obtain rfl : i = k := by omega
    exact he
theorem oErr_zero {xs : List Op5} {i : Nat} (h : oErr xs i = 0) : oMay (oAt xs i) = 0 ∧ ¬ oOrd xs i (oAt xs i) ∧ ¬ oOpen xs i (oAt xs i) := by
  unfold oErr at h
  split at h
  · exact absurd h ‹_›
  · rename_i h1
    split at h
    · omega
    · split at h
      · omega
      · exact ⟨by simpa using h1, ‹_›, ‹_›⟩
/-- Starts rise. -/
theorem oGood.rise {xs : List Op5} {k : Nat} (h : oGood xs k) {i j : Nat} (hij : i < j) (hj : j < k) : (oAt xs i).s < (oAt xs j).s := by
  have := (oErr_zero (h j hj)).2.1
  rcases Int.lt_or_le (oAt xs i).s (oAt xs j).s with h1 | h1
  · exact h1
  · exact absurd ⟨i, hij, Or.inl h1⟩ this
/-- Whatever is of one process is ahead of the next one. -/
theorem oGood.apart {xs : List Op5} {k : Nat} (h : oGood xs k) {i j : Nat} (hij : i < j) (hj : j < k) (hp : (oAt xs i).p = (oAt xs j).p) : oAhead (oAt xs i) (oAt xs j) = true := by
  have := (oErr_zero (h j hj)).2.2
  cases h1 : oAhead (oAt xs i) (oAt xs j)
  · exact absurd ⟨i, hij, hp, h1⟩ this
  · rfl

/-- Is a number taken by one of the first k? -/
def oTaken (xs : List Op5) (k : Nat) (n : Int) : Prop := ∃ i, i < k ∧ ((oAt xs i).s = n ∨ ((oAt xs i).e = n ∧ (oAt xs i).e ≠ -1))
instance (xs : List Op5) (k : Nat) (n : Int) : Decidable (oTaken xs k n) := by unfold oTaken; infer_instance
/-- The last one of a process among the first k. -/
def oLast (xs : List Op5) : Nat → Int → Option Op5
  | 0, _ => none
  | k + 1, p => if (oAt xs k).p = p then some (oAt xs k) else oLast xs k p
theorem oLast_some {xs : List Op5} {k : Nat} {p : Int} {o : Op5} (h : oLast xs k p = some o) : ∃ i, i < k ∧ oAt xs i = o ∧ (oAt xs i).p = p ∧ ∀ j, i < j → j < k → (oAt xs j).p ≠ p := by
  induction k with
  | zero => simp [oLast] at h
  | succ k ih =>
    unfold oLast at h
    split at h
    · rename_i hp
      cases h
      exact ⟨k, by omega, rfl, hp, fun j h1 h2 => by omega⟩
    · rename_i hp
      obtain ⟨i, h1, h2, h3, h4⟩ := ih h
      refine ⟨i, by omega, h2, h3, fun j h5 h6 => ?_⟩
      rcases Nat.lt_or_ge j k with h7 | h7
      · exact h4 j h5 h7
      · obtain rfl : j = k := by omega
        exact hp
theorem oLast_none {xs : List Op5} {k : Nat} {p : Int} (h : oLast xs k p = none) : ∀ i, i < k → (oAt xs i).p ≠ p := by
  induction k with
  | zero => intro i hi; omega
  | succ k ih =>
    unfold oLast at h
    split at h
    · cases h
    · rename_i hp
      intro i hi
      rcases Nat.lt_or_ge i k with h1 | h1
      · exact ih h i h1
      · obtain rfl : i = k := by omega
        exact hp
/-- What the code looks at is what the document says. -/
theorem oOrd_iff {xs : List Op5} {k : Nat} (h : oGood xs k) (hm : oMay (oAt xs k) = 0) : oOrd xs k (oAt xs k) ↔ (oTaken xs k (oAt xs k).s ∨ oTaken xs k (oAt xs k).e ∨ (0 < k ∧ (oAt xs k).s ≤ (oAt xs (k - 1)).s)) := by
  have hm := oMay_zero hm
  constructor
  · rintro ⟨i, hi, h1 | h1 | h1 | h1 | h1⟩
    · right; right
      refine ⟨by omega, ?_⟩
      rcases Nat.lt_or_ge i (k - 1) with h2 | h2
      · have := h.rise h2 (by omega : k - 1 < k); omega
      · obtain rfl : i = k - 1 := by omega
        omega
    · left; exact ⟨i, hi, Or.inl h1⟩
    · left; exact ⟨i, hi, Or.inr ⟨h1, by omega⟩⟩
    · right; left; exact ⟨i, hi, Or.inl h1⟩
    · right; left; exact ⟨i, hi, Or.inr h1⟩
  · rintro (⟨i, hi, h1 | h1⟩ | ⟨i, hi, h1 | h1⟩ | ⟨h0, h1⟩)
    · exact ⟨i, hi, Or.inr (Or.inl h1)⟩
    · exact ⟨i, hi, Or.inr (Or.inr (Or.inl h1.1))⟩
    · exact ⟨i, hi, Or.inr (Or.inr (Or.inr (Or.inl h1)))⟩
    · exact ⟨i, hi, Or.inr (Or.inr (Or.inr (Or.inr h1)))⟩
    · exact ⟨k - 1, by omega, Or.inl h1⟩
theorem oOpen_iff {xs : List Op5} {k : Nat} (h : oGood xs k) (ho : ¬ oOrd xs k (oAt xs k)) : oOpen xs k (oAt xs k) ↔ ∃ o, oLast xs k (oAt xs k).p = some o ∧ oAhead o (oAt xs k) = false := by
  constructor
  · rintro ⟨i, hi, hp, ha⟩
    cases hl : oLast xs k (oAt xs k).p with
    | none => exact absurd hp (oLast_none hl i hi)
    | some o =>
      obtain ⟨j, hj, e, hpj, hlast⟩ := oLast_some hl
      refine ⟨o, rfl, ?_⟩
      rcases Nat.lt_trichotomy i j with h1 | h1 | h1
      · have h2 := h.apart h1 hj (by rw [hp, hpj])
        have h3 := (oErr_zero (h j hj)).1
        have h5 : (oAt xs j).s < (oAt xs k).s := by
          rcases Int.lt_or_le (oAt xs j).s (oAt xs k).s with h1 | h1
          · exact h1
          · exact absurd ⟨j, hj, Or.inl h1⟩ ho
        unfold oAhead at h2 ha
        have h2 := of_decide_eq_true h2
        have ha := of_decide_eq_false ha
        omega
      · subst h1; rw [← e]; exact ha
      · exact absurd hp (hlast i h1 hi)
  · rintro ⟨o, hl, ha⟩
    obtain ⟨j, hj, e, hpj, _⟩ := oLast_some hl
    exact ⟨j, hj, hpj, by rw [e]; exact ha⟩
theorem oTaken_succ (xs : List Op5) (k : Nat) (n : Int) : oTaken xs (k + 1) n ↔ oTaken xs k n ∨ (oAt xs k).s = n ∨ ((oAt xs k).e = n ∧ (oAt xs k).e ≠ -1) := by
  constructor
  · rintro ⟨i, hi, h⟩
    rcases Nat.lt_or_ge i k with h1 | h1
    · exact Or.inl ⟨i, h1, h⟩
    · obtain rfl : i = k := by omega
      exact Or.inr h
  · rintro (⟨i, hi, h⟩ | h)
    · exact ⟨i, by omega, h⟩
    · exact ⟨k, by omega, h⟩

/-- What the check tells. -/
def OChk (xs : List Op5) (at' c : Int) : Prop :=
  (5000 < xs.length ∧ at' = 0 ∧ c = 3) ∨ (xs.length ≤ 5000 ∧ ∃ i : Nat, i < xs.length ∧ oGood xs i ∧ oErr xs i ≠ 0 ∧ at' = i ∧ c = oErr xs i) ∨ (xs.length ≤ 5000 ∧ oGood xs xs.length ∧ at' = xs.length ∧ c = 0)
theorem OChk.uniq {xs : List Op5} {a c a' c' : Int} (h : OChk xs a c) (h' : OChk xs a' c') : a = a' ∧ c = c' := by
  rcases h with ⟨h1, h2, h3⟩ | ⟨h1, i, h2, h3, h4, h5, h6⟩ | ⟨h1, h2, h3, h4⟩ <;> rcases h' with ⟨k1, k2, k3⟩ | ⟨k1, j, k2, k3, k4, k5, k6⟩ | ⟨k1, k2, k3, k4⟩
  · omega
  · omega
  · omega
  · omega
  · rcases Nat.lt_trichotomy i j with h | h | h
    · exact absurd (k3 i h) h4
    · subst h; omega
    · exact absurd (h3 j h) k4
  · exact absurd (k2 i h2) h4
  · omega
  · exact absurd (h2 j k2) k4
  · omega
/-- The pairs of which the first one is ahead. -/
def oPairs (xs : List Op5) : List (Int × Int) := (List.range xs.length).flatMap fun i => ((List.range xs.length).filter fun j => oAhead (oAt xs i) (oAt xs j)).map fun j : Nat => ((i : Int), (j : Int))
def oPend (xs : List Op5) : List Int := ((List.range xs.length).filter fun i => decide ((oAt xs i).e = -1)).map fun i : Nat => (i : Int)
end Go.Proofs.Ytmjkhjebeebahaa
namespace Go.Proofs.Ytmjkhjebeebahaa
set_option linter.unusedVariables false
def oLeft (done : List Bool) (i : Nat) : Bool := decide (done.length ≤ i) || !(done.getD i false)
def oFirst (xs : List Op5) (done : List Bool) : Nat → Int
  | 0 => 9223372036854775807
  | k + 1 => if oLeft done k = true ∧ 0 ≤ (oAt xs k).e then min (oFirst xs done k) (oAt xs k).e else oFirst xs done k
theorem oFirst_le {xs : List Op5} {done : List Bool} {x : Int} (hx : x ≤ 9223372036854775807) : ∀ {k : Nat}, x ≤ oFirst xs done k ↔ ∀ i, i < k → oLeft done i = true → 0 ≤ (oAt xs i).e → x ≤ (oAt xs i).e
  | 0 => ⟨fun _ i h => absurd h (by omega), fun _ => hx⟩
  | k + 1 => by
    have ih := oFirst_le (xs := xs) (done := done) hx (k := k)
    unfold oFirst
    constructor
    · intro h i hi hl he
      rcases Nat.lt_or_ge i k with hik | hik
      · refine ih.1 ?_ i hik hl he
        split at h <;> omega
      · have : i = k := by omega
        subst this
        rw [if_pos ⟨hl, he⟩] at h
        omega
    · intro h
      have h1 := ih.2 fun i hi => h i (by omega)
      split
      · rename_i hc
        have := h k (by omega) hc.1 hc.2
        omega
      · exact h1
/-- May the j-th one come next? -/
def oFreeAt (xs : List Op5) (done : List Bool) (j : Nat) : Bool := oLeft done j && (List.range xs.length).all fun i => !(oAhead (oAt xs i) (oAt xs j) && oLeft done i)
theorem oFree_code {xs : List Op5} {done : List Bool} {j : Nat} (hs : (oAt xs j).s ≤ 9223372036854775807) : oFreeAt xs done j = (oLeft done j && decide ((oAt xs j).s ≤ oFirst xs done xs.length)) := by
  unfold oFreeAt
  congr 1
  rw [Bool.eq_iff_iff, List.all_eq_true, decide_eq_true_eq, oFirst_le hs]
  constructor
  · intro h i hi hl he
    have := h i (List.mem_range.2 hi)
    rw [hl, Bool.and_true] at this
    unfold oAhead at this
    simp only [Bool.not_eq_true', decide_eq_false_iff_not] at this
    omega
  · intro h i hi
    have := h i (List.mem_range.1 hi)
    by_cases hl : oLeft done i = true
    · rw [hl, Bool.and_true]
      unfold oAhead
      simp only [Bool.not_eq_true', decide_eq_false_iff_not]
      have := this hl
      omega
    · rw [show oLeft done i = false by simpa using hl, Bool.and_false]; rfl
def oFreeUp (xs : List Op5) (done : List Bool) (k : Nat) : List Int := ((List.range k).filter (oFreeAt xs done)).map fun i : Nat => (i : Int)
theorem oFreeUp_succ (xs : List Op5) (done : List Bool) (k : Nat) : oFreeUp xs done (k + 1) = if oFreeAt xs done k = true then oFreeUp xs done k ++ [(k : Int)] else oFreeUp xs done k := by
  unfold oFreeUp
  rw [List.range_succ, List.filter_append, List.map_append]
  by_cases h : oFreeAt xs done k = true <;> simp [h]
/-- The document's inner loop. -/
def oStands (xs : List Op5) (done : List Bool) (j : Nat) : Nat → Bool
  | 0 => oLeft done j
  | i + 1 => if oAhead (oAt xs i) (oAt xs j) = true ∧ oLeft done i = true then false else oStands xs done j i
theorem oStands_eq {xs : List Op5} {done : List Bool} {j : Nat} : ∀ k, oStands xs done j k = (oLeft done j && (List.range k).all fun i => !(oAhead (oAt xs i) (oAt xs j) && oLeft done i))
  | 0 => by simp [oStands]
  | k + 1 => by
    unfold oStands
    rw [List.range_succ, List.all_append, oStands_eq k]
    by_cases h1 : oAhead (oAt xs k) (oAt xs j) = true <;> by_cases h2 : oLeft done k = true <;> simp_all
end Go.Proofs.Ytmjkhjebeebahaa
