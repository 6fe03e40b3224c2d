import Derived.Test.YtmjkhjebeebahaaMgAB
import Derived.Test.YtmjkhjebeebahaaMgAI
import Derived.Test.YtmjkhjebeebahaaMgAM
import Derived.DeepKeys
import Derived.Laws.StructEq
namespace Go.Proofs.Ytmjkhjebeebahaa
open Go.ChangeShapes Go.WideShapes Go.ChangeAt Go.RowKit
set_option linter.unusedVariables false
theorem list_of_getD {xs ys : List Int} (hl : xs.length = ys.length) (h : ∀ j, j < xs.length → xs.getD j 0 = ys.getD j 0) : xs = ys := by
  refine List.ext_getElem hl fun i h1 h2 => ?_
  have := h i h1
  simpa [List.getD, h1, h2] using this
def okI (ys : List Int) : Prop := ∀ j, -9223372036854775808 ≤ ys.getD j 0 ∧ ys.getD j 0 ≤ 9223372036854775807
theorem StructRow.flat {w : World} {a : Option Addr} {k len cap : Nat} (hk : 0 < k) (h : StructRow w k a len cap) : ∃ ys : List Int, ys.length = len * k ∧ okI ys ∧ RI (fun b => w.heap[b]?) (iFlat ys len k) (.slice a len cap) := by
  rcases Nat.eq_zero_or_pos len with h0 | h0
  · subst h0
    refine ⟨[], by simp, fun j => by simp, ?_⟩
    unfold iFlat
    cases a with
    | none => exact .nil _ _ _ h.2.1
    | some ad => exact .empty _ _ _ _ h.2.1
  · obtain ⟨b, off, ha, hc⟩ := h.2.2.2 h0
    subst ha
    have hx : ∀ j, j < len * k → ∃ z : Int, w.cell? ⟨b, off + j, none⟩ = some (.int .i64 z) ∧ -9223372036854775808 ≤ z ∧ z ≤ 9223372036854775807 := fun j hj => by
      have h1 : j / k < len := (Nat.div_lt_iff_lt_mul hk).2 hj
      have h2 : j % k < k := Nat.mod_lt _ hk
      obtain ⟨g, hg⟩ := hc (j / k) h1
      have h3 := hg (j % k) h2
      have h4 : off + j / k * k + j % k = off + j := by rw [Nat.add_assoc, Nat.div_add_mod']
      rw [h4] at h3
      exact ⟨_, h3⟩
    obtain ⟨f, hf⟩ := Go.Deep.choose_lt hx
    have hg : ∀ j, j < len * k → ((List.range (len * k)).map f).getD j 0 = f j := fun j hj => by simp [List.getD, hj]
    have h00 : 0 < len * k := Nat.mul_pos h0 hk
    obtain ⟨cs, t, fr, hb, _⟩ := cells_of_cell (hf 0 h00).1
    refine ⟨(List.range (len * k)).map f, by simp, fun j => ?_, ?_⟩
    · rcases Nat.lt_or_ge j (len * k) with hj | hj
      · rw [hg j hj]; exact (hf j hj).2
      · rw [List.getD_eq_getElem?_getD, List.getElem?_eq_none (by simpa using hj)]; simp
    · unfold iFlat
      refine .sl _ _ _ b off cap cs t fr (fun j => .int .i64 (((List.range (len * k)).map f).getD j 0)) hb (fun j hj => ?_) (fun j _ => .lit _) h.1 h.2.1
      have := (hf j hj).1
      rw [cell_of_heap hb] at this
      rw [hg j hj]; exact this
end Go.Proofs.Ytmjkhjebeebahaa
namespace Go.Proofs.Ytmjkhjebeebahaa
open Go.RowKit
set_option linter.unusedVariables false
set_option linter.unusedSimpArgs false
def isI64 (P : Program) (t : TypeId) : Bool := (match P.underlying t with | some (.int .i64) => true | _ => false) && P.plainKey t
def intFields (P : Program) : Nat → List Field → Bool
  | _, [] => true
  | k, f :: fs => f.name != "_" && f.offset == k && isI64 P f.type && intFields P (k + 1) fs
def eqOK (P : Program) (t n : Nat) : Bool := !P.eqGuardType P.depth t && match P.underlying t with
  | some (.struct fs) => intFields P 0 fs.toList && fs.toList.length == n && !P.stoodInHeld t
  | some (.array k e) => isI64 P e && P.cellsOf e == 1 && k == n && (P.info? e).isSome
  | _ => false
section
variable {P : Program}
theorem i64_part {t : TypeId} (h : isI64 P t = true) {xs : Array Value} {i : Nat} {a : Int} (hx : xs[i]? = some (.int .i64 a)) (w : World) : (part t xs i).run P w = .ok (.int .i64 a) w := by
  unfold isI64 at h; rw [Bool.and_eq_true] at h
  exact run_part_plain w h.2 hx
theorem i64_eq {t : TypeId} (h : isI64 P t = true) (d : Nat) (a b : Int) (w : World) : (Op.equalIn (d + 1) t (.int .i64 a) (.int .i64 b)).run P w = .ok (a == b) w := by
  unfold isI64 at h; rw [Bool.and_eq_true] at h
  have h1 := h.1
  split at h1
  · rename_i hu; exact run_equalIn_int w d t .i64 .i64 a b hu
  · cases h1
theorem drop_cons {xs : List Value} {k : Nat} {v : Value} {l : List Value} (h : xs.drop k = v :: l) : xs[k]? = some v ∧ xs.drop (k + 1) = l := by
  constructor
  · have := congrArg (fun l => l[0]?) h; simpa using this
  · have := congrArg List.tail h; simpa using this
theorem eqFields_ints (d : Nat) (xs ys : Array Value) (w : World) : ∀ (fs : List Field) (k : Nat) (us vs2 : List Int), intFields P k fs = true → us.length = fs.length → vs2.length = fs.length → xs.toList.drop k = us.map (Value.int .i64) → ys.toList.drop k = vs2.map (Value.int .i64) →
    (Op.eqFields (d + 1) xs ys fs).run P w = .ok (us == vs2) w
  | [], k, us, vs2, _, h1, h2, _, _ => by
    rw [List.length_eq_zero_iff.1 h1, List.length_eq_zero_iff.1 h2]; simp [Op.eqFields]
  | f :: fs, k, [], vs2, _, h1, _, _, _ => by simp at h1
  | f :: fs, k, a :: us, [], _, _, h2, _, _ => by simp at h2
  | f :: fs, k, a :: us, b :: vs2, h, h1, h2, hx, hy => by
    unfold intFields at h
    simp only [Bool.and_eq_true, bne_iff_ne, beq_iff_eq] at h
    obtain ⟨⟨⟨n1, n2⟩, n3⟩, n4⟩ := h
    obtain ⟨x1, x2⟩ := drop_cons hx
    obtain ⟨y1, y2⟩ := drop_cons hy
    rw [Array.getElem?_toList] at x1 y1
    have ih := eqFields_ints d xs ys w fs (k + 1) us vs2 n4 (by simpa using h1) (by simpa using h2) x2 y2
    simp only [Op.eqFields, n1, ne_eq, not_false_eq_true, if_true, Sem.run_bind, n2, i64_part n3 x1, i64_part n3 y1, i64_eq n3, Result.andThen_ok]
    by_cases hab : a = b
    · subst hab; simpa using ih
    · simp [hab]
theorem eqItems_ints (d : Nat) {e : TypeId} (he : isI64 P e = true) (xs ys : Array Value) (w : World) : ∀ (n k : Nat) (us vs2 : List Int), us.length = n → vs2.length = n → xs.toList.drop k = us.map (Value.int .i64) → ys.toList.drop k = vs2.map (Value.int .i64) →
    (Op.eqItems (d + 1) e 1 xs ys (List.range' k n)).run P w = .ok (us == vs2) w
  | 0, k, us, vs2, h1, h2, _, _ => by
    rw [List.length_eq_zero_iff.1 h1, List.length_eq_zero_iff.1 h2]; simp [Op.eqItems]
  | n + 1, k, [], vs2, h1, _, _, _ => by simp at h1
  | n + 1, k, a :: us, [], _, h2, _, _ => by simp at h2
  | n + 1, k, a :: us, b :: vs2, h1, h2, hx, hy => by
    obtain ⟨x1, x2⟩ := drop_cons hx
    obtain ⟨y1, y2⟩ := drop_cons hy
    rw [Array.getElem?_toList] at x1 y1
    have ih := eqItems_ints d he xs ys w n (k + 1) us vs2 (by simpa using h1) (by simpa using h2) x2 y2
    rw [List.range'_succ]
    simp only [Op.eqItems, Sem.run_bind, Nat.mul_one, i64_part he x1, i64_part he y1, i64_eq he, Result.andThen_ok]
    by_cases hab : a = b
    · subst hab; simpa using ih
    · simp [hab]
theorem eq_ints {t n : Nat} (h : eqOK P t n = true) {us vs2 : List Int} (h1 : us.length = n) (h2 : vs2.length = n) (w : World) : (Op.equalIn 10000 t (.agg (us.map (Value.int .i64)).toArray) (.agg (vs2.map (Value.int .i64)).toArray)).run P w = .ok (us == vs2) w := by
  unfold eqOK at h
  rw [Bool.and_eq_true] at h
  have h := h.2
  split at h
  · rename_i fs hu
    simp only [Bool.and_eq_true, beq_iff_eq, Bool.not_eq_true'] at h
    obtain ⟨⟨f1, f2⟩, f3⟩ := h
    have hf : P.fieldsOf t = fs := by unfold Program.fieldsOf; rw [hu]
    rw [show (10000 : Nat) = 9998 + 1 + 1 from rfl, run_equalIn_struct w _ t _ _ (by rw [hf]; exact hu) f3, hf]
    exact eqFields_ints 9998 _ _ w fs.toList 0 us vs2 f1 (by rw [h1, f2]) (by rw [h2, f2]) (by simp) (by simp)
  · rename_i k e hu
    simp only [Bool.and_eq_true, beq_iff_eq] at h
    obtain ⟨⟨⟨f1, f2⟩, f3⟩, f4⟩ := h
    obtain ⟨i, hi⟩ := Option.isSome_iff_exists.1 f4
    rw [show (10000 : Nat) = 9998 + 1 + 1 from rfl, run_equalIn_array w _ _ _ hu hi, f2, f3, List.range_eq_range']
    exact eqItems_ints 9998 f1 _ _ w n 0 us vs2 h1 h2 (by simp) (by simp)
  · cases h
theorem eq_guard {t n : Nat} (h : eqOK P t n = true) (op : BinOp) (x y : Operand) (xs ys : Array Value) (w : World) : (eqGuard op t x y (.agg xs) (.agg ys)).run P w = .ok () w := by
  unfold eqOK at h
  simp only [Bool.and_eq_true, Bool.not_eq_true'] at h
  exact run_eqGuard_agg w op t x y xs ys h.1
def litI (a : Int) : AV := lt (.int .i64 a)
theorem ra_ints {n : Nat} {G : Gh} {us : List Int} {v : Value} (h : RA n G (.agg (us.map fun a => lt (.int .i64 a))) v) : v = .agg (us.map (Value.int .i64)).toArray := by
  cases h with
  | agg _ vs h1 h2 h3 =>
    congr 2
    refine List.ext_getElem? fun j => ?_
    rw [List.length_map] at h1
    rcases Nat.lt_or_ge j vs.length with hj | hj
    · have hj' : j < us.length := by omega
      have := (h2 j (lt (.int .i64 us[j])) vs[j] (by rw [List.getElem?_map, List.getElem?_eq_getElem hj']; rfl) (List.getElem?_eq_getElem hj)).lit_inv
      rw [List.getElem?_eq_getElem hj, List.getElem?_map, List.getElem?_eq_getElem hj', this]; rfl
    · rw [List.getElem?_eq_none hj, List.getElem?_eq_none (by rw [List.length_map]; omega)]
def eqRes (op : BinOp) (b : Bool) : Bool := match op with | .eql => b | _ => !b
theorem eqA_run {t n : Nat} (h : eqOK P t n = true) {us vs2 : List Int} (h1 : us.length = n) (h2 : vs2.length = n) {op : BinOp} (hop : op = .eql ∨ op = .neq) {x y : Operand} {d : Option Tmp} {t2 ty : TypeId} {pos : String} {after : Array Edge} {g : Option (Nat × Bool)} {ρ : Operand → Value} (hx : ρ x = .agg (us.map (Value.int .i64)).toArray) (hy : ρ y = .agg (vs2.map (Value.int .i64)).toArray) (w : World) :
    (execOp ρ ⟨d, .binOp op t x y t2, ty, pos, after, g⟩).run P w = .ok (.value (.bool (eqRes op (us == vs2)))) w := by
  rcases hop with rfl | rfl
  · simp [execOp, hx, hy, eq_guard h, run_eql_struct, eq_ints h h1 h2, Result.andThen, eqRes]
  · simp [execOp, hx, hy, eq_guard h, run_neq_struct, eq_ints h h1 h2, Result.andThen, eqRes]
variable {m : Nat} {Q : Exit → XS → Prop} {fr : List AV} {H : AHeap} {M : MS} {l : List Oper} {d : Option Tmp} {t2 ty : TypeId} {pos : String} {after : Array Edge} {g : Option (Nat × Bool)}
theorem XRes_eqA {t n : Nat} {op : BinOp} {x y : Operand} {us vs2 : List Int} (hw : wantedS fr ⟨d, .binOp op t x y t2, ty, pos, after, g⟩ = some true) (hop : op = .eql ∨ op = .neq) (hx : AS.ev ⟨fr, H⟩ x = .agg (us.map fun a => lt (.int .i64 a))) (hy : AS.ev ⟨fr, H⟩ y = .agg (vs2.map fun a => lt (.int .i64 a))) (h1 : us.length = n) (h2 : vs2.length = n) (h : eqOK P t n = true)
    (k : XRes P m Q (l, ⟨putL fr d (lt (.bool (eqRes op (us == vs2)))), H, M⟩)) : XRes P m Q (⟨d, .binOp op t x y t2, ty, pos, after, g⟩ :: l, ⟨fr, H, M⟩) :=
  XRes_gives hw (fun G a w hr => ⟨G, _, w, .inl (eqA_run h h1 h2 hop (ra_ints (hx ▸ hr.ev x)) (ra_ints (hy ▸ hr.ev y)) w), Gh.le.refl _ _, Nat.le_refl _, hr.inv, .iv _ _ (.lit _)⟩) k
theorem ADF_eqA {H0 : AHeap} {K : List AV → AHeap → Prop} {t n : Nat} {op : BinOp} {x y : Operand} {us vs2 : List Int} (hw : wantedS fr ⟨d, .binOp op t x y t2, ty, pos, after, g⟩ = some true) (hop : op = .eql ∨ op = .neq) (hx : AS.ev ⟨fr, H0⟩ x = .agg (us.map fun a => lt (.int .i64 a))) (hy : AS.ev ⟨fr, H0⟩ y = .agg (vs2.map fun a => lt (.int .i64 a))) (h1 : us.length = n) (h2 : vs2.length = n) (h : eqOK P t n = true)
    (k : ADF P H0 K (l, putL fr d (lt (.bool (eqRes op (us == vs2)))))) : ADF P H0 K (⟨d, .binOp op t x y t2, ty, pos, after, g⟩ :: l, fr) := fun N hn =>
  ⟨_, H0, none, .free _ (wanted_iff hn hw) fun H => (by
    intro Q' G a w K' hi hl hk
    have ex : AS.ev ⟨fr, H⟩ x = AS.ev ⟨fr, H0⟩ x := by cases x <;> rfl
    have ey : AS.ev ⟨fr, H⟩ y = AS.ev ⟨fr, H0⟩ y := by cases y <;> rfl
    have rx := hl.ev (H := H) (x := x) (by simp [Op.operands])
    have ry := hl.ev (H := H) (x := y) (by simp [Op.operands])
    rw [ex, hx] at rx
    rw [ey, hy] at ry
    unfold Oper.wp
    rw [eqA_run h h1 h2 hop (ra_ints rx) (ra_ints ry) w]
    exact hk G _ w (Gh.le.refl _ _) (Nat.le_refl _) hi (.iv _ _ (.lit _))), k N (by show (putL _ _ _).length ≤ N; rw [putL_len]; exact hn)⟩
end
end Go.Proofs.Ytmjkhjebeebahaa
namespace Go.Proofs.Ytmjkhjebeebahaa
/-- A check of n things: too many; or the first one that has a fault; or none has. -/
def FChk (big n : Nat) (err : Nat → Int) (a c : Int) : Prop :=
  (big < n ∧ a = 0 ∧ c = 3) ∨ (n ≤ big ∧ ∃ i : Nat, i < n ∧ (∀ j, j < i → err j = 0) ∧ err i ≠ 0 ∧ a = i ∧ c = err i) ∨ (n ≤ big ∧ (∀ j, j < n → err j = 0) ∧ a = n ∧ c = 0)
theorem FChk.uniq {big n : Nat} {err : Nat → Int} {a c a' c' : Int} (h : FChk big n err a c) (h' : FChk big n err a' c') : a = a' ∧ c = c' := by
  rcases h with ⟨h1, h2, h3⟩ | ⟨h1, i, h2, h3, h4, h5, h6⟩ | ⟨h1, h2, h3, h4⟩ <;> rcases h' with ⟨k1, k2, k3⟩ | ⟨k1, j, k2, k3, k4, k5, k6⟩ | ⟨k1, k2, k3, k4⟩
  · omega
  · omega
  · omega
  · omega
  · rcases Nat.lt_trichotomy i j with h | h | h
    · exact absurd (k3 i h) h4
    · subst h; omega
    · exact absurd (h3 j h) k4
  · exact absurd (k2 i h2) h4
  · omega
  · exact absurd (h2 j k2) k4
  · omega
structure Ev3 where
  w : Int
  p : Int
  n : Int
def evAt (xs : List Ev3) (i : Nat) : Ev3 := xs.getD i ⟨0, 0, 0⟩
def eFl (x : Ev3) : List Int := [x.w, x.p, x.n]
def flatE (xs : List Ev3) : List Int := xs.flatMap eFl
def eMay (x : Ev3) : Int := if x.w ≠ 1 ∧ x.w ≠ 2 then 8 else if ¬ (1 ≤ x.p ∧ x.p ≤ 1000) then 2 else if x.w = 1 ∧ ¬ (0 ≤ x.n ∧ x.n ≤ 63) then 31 else if x.w = 2 ∧ ¬ (0 ≤ x.n ∧ x.n ≤ 1000000) then 7 else 0
theorem eMay_zero {x : Ev3} (h : eMay x = 0) : (x.w = 1 ∨ x.w = 2) ∧ 1 ≤ x.p ∧ x.p ≤ 1000 ∧ (x.w = 1 → 0 ≤ x.n ∧ x.n ≤ 63) ∧ (x.w = 2 → 0 ≤ x.n ∧ x.n ≤ 1000000) := by
  unfold eMay at h
  (repeat' split at h) <;> omega
/-- What a process' last event is of the first k; 0: there is none. -/
def eLast (xs : List Ev3) : Nat → Int → Int
  | 0, _ => 0
  | k + 1, p => if (evAt xs k).p = p then (evAt xs k).w else eLast xs k p
/-- Where it is; below 0: nowhere. -/
def eWhere (xs : List Ev3) : Nat → Int → Int
  | 0, _ => -1
  | k + 1, p => if (evAt xs k).p = p then k else eWhere xs k p
theorem eWhere_lt (xs : List Ev3) (p : Int) : ∀ k, -1 ≤ eWhere xs k p ∧ eWhere xs k p < k
  | 0 => by unfold eWhere; omega
  | k + 1 => by
    have := eWhere_lt xs p k
    unfold eWhere
    split <;> omega
theorem eWhere_none {xs : List Ev3} {p : Int} : ∀ {k}, eWhere xs k p < 0 → eLast xs k p = 0
  | 0, _ => rfl
  | k + 1, h => by
    unfold eWhere at h
    unfold eLast
    split at h
    · omega
    · rename_i hp; rw [if_neg hp]; exact eWhere_none h
theorem eWhere_some {xs : List Ev3} {p : Int} : ∀ {k}, 0 ≤ eWhere xs k p → eLast xs k p = (evAt xs (eWhere xs k p).toNat).w
  | 0, h => by unfold eWhere at h; omega
  | k + 1, h => by
    unfold eWhere at h ⊢
    unfold eLast
    split
    · simp
    · rename_i hp; rw [if_neg hp] at h; exact eWhere_some h
def eErr (xs : List Ev3) (k : Nat) : Int := if eMay (evAt xs k) ≠ 0 then eMay (evAt xs k) else if (eLast xs k (evAt xs k).p = 1) ↔ (evAt xs k).w = 2 then 0 else 33
theorem eErr_may {xs : List Ev3} {k : Nat} (h : eMay (evAt xs k) ≠ 0) : eErr xs k = eMay (evAt xs k) := by unfold eErr; rw [if_pos h]
theorem eErr_open {xs : List Ev3} {k : Nat} (h : eMay (evAt xs k) = 0) (h2 : ¬ ((eLast xs k (evAt xs k).p = 1) ↔ (evAt xs k).w = 2)) : eErr xs k = 33 := by unfold eErr; rw [if_neg (by simpa using h), if_neg h2]
theorem eErr_none {xs : List Ev3} {k : Nat} (h : eMay (evAt xs k) = 0) (h2 : (eLast xs k (evAt xs k).p = 1) ↔ (evAt xs k).w = 2) : eErr xs k = 0 := by unfold eErr; rw [if_neg (by simpa using h), if_pos h2]
theorem eErr_zero {xs : List Ev3} {k : Nat} (h : eErr xs k = 0) : eMay (evAt xs k) = 0 ∧ ((eLast xs k (evAt xs k).p = 1) ↔ (evAt xs k).w = 2) := by
  unfold eErr at h
  split at h
  · exact absurd h ‹_›
  · rename_i h1
    split at h
    · exact ⟨by simpa using h1, ‹_›⟩
    · omega
theorem FChk.at {big n : Nat} {err : Nat → Int} {i : Nat} (hn : n ≤ big) (hi : i < n) (hp : ∀ j, j < i → err j = 0) {c : Int} (hc : err i = c) (h0 : c ≠ 0) : FChk big n err i c := .inr (.inl ⟨hn, i, hi, hp, by rw [hc]; exact h0, rfl, hc.symm⟩)
theorem FChk.big' {big n : Nat} {err : Nat → Int} (hn : big < n) : FChk big n err 0 3 := .inl ⟨hn, rfl, rfl⟩
theorem FChk.all {big n : Nat} {err : Nat → Int} (hn : n ≤ big) (hp : ∀ j, j < n → err j = 0) : FChk big n err n 0 := .inr (.inr ⟨hn, hp, rfl, rfl⟩)
theorem below_succ {err : Nat → Int} {i : Nat} (hp : ∀ j, j < i → err j = 0) (h : err i = 0) : ∀ j, j < i + 1 → err j = 0 := fun j hj => by
  rcases Nat.lt_or_ge j i with h1 | h1
  · exact hp j h1
  · rw [show j = i by omega]; exact h
def EChk (xs : List Ev3) (a c : Int) : Prop := FChk 10000 xs.length (eErr xs) a c
end Go.Proofs.Ytmjkhjebeebahaa
