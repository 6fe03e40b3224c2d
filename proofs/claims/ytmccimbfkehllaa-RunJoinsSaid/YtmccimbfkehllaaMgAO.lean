import Derived.Test.YtmccimbfkehllaaMgAN
import Derived.Test.YtmccimbfkehllaaMgAM
import Derived.DeepKeys
import Derived.Laws.StructEq
namespace Go.Proofs.Ytmccimbfkehllaa
open Go.ChangeShapes Go.WideShapes Go.ChangeAt Go.RowKit
set_option linter.unusedVariables false
theorem flatO_len : ∀ xs : List Op5, (flatO xs).length = xs.length * 5
  | [] => rfl
  | x :: xs => by
    have := flatO_len xs
    unfold flatO at this ⊢
    rw [List.flatMap_cons, List.length_append, this, List.length_cons]
    show 5 + xs.length * 5 = _
    omega
theorem ops_of_flat {ys : List Int} {len : Nat} (hl : ys.length = len * 5) : ∃ xs : List Op5, xs.length = len ∧ flatO xs = ys := by
  refine ⟨(List.range len).map fun i => ⟨ys.getD (i * 5) 0, ys.getD (i * 5 + 1) 0, ys.getD (i * 5 + 2) 0, ys.getD (i * 5 + 3) 0, ys.getD (i * 5 + 4) 0⟩, by simp, list_of_getD (by rw [flatO_len]; simp [hl]) fun j hj => ?_⟩
  rw [flatO_len] at hj
  simp only [List.length_map, List.length_range] at hj
  have h1 : j / 5 < len := by omega
  have h2 : j % 5 < 5 := by omega
  have h3 := flatO_at h2 ((List.range len).map fun i => (⟨ys.getD (i * 5) 0, ys.getD (i * 5 + 1) 0, ys.getD (i * 5 + 2) 0, ys.getD (i * 5 + 3) 0, ys.getD (i * 5 + 4) 0⟩ : Op5)) (j / 5)
  rw [show j / 5 * 5 + j % 5 = j by omega] at h3
  rw [h3]
  have h4 : oAt ((List.range len).map fun i => (⟨ys.getD (i * 5) 0, ys.getD (i * 5 + 1) 0, ys.getD (i * 5 + 2) 0, ys.getD (i * 5 + 3) 0, ys.getD (i * 5 + 4) 0⟩ : Op5)) (j / 5) = ⟨ys.getD (j / 5 * 5) 0, ys.getD (j / 5 * 5 + 1) 0, ys.getD (j / 5 * 5 + 2) 0, ys.getD (j / 5 * 5 + 3) 0, ys.getD (j / 5 * 5 + 4) 0⟩ := by
    unfold oAt; rw [List.getD_eq_getElem?_getD]; simp only [List.getElem?_map, List.getElem?_range h1, Option.map_some, Option.getD_some]
  rw [h4]
  have h5 : j % 5 = 0 ∨ j % 5 = 1 ∨ j % 5 = 2 ∨ j % 5 = 3 ∨ j % 5 = 4 := by omega
  rcases h5 with h | h | h | h | h <;> rw [h] <;> simp only [oFl, List.getD_cons_zero, List.getD_cons_succ] <;> exact congrArg (fun z => ys.getD z 0) (by omega)
theorem StructRow.opsA {w : World} {a : Option Addr} {len cap : Nat} (h : StructRow w 5 a len cap) : ∃ xs : List Op5, xs.length = len ∧ okI (flatO xs) ∧ RI (fun b => w.heap[b]?) (iOps xs) (.slice a len cap) := by
  obtain ⟨ys, h1, h2, h3⟩ := h.flat (by decide)
  obtain ⟨xs, rfl, rfl⟩ := ops_of_flat h1
  exact ⟨xs, rfl, h2, h3⟩
theorem okI_s {xs : List Op5} (h : okI (flatO xs)) (i : Nat) : -9223372036854775808 ≤ (oAt xs i).s ∧ (oAt xs i).s ≤ 9223372036854775807 := by
  have := h (i * 5 + 2)
  rwa [flatO_s] at this
end Go.Proofs.Ytmccimbfkehllaa
namespace Go.Proofs.Ytmccimbfkehllaa
open Go.RowKit
set_option linter.unusedVariables false
set_option linter.unusedSimpArgs false
def isI64 (P : Program) (t : TypeId) : Bool := (match P.underlying t with | some (.int .i64) => true | _ => false) && P.plainKey t
def intFields (P : Program) : Nat → List Field → Bool
  | _, [] => true
  | k, f :: fs => f.name != "_" && f.offset == k && isI64 P f.type && intFields P (k + 1) fs
def eqOK (P : Program) (t n : Nat) : Bool := !P.eqGuardType P.depth t && match P.underlying t with
  | some (.struct fs) => intFields P 0 fs.toList && fs.toList.length == n && !P.stoodInHeld t
  | some (.array k e) => isI64 P e && P.cellsOf e == 1 && k == n && (P.info? e).isSome
  | _ => false
section
variable {P : Program}
theorem i64_part {t : TypeId} (h : isI64 P t = true) {xs : Array Value} {i : Nat} {a : Int} (hx : xs[i]? = some (.int .i64 a)) (w : World) : (part t xs i).run P w = .ok (.int .i64 a) w := by
  unfold isI64 at h; rw [Bool.and_eq_true] at h
  exact run_part_plain w h.2 hx
theorem i64_eq {t : TypeId} (h : isI64 P t = true) (d : Nat) (a b : Int) (w : World) : (Op.equalIn (d + 1) t (.int .i64 a) (.int .i64 b)).run P w = .ok (a == b) w := by
  unfold isI64 at h; rw [Bool.and_eq_true] at h
  have h1 := h.1
  split at h1
  · rename_i hu; exact run_equalIn_int w d t .i64 .i64 a b hu
  · cases h1
theorem drop_cons {xs : List Value} {k : Nat} {v : Value} {l : List Value} (h : xs.drop k = v :: l) : xs[k]? = some v ∧ xs.drop (k + 1) = l := by
  constructor
  · have := congrArg (fun l => l[0]?) h; simpa using this
  · have := congrArg List.tail h; simpa using this
theorem eqFields_ints (d : Nat) (xs ys : Array Value) (w : World) : ∀ (fs : List Field) (k : Nat) (us vs2 : List Int), intFields P k fs = true → us.length = fs.length → vs2.length = fs.length → xs.toList.drop k = us.map (Value.int .i64) → ys.toList.drop k = vs2.map (Value.int .i64) →
    (Op.eqFields (d + 1) xs ys fs).run P w = .ok (us == vs2) w
  | [], k, us, vs2, _, h1, h2, _, _ => by
    rw [List.length_eq_zero_iff.1 h1, List.length_eq_zero_iff.1 h2]; simp [Op.eqFields]
  | f :: fs, k, [], vs2, _, h1, _, _, _ => by simp at h1
  | f :: fs, k, a :: us, [], _, _, h2, _, _ => by simp at h2
  | f :: fs, k, a :: us, b :: vs2, h, h1, h2, hx, hy => by
    unfold intFields at h
    simp only [Bool.and_eq_true, bne_iff_ne, beq_iff_eq] at h
    obtain ⟨⟨⟨n1, n2⟩, n3⟩, n4⟩ := h
    obtain ⟨x1, x2⟩ := drop_cons hx
    obtain ⟨y1, y2⟩ := drop_cons hy
    rw [Array.getElem?_toList] at x1 y1
    have ih := eqFields_ints d xs ys w fs (k + 1) us vs2 n4 (by simpa using h1) (by simpa using h2) x2 y2
    simp only [Op.eqFields, n1, ne_eq, not_false_eq_true, if_true, Sem.run_bind, n2, i64_part n3 x1, i64_part n3 y1, i64_eq n3, Result.andThen_ok]
    by_cases hab : a = b
    · subst hab; simpa using ih
    · simp [hab]
theorem eqItems_ints (d : Nat) {e : TypeId} (he : isI64 P e = true) (xs ys : Array Value) (w : World) : ∀ (n k : Nat) (us vs2 : List Int), us.length = n → vs2.length = n → xs.toList.drop k = us.map (Value.int .i64) → ys.toList.drop k = vs2.map (Value.int .i64) →
    (Op.eqItems (d + 1) e 1 xs ys (List.range' k n)).run P w = .ok (us == vs2) w
  | 0, k, us, vs2, h1, h2, _, _ => by
    rw [List.length_eq_zero_iff.1 h1, List.length_eq_zero_iff.1 h2]; simp [Op.eqItems]
  | n + 1, k, [], vs2, h1, _, _, _ => by simp at h1
  | n + 1, k, a :: us, [], _, h2, _, _ => by simp at h2
  | n + 1, k, a :: us, b :: vs2, h1, h2, hx, hy => by
    obtain ⟨x1, x2⟩ := drop_cons hx
    obtain ⟨y1, y2⟩ := drop_cons hy
    rw [Array.getElem?_toList] at x1 y1
    have ih := eqItems_ints d he xs ys w n (k + 1) us vs2 (by simpa using h1) (by simpa using h2) x2 y2
    rw [List.range'_succ]
    simp only [Op.eqItems, Sem.run_bind, Nat.mul_one, i64_part he x1, i64_part he y1, i64_eq he, Result.andThen_ok]
    by_cases hab : a = b
    · subst hab; simpa using ih
    · simp [hab]
theorem eq_ints {t n : Nat} (h : eqOK P t n = true) {us vs2 : List Int} (h1 : us.length = n) (h2 : vs2.length = n) (w : World) : (Op.equalIn 10000 t (.agg (us.map (Value.int .i64)).toArray) (.agg (vs2.map (Value.int .i64)).toArray)).run P w = .ok (us == vs2) w := by
  unfold eqOK at h
  rw [Bool.and_eq_true] at h
  have h := h.2
  split at h
  · rename_i fs hu
    simp only [Bool.and_eq_true, beq_iff_eq, Bool.not_eq_true'] at h
    obtain ⟨⟨f1, f2⟩, f3⟩ := h
    have hf : P.fieldsOf t = fs := by unfold Program.fieldsOf; rw [hu]
    rw [show (10000 : Nat) = 9998 + 1 + 1 from rfl, run_equalIn_struct w _ t _ _ (by rw [hf]; exact hu) f3, hf]
    exact eqFields_ints 9998 _ _ w fs.toList 0 us vs2 f1 (by rw [h1, f2]) (by rw [h2, f2]) (by simp) (by simp)
  · rename_i k e hu
    simp only [Bool.and_eq_true, beq_iff_eq] at h
    obtain ⟨⟨⟨f1, f2⟩, f3⟩, f4⟩ := h
    obtain ⟨i, hi⟩ := Option.isSome_iff_exists.1 f4
    rw [show (10000 : Nat) = 9998 + 1 + 1 from rfl, run_equalIn_array w _ _ _ hu hi, f2, f3, List.range_eq_range']
    exact eqItems_ints 9998 f1 _ _ w n 0 us vs2 h1 h2 (by simp) (by simp)
  · cases h
theorem eq_guard {t n : Nat} (h : eqOK P t n = true) (op : BinOp) (x y : Operand) (xs ys : Array Value) (w : World) : (eqGuard op t x y (.agg xs) (.agg ys)).run P w = .ok () w := by
  unfold eqOK at h
  simp only [Bool.and_eq_true, Bool.not_eq_true'] at h
  exact run_eqGuard_agg w op t x y xs ys h.1
def litI (a : Int) : AV := lt (.int .i64 a)
theorem ra_ints {n : Nat} {G : Gh} {us : List Int} {v : Value} (h : RA n G (.agg (us.map fun a => lt (.int .i64 a))) v) : v = .agg (us.map (Value.int .i64)).toArray := by
  cases h with
  | agg _ vs h1 h2 h3 =>
    congr 2
    refine List.ext_getElem? fun j => ?_
    rw [List.length_map] at h1
    rcases Nat.lt_or_ge j vs.length with hj | hj
    · have hj' : j < us.length := by omega
      have := (h2 j (lt (.int .i64 us[j])) vs[j] (by rw [List.getElem?_map, List.getElem?_eq_getElem hj']; rfl) (List.getElem?_eq_getElem hj)).lit_inv
      rw [List.getElem?_eq_getElem hj, List.getElem?_map, List.getElem?_eq_getElem hj', this]; rfl
    · rw [List.getElem?_eq_none hj, List.getElem?_eq_none (by rw [List.length_map]; omega)]
def eqRes (op : BinOp) (b : Bool) : Bool := match op with | .eql => b | _ => !b
theorem eqA_run {t n : Nat} (h : eqOK P t n = true) {us vs2 : List Int} (h1 : us.length = n) (h2 : vs2.length = n) {op : BinOp} (hop : op = .eql ∨ op = .neq) {x y : Operand} {d : Option Tmp} {t2 ty : TypeId} {pos : String} {after : Array Edge} {g : Option (Nat × Bool)} {ρ : Operand → Value} (hx : ρ x = .agg (us.map (Value.int .i64)).toArray) (hy : ρ y = .agg (vs2.map (Value.int .i64)).toArray) (w : World) :
    (execOp ρ ⟨d, .binOp op t x y t2, ty, pos, after, g⟩).run P w = .ok (.value (.bool (eqRes op (us == vs2)))) w := by
  rcases hop with rfl | rfl
  · simp [execOp, hx, hy, eq_guard h, run_eql_struct, eq_ints h h1 h2, Result.andThen, eqRes]
  · simp [execOp, hx, hy, eq_guard h, run_neq_struct, eq_ints h h1 h2, Result.andThen, eqRes]
variable {m : Nat} {Q : Exit → XS → Prop} {fr : List AV} {H : AHeap} {M : MS} {l : List Oper} {d : Option Tmp} {t2 ty : TypeId} {pos : String} {after : Array Edge} {g : Option (Nat × Bool)}
theorem XRes_eqA {t n : Nat} {op : BinOp} {x y : Operand} {us vs2 : List Int} (hw : wantedS fr ⟨d, .binOp op t x y t2, ty, pos, after, g⟩ = some true) (hop : op = .eql ∨ op = .neq) (hx : AS.ev ⟨fr, H⟩ x = .agg (us.map fun a => lt (.int .i64 a))) (hy : AS.ev ⟨fr, H⟩ y = .agg (vs2.map fun a => lt (.int .i64 a))) (h1 : us.length = n) (h2 : vs2.length = n) (h : eqOK P t n = true)
    (k : XRes P m Q (l, ⟨putL fr d (lt (.bool (eqRes op (us == vs2)))), H, M⟩)) : XRes P m Q (⟨d, .binOp op t x y t2, ty, pos, after, g⟩ :: l, ⟨fr, H, M⟩) :=
  XRes_gives hw (fun G a w hr => ⟨G, _, w, .inl (eqA_run h h1 h2 hop (ra_ints (hx ▸ hr.ev x)) (ra_ints (hy ▸ hr.ev y)) w), Gh.le.refl _ _, Nat.le_refl _, hr.inv, .iv _ _ (.lit _)⟩) k
theorem ADF_eqA {H0 : AHeap} {K : List AV → AHeap → Prop} {t n : Nat} {op : BinOp} {x y : Operand} {us vs2 : List Int} (hw : wantedS fr ⟨d, .binOp op t x y t2, ty, pos, after, g⟩ = some true) (hop : op = .eql ∨ op = .neq) (hx : AS.ev ⟨fr, H0⟩ x = .agg (us.map fun a => lt (.int .i64 a))) (hy : AS.ev ⟨fr, H0⟩ y = .agg (vs2.map fun a => lt (.int .i64 a))) (h1 : us.length = n) (h2 : vs2.length = n) (h : eqOK P t n = true)
    (k : ADF P H0 K (l, putL fr d (lt (.bool (eqRes op (us == vs2)))))) : ADF P H0 K (⟨d, .binOp op t x y t2, ty, pos, after, g⟩ :: l, fr) := fun N hn =>
  ⟨_, H0, none, .free _ (wanted_iff hn hw) fun H => (by
    intro Q' G a w K' hi hl hk
    have ex : AS.ev ⟨fr, H⟩ x = AS.ev ⟨fr, H0⟩ x := by cases x <;> rfl
    have ey : AS.ev ⟨fr, H⟩ y = AS.ev ⟨fr, H0⟩ y := by cases y <;> rfl
    have rx := hl.ev (H := H) (x := x) (by simp [Op.operands])
    have ry := hl.ev (H := H) (x := y) (by simp [Op.operands])
    rw [ex, hx] at rx
    rw [ey, hy] at ry
    unfold Oper.wp
    rw [eqA_run h h1 h2 hop (ra_ints rx) (ra_ints ry) w]
    exact hk G _ w (Gh.le.refl _ _) (Nat.le_refl _) hi (.iv _ _ (.lit _))), k N (by show (putL _ _ _).length ≤ N; rw [putL_len]; exact hn)⟩
end
end Go.Proofs.Ytmccimbfkehllaa
namespace Go.Proofs.Ytmccimbfkehllaa
set_option linter.unusedVariables false
/-- The first place below n at which something is told; n if there is none. -/
def fb (err : Nat → Int) : Nat → Nat
  | 0 => 0
  | n + 1 => if fb err n < n then fb err n else if err n ≠ 0 then n else n + 1
theorem fb_le (err : Nat → Int) : ∀ n, fb err n ≤ n
  | 0 => Nat.le_refl _
  | n + 1 => by
    have := fb_le err n
    unfold fb
    split
    · omega
    · split <;> omega
theorem fb_all {err : Nat → Int} : ∀ {n : Nat}, (∀ j, j < n → err j = 0) → fb err n = n
  | 0, _ => rfl
  | n + 1, h => by
    have ih := fb_all (n := n) fun j hj => h j (by omega)
    unfold fb
    rw [ih, if_neg (by omega), if_neg (by rw [h n (by omega)]; simp)]
theorem fb_at {err : Nat → Int} {i : Nat} (h : ∀ j, j < i → err j = 0) (hi : err i ≠ 0) : ∀ {n : Nat}, i < n → fb err n = i
  | 0, hn => by omega
  | n + 1, hn => by
    unfold fb
    rcases Nat.lt_or_ge i n with h1 | h1
    · rw [fb_at h hi h1, if_pos h1]
    · obtain rfl : i = n := by omega
      rw [fb_all h, if_neg (by omega), if_pos hi]
theorem fb_before {err : Nat → Int} : ∀ {n j : Nat}, j < fb err n → err j = 0
  | 0, j, h => by unfold fb at h; omega
  | n + 1, j, h => by
    unfold fb at h
    split at h
    · exact fb_before h
    · rename_i h1
      have h2 := fb_le err n
      have h3 : fb err n = n := by omega
      split at h
      · exact fb_before (n := n) (by omega)
      · rename_i h4
        rcases Nat.lt_or_ge j n with h5 | h5
        · exact fb_before (n := n) (by omega)
        · obtain rfl : j = n := by omega
          simpa using h4
theorem fb_bad {err : Nat → Int} : ∀ {n : Nat}, fb err n < n → err (fb err n) ≠ 0
  | 0, h => by omega
  | n + 1, h => by
    by_cases h1 : fb err n < n
    · have e : fb err (n + 1) = fb err n := by rw [fb, if_pos h1]
      rw [e]; exact fb_bad h1
    · by_cases h2 : err n ≠ 0
      · have e : fb err (n + 1) = n := by rw [fb, if_neg h1, if_pos h2]
        rw [e]; exact h2
      · have e : fb err (n + 1) = n + 1 := by rw [fb, if_neg h1, if_neg h2]
        rw [e] at h; omega
theorem fb_eq {err : Nat → Int} {n : Nat} : fb err n = n ↔ ∀ j, j < n → err j = 0 := ⟨fun h j hj => fb_before (n := n) (by omega), fb_all⟩
theorem fb_congr {err err' : Nat → Int} : ∀ {n : Nat}, (∀ j, j < n → err j = err' j) → fb err n = fb err' n
  | 0, _ => rfl
  | n + 1, h => by unfold fb; rw [fb_congr (n := n) fun j hj => h j (by omega), h n (by omega)]
/-- A row of an object's table: state, kind, next, result. -/
structure Rw where
  s : Int
  k : Int
  n : Int
  r : Int
def rwAt (xs : List Rw) (i : Nat) : Rw := xs.getD i ⟨0, 0, 0, 0⟩
structure Ob where
  S : Int
  K : Int
  I : Int
  R : List Rw
def obHead (o : Ob) : Prop := 1 ≤ o.S ∧ o.S ≤ 32 ∧ 1 ≤ o.K ∧ o.K ≤ 64 ∧ 0 ≤ o.I ∧ o.I < o.S
instance (o : Ob) : Decidable (obHead o) := by unfold obHead; infer_instance
def rises (a b : Rw) : Prop := a.s < b.s ∨ (a.s = b.s ∧ a.k < b.k)
instance (a b : Rw) : Decidable (rises a b) := by unfold rises; infer_instance
/-- What is wrong with a row. -/
def obErr (o : Ob) (i : Nat) : Int :=
  if ¬ (0 ≤ (rwAt o.R i).s ∧ (rwAt o.R i).s < o.S) ∨ ¬ (0 ≤ (rwAt o.R i).n ∧ (rwAt o.R i).n < o.S) then 30 else if ¬ (0 ≤ (rwAt o.R i).k ∧ (rwAt o.R i).k < o.K) then 31 else if ¬ (0 ≤ (rwAt o.R i).r ∧ (rwAt o.R i).r ≤ 1000000) then 7 else if 0 < i ∧ ¬ rises (rwAt o.R (i - 1)) (rwAt o.R i) then 32 else 0
def obBad (o : Ob) : Nat := fb (obErr o) o.R.length
/-- The check's two answers. -/
def obAt (o : Ob) : Int := if obHead o then (obBad o : Int) else -1
def obE (o : Ob) : Int := if obHead o then (if obBad o < o.R.length then obErr o (obBad o) else 0) else 2
theorem obE_zero {o : Ob} : obE o = 0 ↔ obHead o ∧ ∀ i, i < o.R.length → obErr o i = 0 := by
  unfold obE obBad
  by_cases h : obHead o
  · rw [if_pos h]
    have h1 := fb_le (obErr o) o.R.length
    by_cases h2 : fb (obErr o) o.R.length < o.R.length
    · rw [if_pos h2]
      exact ⟨fun h3 => absurd h3 (fb_bad h2), fun h3 => h3.2 _ h2⟩
    · rw [if_neg h2]
      exact ⟨fun _ => ⟨h, fb_eq.1 (by omega)⟩, fun _ => rfl⟩
  · rw [if_neg h]
    exact ⟨fun h2 => by omega, fun h2 => absurd h2.1 h⟩
/-- The move of a state and a kind. -/
def mvAt (o : Ob) (st kd : Int) (i : Nat) : Bool := decide ((rwAt o.R i).s = st ∧ (rwAt o.R i).k = kd)
def mvErr (o : Ob) (st kd : Int) (i : Nat) : Int := if mvAt o st kd i = true then 1 else 0
def mvI (o : Ob) (st kd : Int) : Nat := fb (mvErr o st kd) o.R.length
def mvOk (o : Ob) (st kd : Int) : Bool := decide (mvI o st kd < o.R.length)
def mvN (o : Ob) (st kd : Int) : Int := if mvI o st kd < o.R.length then (rwAt o.R (mvI o st kd)).n else 0
def mvR (o : Ob) (st kd : Int) : Int := if mvI o st kd < o.R.length then (rwAt o.R (mvI o st kd)).r else 0
theorem mvI_at {o : Ob} {st kd : Int} {i : Nat} (h : ∀ j, j < i → mvAt o st kd j = false) (hi : mvAt o st kd i = true) (hl : i < o.R.length) : mvI o st kd = i :=
  fb_at (fun j hj => by unfold mvErr; rw [h j hj]; rfl) (by unfold mvErr; rw [if_pos hi]; decide) hl
theorem mvI_no {o : Ob} {st kd : Int} (h : ∀ j, j < o.R.length → mvAt o st kd j = false) : mvI o st kd = o.R.length :=
  fb_all fun j hj => by unfold mvErr; rw [h j hj]; rfl
theorem mvI_is {o : Ob} {st kd : Int} (h : mvI o st kd < o.R.length) : mvAt o st kd (mvI o st kd) = true := by
  have := fb_bad (err := mvErr o st kd) h
  unfold mvErr at this
  by_cases hc : mvAt o st kd (mvI o st kd) = true
  · exact hc
  · exact absurd (if_neg hc) this
/-- A step: the next state, the error. -/
def stN (o : Ob) (st kd res : Int) : Int := if (0 ≤ st ∧ st < o.S) ∧ mvOk o st kd = true ∧ mvR o st kd = res then mvN o st kd else 0
def stE (o : Ob) (st kd res : Int) : Int := if ¬ (0 ≤ st ∧ st < o.S) then 30 else if mvOk o st kd = true ∧ mvR o st kd = res then 0 else 40
theorem stN_of {o : Ob} {st kd res : Int} (h : stE o st kd res = 0) : stN o st kd res = mvN o st kd ∧ (0 ≤ st ∧ st < o.S) ∧ mvOk o st kd = true ∧ mvR o st kd = res := by
  unfold stE at h
  split at h
  · omega
  · split at h
    · rename_i h1 h2
      have h1 : 0 ≤ st ∧ st < o.S := by omega
      exact ⟨by unfold stN; rw [if_pos ⟨h1, h2⟩], h1, h2⟩
    · omega
structure Pk where
  o : Int
  r : Int
def pkAt (ps : List Pk) (i : Nat) : Pk := ps.getD i ⟨0, 0⟩
/-- The operation of a pick. -/
def pkOp (l : List Op5) (p : Pk) : Op5 := oAt l p.o.toNat
/-- The state ahead of the i-th pick. -/
def rSt (o : Ob) (l : List Op5) (st : Int) (ps : List Pk) : Nat → Int
  | 0 => st
  | i + 1 => stN o (rSt o l st ps i) (pkOp l (pkAt ps i)).k (pkAt ps i).r
def pkIn (l : List Op5) (p : Pk) : Prop := 0 ≤ p.o ∧ p.o < l.length
instance (l : List Op5) (p : Pk) : Decidable (pkIn l p) := by unfold pkIn; infer_instance
def pkDup (ps : List Pk) (i : Nat) (x : Int) : Prop := ∃ k, k < i ∧ (pkAt ps k).o = x
instance (ps : List Pk) (i : Nat) (x : Int) : Decidable (pkDup ps i x) := by unfold pkDup; infer_instance
/-- What is wrong with a pick. -/
def pkE (o : Ob) (l : List Op5) (st : Int) (ps : List Pk) (i : Nat) : Int :=
  if ¬ pkIn l (pkAt ps i) then 2 else if pkDup ps i (pkAt ps i).o then 21 else if stE o (rSt o l st ps i) (pkOp l (pkAt ps i)).k (pkAt ps i).r ≠ 0 then stE o (rSt o l st ps i) (pkOp l (pkAt ps i)).k (pkAt ps i).r else if (pkOp l (pkAt ps i)).e ≠ -1 ∧ (pkOp l (pkAt ps i)).r ≠ (pkAt ps i).r then 40 else 0
def rBad (o : Ob) (l : List Op5) (st : Int) (ps : List Pk) : Nat := fb (pkE o l st ps) ps.length
/-- The three answers of a run. -/
def rOk (o : Ob) (l : List Op5) (st : Int) (ps : List Pk) : Prop := obE o = 0 ∧ (0 ≤ st ∧ st < o.S) ∧ ∀ i, i < ps.length → pkE o l st ps i = 0
def rEnd (o : Ob) (l : List Op5) (st : Int) (ps : List Pk) : Int := if obE o = 0 ∧ (0 ≤ st ∧ st < o.S) ∧ rBad o l st ps = ps.length then rSt o l st ps ps.length else 0
def rAt (o : Ob) (l : List Op5) (st : Int) (ps : List Pk) : Int := if obE o = 0 ∧ (0 ≤ st ∧ st < o.S) then (rBad o l st ps : Int) else -1
def rErr (o : Ob) (l : List Op5) (st : Int) (ps : List Pk) : Int := if obE o ≠ 0 then 2 else if ¬ (0 ≤ st ∧ st < o.S) then 30 else if rBad o l st ps < ps.length then pkE o l st ps (rBad o l st ps) else 0
theorem rErr_zero {o : Ob} {l : List Op5} {st : Int} {ps : List Pk} : rErr o l st ps = 0 ↔ rOk o l st ps := by
  have h1 := fb_le (pkE o l st ps) ps.length
  unfold rErr rOk rBad
  by_cases ha : obE o = 0
  · rw [if_neg (by simpa using ha)]
    by_cases hb : 0 ≤ st ∧ st < o.S
    · rw [if_neg (by omega)]
      by_cases hc : fb (pkE o l st ps) ps.length < ps.length
      · rw [if_pos hc]
        exact ⟨fun h => absurd h (fb_bad hc), fun h => h.2.2 _ hc⟩
      · rw [if_neg hc]
        exact ⟨fun _ => ⟨ha, hb, fb_eq.1 (by omega)⟩, fun _ => rfl⟩
    · rw [if_pos hb]
      exact ⟨fun h => by omega, fun h => absurd h.2.1 hb⟩
  · rw [if_pos ha]
    exact ⟨fun h => by omega, fun h => absurd h.1 ha⟩
theorem rOk.bad {o : Ob} {l : List Op5} {st : Int} {ps : List Pk} (h : rOk o l st ps) : rBad o l st ps = ps.length := fb_eq.2 h.2.2
theorem rOk.end' {o : Ob} {l : List Op5} {st : Int} {ps : List Pk} (h : rOk o l st ps) : rEnd o l st ps = rSt o l st ps ps.length ∧ rAt o l st ps = ps.length := by
  unfold rEnd rAt
  rw [if_pos ⟨h.1, h.2.1, h.bad⟩, if_pos ⟨h.1, h.2.1⟩, h.bad]
  exact ⟨rfl, rfl⟩
theorem rOk.no {o : Ob} {l : List Op5} {st : Int} {ps : List Pk} (h : ¬ rOk o l st ps) : rEnd o l st ps = 0 ∧ (rAt o l st ps < ps.length) ∧ rErr o l st ps ≠ 0 := by
  have h1 := fb_le (pkE o l st ps) ps.length
  refine ⟨?_, ?_, fun h2 => h (rErr_zero.1 h2)⟩
  · unfold rEnd
    exact if_neg fun h2 => h ⟨h2.1, h2.2.1, fb_eq.1 h2.2.2⟩
  · unfold rAt
    split
    · rename_i h2
      have h3 : rBad o l st ps ≠ ps.length := fun h3 => h ⟨h2.1, h2.2, fb_eq.1 h3⟩
      unfold rBad at h3 ⊢
      omega
    · omega
/-- The picks of an order, one by one. -/
def flP (o : Ob) (l : List Op5) (ord : List Int) : Nat → List Pk
  | 0 => []
  | i + 1 => flP o l ord i ++ [⟨ord.getD i 0, if 0 ≤ ord.getD i 0 ∧ ord.getD i 0 < l.length then mvR o (rSt o l o.I (flP o l ord i) i) (oAt l (ord.getD i 0).toNat).k else 0⟩]
theorem flP_len (o : Ob) (l : List Op5) (ord : List Int) : ∀ i, (flP o l ord i).length = i
  | 0 => rfl
  | i + 1 => by unfold flP; rw [List.length_append, flP_len o l ord i]; rfl
/-- What stands ahead is not changed by what comes behind. -/
theorem pkAt_pre {ps qs : List Pk} {n : Nat} (h : ∀ i, i < n → pkAt ps i = pkAt qs i) {o : Ob} {l : List Op5} {st : Int} : ∀ i, i ≤ n → rSt o l st ps i = rSt o l st qs i
  | 0, _ => rfl
  | i + 1, hi => by unfold rSt; rw [pkAt_pre h i (by omega), h i (by omega)]
theorem pkE_pre {ps qs : List Pk} {n : Nat} (h : ∀ i, i < n → pkAt ps i = pkAt qs i) {o : Ob} {l : List Op5} {st : Int} {i : Nat} (hi : i < n) : pkE o l st ps i = pkE o l st qs i := by
  have hd : pkDup ps i (pkAt qs i).o ↔ pkDup qs i (pkAt qs i).o := by
    unfold pkDup
    constructor
    · rintro ⟨k, h1, h2⟩; exact ⟨k, h1, by rw [← h k (by omega)]; exact h2⟩
    · rintro ⟨k, h1, h2⟩; exact ⟨k, h1, by rw [h k (by omega)]; exact h2⟩
  unfold pkE
  rw [h i hi, pkAt_pre h i (by omega)]
  simp only [hd]
theorem pkAt_take {ps : List Pk} {n i : Nat} (h : i < n) : pkAt (ps.take n) i = pkAt ps i := by
  unfold pkAt
  rw [List.getD_eq_getElem?_getD, List.getD_eq_getElem?_getD, List.getElem?_take_of_lt h]
theorem pkAt_drop {ps : List Pk} {n i : Nat} : pkAt (ps.drop n) i = pkAt ps (n + i) := by
  unfold pkAt
  rw [List.getD_eq_getElem?_getD, List.getD_eq_getElem?_getD, List.getElem?_drop]
theorem pkAt_app {ps qs : List Pk} {i : Nat} (h : i < ps.length) : pkAt (ps ++ qs) i = pkAt ps i := by
  unfold pkAt
  rw [List.getD_eq_getElem?_getD, List.getD_eq_getElem?_getD, List.getElem?_append_left h]
theorem pkAt_last {ps : List Pk} {p : Pk} : pkAt (ps ++ [p]) ps.length = p := by
  unfold pkAt
  rw [List.getD_eq_getElem?_getD, List.getElem?_append_right (Nat.le_refl _)]
  simp
theorem flP_pre (o : Ob) (l : List Op5) (ord : List Int) : ∀ {n m i : Nat}, n ≤ m → i < n → pkAt (flP o l ord m) i = pkAt (flP o l ord n) i
  | n, 0, i, h1, h2 => by omega
  | n, m + 1, i, h1, h2 => by
    rcases Nat.lt_or_ge n (m + 1) with h3 | h3
    · show pkAt (flP o l ord m ++ _) i = _
      rw [pkAt_app (by rw [flP_len]; omega)]
      exact flP_pre o l ord (by omega) h2
    · obtain rfl : n = m + 1 := by omega
      rfl
theorem pkE_zero {o : Ob} {l : List Op5} {st : Int} {ps : List Pk} {i : Nat} (h : pkE o l st ps i = 0) : pkIn l (pkAt ps i) ∧ ¬ pkDup ps i (pkAt ps i).o ∧ stE o (rSt o l st ps i) (pkOp l (pkAt ps i)).k (pkAt ps i).r = 0 ∧ ((pkOp l (pkAt ps i)).e = -1 ∨ (pkOp l (pkAt ps i)).r = (pkAt ps i).r) := by
  unfold pkE at h
  split at h
  · omega
  · split at h
    · omega
    · split at h
      · exact absurd h ‹_›
      · split at h
        · omega
        · rename_i h1 h2 h3 h4
          exact ⟨Decidable.not_not.1 h1, h2, Decidable.not_not.1 h3, by omega⟩
theorem pkE_mk {o : Ob} {l : List Op5} {st : Int} {ps : List Pk} {i : Nat} (h1 : pkIn l (pkAt ps i)) (h2 : ¬ pkDup ps i (pkAt ps i).o) (h3 : stE o (rSt o l st ps i) (pkOp l (pkAt ps i)).k (pkAt ps i).r = 0) (h4 : (pkOp l (pkAt ps i)).e = -1 ∨ (pkOp l (pkAt ps i)).r = (pkAt ps i).r) : pkE o l st ps i = 0 := by
  unfold pkE
  rw [if_neg (fun h => h h1), if_neg h2, if_neg (fun h => h h3), if_neg (by omega)]
end Go.Proofs.Ytmccimbfkehllaa
