import Derived.Test.YtcjnikkmjhagmaaGreatDoorMgAV
import Derived.DeepKeys
import Derived.Laws.StructEq
import Derived.Test.YtcjnikkmjhagmaaGreatDoorMgAN
namespace Go.Proofs.YtcjnikkmjhagmaaGreatDoor
open Go.ChangeShapes Go.WideShapes Go.ChangeAt Go.RowKit
set_option linter.unusedVariables false
theorem flatO_len : ∀ xs : List Op5, (flatO xs).length = xs.length * 5
  | [] => rfl
  | x :: xs => by
    have := flatO_len xs
    unfold flatO at this ⊢
    rw [List.flatMap_cons, List.length_append, this, List.length_cons]
    show 5 + xs.length * 5 = _
    omega
theorem ops_of_flat {ys : List Int} {len : Nat} (hl : ys.length = len * 5) : ∃ xs : List Op5, xs.length = len ∧ flatO xs = ys := by
  refine ⟨(List.range len).map fun i => ⟨ys.getD (i * 5) 0, ys.getD (i * 5 + 1) 0, ys.getD (i * 5 + 2) 0, ys.getD (i * 5 + 3) 0, ys.getD (i * 5 + 4) 0⟩, by simp, list_of_getD (by rw [flatO_len]; simp [hl]) fun j hj => ?_⟩
  rw [flatO_len] at hj
  simp only [List.length_map, List.length_range] at hj
  have h1 : j / 5 < len := by omega
  have h2 : j % 5 < 5 := by omega
  have h3 := flatO_at h2 ((List.range len).map fun i => (⟨ys.getD (i * 5) 0, ys.getD (i * 5 + 1) 0, ys.getD (i * 5 + 2) 0, ys.getD (i * 5 + 3) 0, ys.getD (i * 5 + 4) 0⟩ : Op5)) (j / 5)
  rw [show j / 5 * 5 + j % 5 = j by omega] at h3
  rw [h3]
  have h4 : oAt ((List.range len).map fun i => (⟨ys.getD (i * 5) 0, ys.getD (i * 5 + 1) 0, ys.getD (i * 5 + 2) 0, ys.getD (i * 5 + 3) 0, ys.getD (i * 5 + 4) 0⟩ : Op5)) (j / 5) = ⟨ys.getD (j / 5 * 5) 0, ys.getD (j / 5 * 5 + 1) 0, ys.getD (j / 5 * 5 + 2) 0, ys.getD (j / 5 * 5 + 3) 0, ys.getD (j / 5 * 5 + 4) 0⟩ := by
    unfold oAt; rw [List.getD_eq_getElem?_getD]; simp only [List.getElem?_map, List.getElem?_range h1, Option.map_some, Option.getD_some]
  rw [h4]
  have h5 : j % 5 = 0 ∨ j % 5 = 1 ∨ j % 5 = 2 ∨ j % 5 = 3 ∨ j % 5 = 4 := by omega
  rcases h5 with h | h | h | h | h <;> rw [h] <;> simp only [oFl, List.getD_cons_zero, List.getD_cons_succ] <;> exact congrArg (fun z => ys.getD z 0) (by omega)
theorem StructRow.opsA {w : World} {a : Option Addr} {len cap : Nat} (h : StructRow w 5 a len cap) : ∃ xs : List Op5, xs.length = len ∧ okI (flatO xs) ∧ RI (fun b => w.heap[b]?) (iOps xs) (.slice a len cap) := by
  obtain ⟨ys, h1, h2, h3⟩ := h.flat (by decide)
  obtain ⟨xs, rfl, rfl⟩ := ops_of_flat h1
  exact ⟨xs, rfl, h2, h3⟩
theorem okI_s {xs : List Op5} (h : okI (flatO xs)) (i : Nat) : -9223372036854775808 ≤ (oAt xs i).s ∧ (oAt xs i).s ≤ 9223372036854775807 := by
  have := h (i * 5 + 2)
  rwa [flatO_s] at this
end Go.Proofs.YtcjnikkmjhagmaaGreatDoor
namespace Go.Proofs.YtcjnikkmjhagmaaGreatDoor
open Go.RowKit
set_option linter.unusedVariables false
set_option linter.unusedSimpArgs false
def isI64 (P : Program) (t : TypeId) : Bool := (match P.underlying t with | some (.int .i64) => true | _ => false) && P.plainKey t
def intFields (P : Program) : Nat → List Field → Bool
  | _, [] => true
  | k, f :: fs => f.name != "_" && f.offset == k && isI64 P f.type && intFields P (k + 1) fs
def eqOK (P : Program) (t n : Nat) : Bool := !P.eqGuardType P.depth t && match P.underlying t with
  | some (.struct fs) => intFields P 0 fs.toList && fs.toList.length == n && !P.stoodInHeld t
  | some (.array k e) => isI64 P e && P.cellsOf e == 1 && k == n && (P.info? e).isSome
  | _ => false
section
variable {P : Program}
theorem i64_part {t : TypeId} (h : isI64 P t = true) {xs : Array Value} {i : Nat} {a : Int} (hx : xs[i]? = some (.int .i64 a)) (w : World) : (part t xs i).run P w = .ok (.int .i64 a) w := by
  unfold isI64 at h; rw [Bool.and_eq_true] at h
  exact run_part_plain w h.2 hx
theorem i64_eq {t : TypeId} (h : isI64 P t = true) (d : Nat) (a b : Int) (w : World) : (Op.equalIn (d + 1) t (.int .i64 a) (.int .i64 b)).run P w = .ok (a == b) w := by
  unfold isI64 at h; rw [Bool.and_eq_true] at h
  have h1 := h.1
  split at h1
  · rename_i hu; exact run_equalIn_int w d t .i64 .i64 a b hu
  · cases h1
theorem drop_cons {xs : List Value} {k : Nat} {v : Value} {l : List Value} (h : xs.drop k = v :: l) : xs[k]? = some v ∧ xs.drop (k + 1) = l := by
  constructor
  · have := congrArg (fun l => l[0]?) h; simpa using this
  · have := congrArg List.tail h; simpa using this
theorem eqFields_ints (d : Nat) (xs ys : Array Value) (w : World) : ∀ (fs : List Field) (k : Nat) (us vs2 : List Int), intFields P k fs = true → us.length = fs.length → vs2.length = fs.length → xs.toList.drop k = us.map (Value.int .i64) → ys.toList.drop k = vs2.map (Value.int .i64) →
    (Op.eqFields (d + 1) xs ys fs).run P w = .ok (us == vs2) w
  | [], k, us, vs2, _, h1, h2, _, _ => by
    rw [List.length_eq_zero_iff.1 h1, List.length_eq_zero_iff.1 h2]; simp [Op.eqFields]
  | f :: fs, k, [], vs2, _, h1, _, _, _ => by simp at h1
  | f :: fs, k, a :: us, [], _, _, h2, _, _ => by simp at h2
  | f :: fs, k, a :: us, b :: vs2, h, h1, h2, hx, hy => by
    unfold intFields at h
    simp only [Bool.and_eq_true, bne_iff_ne, beq_iff_eq] at h
    obtain ⟨⟨⟨n1, n2⟩, n3⟩, n4⟩ := h
    obtain ⟨x1, x2⟩ := drop_cons hx
    obtain ⟨y1, y2⟩ := drop_cons hy
    rw [Array.getElem?_toList] at x1 y1
    have ih := eqFields_ints d xs ys w fs (k + 1) us vs2 n4 (by simpa using h1) (by simpa using h2) x2 y2
    simp only [Op.eqFields, n1, ne_eq, not_false_eq_true, if_true, Sem.run_bind, n2, i64_part n3 x1, i64_part n3 y1, i64_eq n3, Result.andThen_ok]
    by_cases hab : a = b
    · subst hab; simpa using ih
    · simp [hab]
theorem eqItems_ints (d : Nat) {e : TypeId} (he : isI64 P e = true) (xs ys : Array Value) (w : World) : ∀ (n k : Nat) (us vs2 : List Int), us.length = n → vs2.length = n → xs.toList.drop k = us.map (Value.int .i64) → ys.toList.drop k = vs2.map (Value.int .i64) →
    (Op.eqItems (d + 1) e 1 xs ys (List.range' k n)).run P w = .ok (us == vs2) w
  | 0, k, us, vs2, h1, h2, _, _ => by
    rw [List.length_eq_zero_iff.1 h1, List.length_eq_zero_iff.1 h2]; simp [Op.eqItems]
  | n + 1, k, [], vs2, h1, _, _, _ => by simp at h1
  | n + 1, k, a :: us, [], _, h2, _, _ => by simp at h2
  | n + 1, k, a :: us, b :: vs2, h1, h2, hx, hy => by
    obtain ⟨x1, x2⟩ := drop_cons hx
    obtain ⟨y1, y2⟩ := drop_cons hy
    rw [Array.getElem?_toList] at x1 y1
    have ih := eqItems_ints d he xs ys w n (k + 1) us vs2 (by simpa using h1) (by simpa using h2) x2 y2
    rw [List.range'_succ]
    simp only [Op.eqItems, Sem.run_bind, Nat.mul_one, i64_part he x1, i64_part he y1, i64_eq he, Result.andThen_ok]
    by_cases hab : a = b
    · subst hab; simpa using ih
    · simp [hab]
theorem eq_ints {t n : Nat} (h : eqOK P t n = true) {us vs2 : List Int} (h1 : us.length = n) (h2 : vs2.length = n) (w : World) : (Op.equalIn 10000 t (.agg (us.map (Value.int .i64)).toArray) (.agg (vs2.map (Value.int .i64)).toArray)).run P w = .ok (us == vs2) w := by
  unfold eqOK at h
  rw [Bool.and_eq_true] at h
  have h := h.2
  split at h
  · rename_i fs hu
    simp only [Bool.and_eq_true, beq_iff_eq, Bool.not_eq_true'] at h
    obtain ⟨⟨f1, f2⟩, f3⟩ := h
    have hf : P.fieldsOf t = fs := by unfold Program.fieldsOf; rw [hu]
    rw [show (10000 : Nat) = 9998 + 1 + 1 from rfl, run_equalIn_struct w _ t _ _ (by rw [hf]; exact hu) f3, hf]
    exact eqFields_ints 9998 _ _ w fs.toList 0 us vs2 f1 (by rw [h1, f2]) (by rw [h2, f2]) (by simp) (by simp)
  · rename_i k e hu
    simp only [Bool.and_eq_true, beq_iff_eq] at h
    obtain ⟨⟨⟨f1, f2⟩, f3⟩, f4⟩ := h
    obtain ⟨i, hi⟩ := Option.isSome_iff_exists.1 f4
    rw [show (10000 : Nat) = 9998 + 1 + 1 from rfl, run_equalIn_array w _ _ _ hu hi, f2, f3, List.range_eq_range']
    exact eqItems_ints 9998 f1 _ _ w n 0 us vs2 h1 h2 (by simp) (by simp)
  · cases h
theorem eq_guard {t n : Nat} (h : eqOK P t n = true) (op : BinOp) (x y : Operand) (xs ys : Array Value) (w : World) : (eqGuard op t x y (.agg xs) (.agg ys)).run P w = .ok () w := by
  unfold eqOK at h
  simp only [Bool.and_eq_true, Bool.not_eq_true'] at h
  exact run_eqGuard_agg w op t x y xs ys h.1
def litI (a : Int) : AV := lt (.int .i64 a)
theorem ra_ints {n : Nat} {G : Gh} {us : List Int} {v : Value} (h : RA n G (.agg (us.map fun a => lt (.int .i64 a))) v) : v = .agg (us.map (Value.int .i64)).toArray := by
  cases h with
  | agg _ vs h1 h2 h3 =>
    congr 2
    refine List.ext_getElem? fun j => ?_
    rw [List.length_map] at h1
    rcases Nat.lt_or_ge j vs.length with hj | hj
    · have hj' : j < us.length := by omega
      have := (h2 j (lt (.int .i64 us[j])) vs[j] (by rw [List.getElem?_map, List.getElem?_eq_getElem hj']; rfl) (List.getElem?_eq_getElem hj)).lit_inv
      rw [List.getElem?_eq_getElem hj, List.getElem?_map, List.getElem?_eq_getElem hj', this]; rfl
    · rw [List.getElem?_eq_none hj, List.getElem?_eq_none (by rw [List.length_map]; omega)]
def eqRes (op : BinOp) (b : Bool) : Bool := match op with | .eql => b | _ => !b
theorem eqA_run {t n : Nat} (h : eqOK P t n = true) {us vs2 : List Int} (h1 : us.length = n) (h2 : vs2.length = n) {op : BinOp} (hop : op = .eql ∨ op = .neq) {x y : Operand} {d : Option Tmp} {t2 ty : TypeId} {pos : String} {after : Array Edge} {g : Option (Nat × Bool)} {ρ : Operand → Value} (hx : ρ x = .agg (us.map (Value.int .i64)).toArray) (hy : ρ y = .agg (vs2.map (Value.int .i64)).toArray) (w : World) :
    (execOp ρ ⟨d, .binOp op t x y t2, ty, pos, after, g⟩).run P w = .ok (.value (.bool (eqRes op (us == vs2)))) w := by
  rcases hop with rfl | rfl
  · simp [execOp, hx, hy, eq_guard h, run_eql_struct, eq_ints h h1 h2, Result.andThen, eqRes]
  · simp [execOp, hx, hy, eq_guard h, run_neq_struct, eq_ints h h1 h2, Result.andThen, eqRes]
variable {m : Nat} {Q : Exit → XS → Prop} {fr : List AV} {H : AHeap} {M : MS} {l : List Oper} {d : Option Tmp} {t2 ty : TypeId} {pos : String} {after : Array Edge} {g : Option (Nat × Bool)}
theorem XRes_eqA {t n : Nat} {op : BinOp} {x y : Operand} {us vs2 : List Int} (hw : wantedS fr ⟨d, .binOp op t x y t2, ty, pos, after, g⟩ = some true) (hop : op = .eql ∨ op = .neq) (hx : AS.ev ⟨fr, H⟩ x = .agg (us.map fun a => lt (.int .i64 a))) (hy : AS.ev ⟨fr, H⟩ y = .agg (vs2.map fun a => lt (.int .i64 a))) (h1 : us.length = n) (h2 : vs2.length = n) (h : eqOK P t n = true)
    (k : XRes P m Q (l, ⟨putL fr d (lt (.bool (eqRes op (us == vs2)))), H, M⟩)) : XRes P m Q (⟨d, .binOp op t x y t2, ty, pos, after, g⟩ :: l, ⟨fr, H, M⟩) :=
  XRes_gives hw (fun G a w hr => ⟨G, _, w, .inl (eqA_run h h1 h2 hop (ra_ints (hx ▸ hr.ev x)) (ra_ints (hy ▸ hr.ev y)) w), Gh.le.refl _ _, Nat.le_refl _, hr.inv, .iv _ _ (.lit _)⟩) k
end
end Go.Proofs.YtcjnikkmjhagmaaGreatDoor
namespace Go.Proofs.YtcjnikkmjhagmaaGreatDoor
open Go.RowKit
def rwFl (x : Rw) : List Int := [x.s, x.k, x.n, x.r]
def flatR (xs : List Rw) : List Int := xs.flatMap rwFl
theorem flatR_at {j : Nat} (hj : j < 4) (xs : List Rw) (i : Nat) : (flatR xs).getD (i * 4 + j) 0 = (rwFl (rwAt xs i)).getD j 0 := by
  refine flat_at (g := rwFl) (w := 4) (fun _ => rfl) _ hj ?_ xs i
  match j, hj with | 0, _ | 1, _ | 2, _ | 3, _ => rfl
theorem flatR_s (xs : List Rw) (i : Nat) : (flatR xs).getD (i * 4) 0 = (rwAt xs i).s := flatR_at (j := 0) (by omega) xs i
theorem flatR_k (xs : List Rw) (i : Nat) : (flatR xs).getD (i * 4 + 1) 0 = (rwAt xs i).k := flatR_at (j := 1) (by omega) xs i
theorem flatR_n (xs : List Rw) (i : Nat) : (flatR xs).getD (i * 4 + 2) 0 = (rwAt xs i).n := flatR_at (j := 2) (by omega) xs i
theorem flatR_r (xs : List Rw) (i : Nat) : (flatR xs).getD (i * 4 + 3) 0 = (rwAt xs i).r := flatR_at (j := 3) (by omega) xs i
theorem flatR_len : ∀ xs : List Rw, (flatR xs).length = xs.length * 4
  | [] => rfl
  | x :: xs => by
    have := flatR_len xs
    unfold flatR at this ⊢
    rw [List.flatMap_cons, List.length_append, this, List.length_cons]
    show 4 + xs.length * 4 = _
    omega
abbrev rwA (x : Rw) : AV := .agg [lt (.int .i64 x.s), lt (.int .i64 x.k), lt (.int .i64 x.n), lt (.int .i64 x.r)]
abbrev iRws (xs : List Rw) : IV := .sl (fun j => .lit (.int .i64 ((flatR xs).getD j 0))) xs.length 4
abbrev obA (o : Ob) : AV := .agg [lt (.int .i64 o.S), lt (.int .i64 o.K), lt (.int .i64 o.I), .iv (iRws o.R)]
def pkFl (x : Pk) : List Int := [x.o, x.r]
def flatP (xs : List Pk) : List Int := xs.flatMap pkFl
abbrev iPks (xs : List Pk) : IV := .sl (fun j => .lit (.int .i64 ((flatP xs).getD j 0))) xs.length 2
structure Ob.Ok (o : Ob) : Prop where
  S : -9223372036854775808 ≤ o.S ∧ o.S ≤ 9223372036854775807
  K : -9223372036854775808 ≤ o.K ∧ o.K ≤ 9223372036854775807
  I : -9223372036854775808 ≤ o.I ∧ o.I ≤ 9223372036854775807
end Go.Proofs.YtcjnikkmjhagmaaGreatDoor
