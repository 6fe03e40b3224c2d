import Derived.Test.YtdladbfjgkejiaaMgAH
import Derived.Test.YtdladbfjgkejiaaMgAA
import Derived.Laws.FloatArith
namespace Go.Proofs.Ytdladbfjgkejiaa
open Go.RowKit
set_option linter.unusedVariables false
set_option linter.unusedSimpArgs false

def lint (x : Int) : AV := lt (.int .i64 x)
def iInts (xs : List Int) : IV := .sl (fun j => .lit (.int .i64 (xs.getD j 0))) xs.length 1
def iBools (xs : List Bool) : IV := .sl (fun j => .lit (.bool (xs.getD j false))) xs.length 1
def iRows (xss : List (List Int)) : IV := .sl (fun j => iInts (xss.getD j [])) xss.length 1
/-- The world when a call begins that is handed none of our objects. -/
def Gh.of (W : World) : Gh := { dom := fun _ => False, mu := fun _ => (0, 0), sz := fun _ => 0, fz := fun b => W.heap[b]?, kp := fun b => W.heap[b]?, os := W.os, tape := W.tape, output := W.output }
theorem Inv.of (W : World) : Inv (Gh.of W) [] W := ⟨rfl, rfl, rfl, fun b x e => e, fun b x e => e, fun o ho => ho.elim, fun o x e => by simp at e, fun o x e => by simp at e, fun o o' x x' e => by simp at e⟩
theorem law_of {P : Program} {f : FuncId} {args : List AV} {v : Value} (h : PF P f args fun r _ => r = lt v) (W : World) (vs : List Value) (hr : RL 0 (Gh.of W) args vs) : Calls P f vs.toArray W fun e W' => e = .returned v ∧ Below W.heap.size W W' := by
  refine (h.calls (Gh.of W) W vs (Inv.of W) hr).mono fun e w' ⟨u, r, G', H', h1, h2, _, h4, h5, h6⟩ => ?_
  subst h6
  have hb : ∀ k x, W.heap[k]? = some x → w'.heap[k]? = some x := fun k x e => h4.fz k x (h2.fz k x e)
  refine ⟨by rw [h1, h5.lit_inv], h4.os.trans h2.os, h4.tape.trans h2.tape, h4.output.trans h2.output, ?_, fun k hk => ?_⟩
  · rcases Nat.eq_zero_or_pos W.heap.size with h0 | h0
    · omega
    · have := lt_of_heap (hb (W.heap.size - 1) _ (Array.getElem?_eq_getElem (by omega)))
      omega
  · have := Array.getElem?_eq_getElem hk
    rw [this]; exact hb k _ this
theorem cells_of_cell {w : World} {b i : Nat} {v : Value} (h : w.cell? ⟨b, i, none⟩ = some v) : ∃ cs t fr, w.heap[b]? = some (.cells cs t fr) ∧ cs[i]? = some v := by
  unfold World.cell? at h
  split at h
  · rename_i c t fr hb; simp at h; exact ⟨c, t, fr, hb, h⟩
  · cases h
section
variable {W : World} {a : Option Addr} {len cap : Nat}
theorem ri_ints {xs : List Int} (h : IntRow W a len xs) (h1 : len ≤ cap) (h2 : cap ≤ maxLen) : RI (fun b => W.heap[b]?) (iInts xs) (.slice a len cap) := by
  obtain ⟨e1, _, e3⟩ := h
  subst e1
  unfold iInts
  by_cases h0 : xs.length = 0
  · rw [h0]
    cases a with
    | none => exact .nil _ _ _ h2
    | some ad => exact .empty _ _ _ _ h2
  · obtain ⟨b, off, rfl, hc⟩ := e3 (by omega)
    obtain ⟨cs, t, fr, hb, _⟩ := cells_of_cell (hc 0 (by omega))
    refine .sl _ _ _ b off cap cs t fr (fun j => .int .i64 (xs.getD j 0)) hb (fun j hj => ?_) (fun j _ => .lit _) h1 h2
    have := hc j (by omega)
    rwa [cell_of_heap hb] at this
theorem ri_bools {xs : List Bool} (h : BoolRow W a len xs) (h1 : len ≤ cap) (h2 : cap ≤ maxLen) : RI (fun b => W.heap[b]?) (iBools xs) (.slice a len cap) := by
  obtain ⟨e1, _, e3⟩ := h
  subst e1
  unfold iBools
  by_cases h0 : xs.length = 0
  · rw [h0]
    cases a with
    | none => exact .nil _ _ _ h2
    | some ad => exact .empty _ _ _ _ h2
  · obtain ⟨b, off, rfl, hc⟩ := e3 (by omega)
    obtain ⟨cs, t, fr, hb, _⟩ := cells_of_cell (hc 0 (by omega))
    refine .sl _ _ _ b off cap cs t fr (fun j => .bool (xs.getD j false)) hb (fun j hj => ?_) (fun j _ => .lit _) h1 h2
    have := hc j (by omega)
    rwa [cell_of_heap hb] at this
theorem ri_rows {xss : List (List Int)} (h : Rows2 W a len xss) (h1 : len ≤ cap) (h2 : cap ≤ maxLen) : RI (fun b => W.heap[b]?) (iRows xss) (.slice a len cap) := by
  obtain ⟨e1, _, e3⟩ := h
  subst e1
  unfold iRows
  by_cases h0 : xss.length = 0
  · rw [h0]
    cases a with
    | none => exact .nil _ _ _ h2
    | some ad => exact .empty _ _ _ _ h2
  · obtain ⟨b, off, u0, rfl, hc0, _⟩ := e3 0 (by omega)
    obtain ⟨cs, t, fr, hb, _⟩ := cells_of_cell hc0
    refine .sl _ _ _ b off cap cs t fr (fun j => cs.toList.getD (off + j) undef) hb (fun j hj => ?_) (fun j hj => ?_) h1 h2
    · obtain ⟨b', off', u, e, hc, hi⟩ := e3 j (by omega)
      simp only [Option.some.injEq, Addr.mk.injEq] at e
      obtain ⟨rfl, rfl, _⟩ := e
      rw [cell_of_heap hb] at hc
      rw [hc, List.getD_eq_getElem?_getD, Array.getElem?_toList, hc]; rfl
    · obtain ⟨b', off', u, e, hc, a2, l2, c2, rfl, k1, k2, k3⟩ := e3 j (by omega)
      simp only [Option.some.injEq, Addr.mk.injEq] at e
      obtain ⟨rfl, rfl, _⟩ := e
      rw [cell_of_heap hb] at hc
      have e2 : cs.toList.getD (off + j) undef = .slice a2 l2 c2 := by rw [List.getD_eq_getElem?_getD, Array.getElem?_toList, hc]; rfl
      show RI _ _ (cs.toList.getD (off + j) undef)
      rw [e2]
      exact ri_ints k3 k1 k2
end
theorem RL.one {n : Nat} {G : Gh} {x : AV} {v : Value} (h : RA n G x v) : RL n G [x] [v] := RL.cons h (RL.nil _ _)
theorem RL.two {n : Nat} {G : Gh} {x y : AV} {v u : Value} (h : RA n G x v) (k : RA n G y u) : RL n G [x, y] [v, u] := RL.cons h (RL.one k)
theorem RL.three {n : Nat} {G : Gh} {x y z : AV} {v u t : Value} (h : RA n G x v) (k : RA n G y u) (l : RA n G z t) : RL n G [x, y, z] [v, u, t] := RL.cons h (RL.two k l)

/-! ### Contracts that were proved by walks -/
theorem ri_lit {fz : Nat → Option Obj} {v u : Value} (h : RI fz (.lit v) u) : u = v := by cases h; rfl
theorem ints_row {fz : Nat → Option Obj} {w : World} (hf : ∀ b x, fz b = some x → w.heap[b]? = some x) {xs : List Int} {v : Value} (hx : xs.length ≤ maxLen) (h : RI fz (iInts xs) v) : ∃ a cap, v = .slice a xs.length cap ∧ xs.length ≤ cap ∧ cap ≤ maxLen ∧ IntRow w a xs.length xs := by
  unfold iInts at h
  generalize hl : xs.length = l at h hx
  cases h with
  | nil get sz cap h => exact ⟨none, cap, rfl, Nat.zero_le _, h, hl, hx, fun h => by omega⟩
  | empty get sz a cap h => exact ⟨some a, cap, rfl, Nat.zero_le _, h, hl, hx, fun h => by omega⟩
  | sl get len sz b off cap cs t fr vs h1 h2 h3 h4 h5 =>
    refine ⟨_, cap, rfl, h4, h5, hl, hx, fun hp => ⟨b, off, rfl, fun i hi => ?_⟩⟩
    rw [cell_of_heap (hf _ _ h1), h2 i (by omega)]
    rw [ri_lit (h3 i (by omega))]
theorem bools_row {fz : Nat → Option Obj} {w : World} (hf : ∀ b x, fz b = some x → w.heap[b]? = some x) {xs : List Bool} {v : Value} (hx : xs.length ≤ maxLen) (h : RI fz (iBools xs) v) : ∃ a cap, v = .slice a xs.length cap ∧ xs.length ≤ cap ∧ cap ≤ maxLen ∧ BoolRow w a xs.length xs := by
  unfold iBools at h
  generalize hl : xs.length = l at h hx
  cases h with
  | nil get sz cap h => exact ⟨none, cap, rfl, Nat.zero_le _, h, hl, hx, fun h => by omega⟩
  | empty get sz a cap h => exact ⟨some a, cap, rfl, Nat.zero_le _, h, hl, hx, fun h => by omega⟩
  | sl get len sz b off cap cs t fr vs h1 h2 h3 h4 h5 =>
    refine ⟨_, cap, rfl, h4, h5, hl, hx, fun hp => ⟨b, off, rfl, fun i hi => ?_⟩⟩
    rw [cell_of_heap (hf _ _ h1), h2 i (by omega)]
    rw [ri_lit (h3 i (by omega))]
theorem rows_row {fz : Nat → Option Obj} {w : World} (hf : ∀ b x, fz b = some x → w.heap[b]? = some x) {xss : List (List Int)} {v : Value} (hx : xss.length ≤ maxLen) (hxs : ∀ xs ∈ xss, xs.length ≤ maxLen) (h : RI fz (iRows xss) v) : ∃ a cap, v = .slice a xss.length cap ∧ xss.length ≤ cap ∧ cap ≤ maxLen ∧ Rows2 w a xss.length xss := by
  unfold iRows at h
  generalize hl : xss.length = l at h hx
  cases h with
  | nil get sz cap h => exact ⟨none, cap, rfl, Nat.zero_le _, h, hl, hx, fun i h => by omega⟩
  | empty get sz a cap h => exact ⟨some a, cap, rfl, Nat.zero_le _, h, hl, hx, fun i h => by omega⟩
  | sl get len sz b off cap cs t fr vs h1 h2 h3 h4 h5 =>
    refine ⟨_, cap, rfl, h4, h5, hl, hx, fun i hi => ⟨b, off, vs i, rfl, ?_, ?_⟩⟩
    · rw [cell_of_heap (hf _ _ h1), h2 i (by omega)]
    · have h6 : RI fz (iInts (xss.getD i [])) (vs i) := h3 i (by omega)
      have hm : (xss.getD i []).length ≤ maxLen := by
        have hi' : i < xss.length := by omega
        rw [show xss.getD i [] = xss[i] by simp [List.getD, hi']]
        exact hxs _ (List.getElem_mem _)
      obtain ⟨a, cap, h8, k1, k2, h9⟩ := ints_row hf hm h6
      exact ⟨a, _, cap, h8, k1, k2, h9⟩
/-- What a walk says of a call, in abstract words: it hands back one known value. -/
theorem PF_of_walk {P : Program} {f : FuncId} {args : List AV} {v : Value} (hc : Callable P f) (h : ∀ G w vs, Inv G [] w → RL 0 G args vs → Calls P f vs.toArray w fun e w' => e = .returned v ∧ Below w.heap.size w w') : PF P f args fun r H' => r = lt v ∧ H' = [] :=
  ⟨hc, fun G w vs hi hr => (h G w vs hi hr).mono fun e w' ⟨h1, h2⟩ => ⟨v, lt v, G, [], h1, Gh.le.refl _ _, Nat.le_refl _, ⟨h2.os.trans hi.os, h2.tape.trans hi.tape, h2.output.trans hi.output, fun b x e => (h2.block b (lt_of_heap (hi.fz b x e))).trans (hi.fz b x e), fun b x e => (h2.block b (lt_of_heap (hi.kp b x e))).trans (hi.kp b x e), fun o ho => hi.dom o ho, fun o x e => by simp at e, fun o x e => by simp at e, fun o o' x x' e => by simp at e⟩, .iv _ _ (.lit _), rfl, rfl⟩⟩
/-- A walk that ends in numbers of the call's own: they are taken as memory that stands still. -/
theorem PF_of_own {P : Program} {f : FuncId} {args : List AV} {xs : List Int} (hc : Callable P f) (h : ∀ G w vs, Inv G [] w → RL 0 G args vs → Calls P f vs.toArray w fun e w' => ∃ v, e = .returned v ∧ OwnInts w' w.heap.size v xs ∧ Below w.heap.size w w') : PF P f args fun r H' => r = .iv (iInts xs) ∧ H' = [] :=
  ⟨hc, fun G w vs hi hr => (h G w vs hi hr).mono fun e w' ⟨v, h1, h2, h3⟩ => by
    let fz : Nat → Option Obj := fun b => if b < w.heap.size then G.fz b else w'.heap[b]?
    have hfz : ∀ b x, G.fz b = some x → fz b = some x := fun b x e => by
      show (if b < w.heap.size then G.fz b else w'.heap[b]?) = some x
      rw [if_pos (lt_of_heap (hi.fz b x e))]; exact e
    refine ⟨v, .iv (iInts xs), { G with fz := fz }, [], h1, ⟨fun _ _ => rfl, fun _ _ => rfl, fun _ h => h, fun _ _ h => h, hfz, fun _ _ e => e, fun b x y e e' => ?_, rfl, rfl, rfl⟩, Nat.le_refl _, ⟨h3.os.trans hi.os, h3.tape.trans hi.tape, h3.output.trans hi.output, fun b x e => ?_, fun b x e => (h3.block b (lt_of_heap (hi.kp b x e))).trans (hi.kp b x e), fun o ho => hi.dom o ho, fun o x e => by simp at e, fun o x e => by simp at e, fun o o' x x' e => by simp at e⟩, .iv _ _ ?_, rfl, rfl⟩
    · have e2 : fz b = some y := e'
      simp only [fz, if_pos (lt_of_heap (hi.kp b x e))] at e2
      exact ⟨y, e2⟩
    · have e2 : fz b = some x := e
      simp only [fz] at e2
      split at e2
      · rename_i hlt; exact (h3.block b hlt).trans (hi.fz b x e2)
      · exact e2
    · obtain ⟨k1, k2⟩ := h2
      unfold iInts
      rcases k2 with ⟨hv, hn⟩ | ⟨g, cap, cur, hv, hg, hh, hn, hm, hs, hx⟩
      · rw [hn, hv]; exact .nil _ _ _ (Nat.zero_le _)
      · rw [hv]
        refine .sl _ _ _ g 0 cap cur _ (0, 0) (fun j => .int .i64 (xs.getD j 0)) (by show fz g = _; simp only [fz, if_neg (Nat.not_lt.2 hg)]; exact hh) (fun j hj => ?_) (fun j _ => .lit _) hn hm
        have h3 : (cur.toList.take (xs.length * 1))[j]? = (xs.map (Value.int .i64))[j]? := by rw [hx]
        rw [List.getElem?_take_of_lt hj] at h3
        rw [Nat.zero_add, ← Array.getElem?_toList, h3]
        have : j < xs.length := by omega
        simp [this, List.getD]⟩
/-- The same as PF_of_walk, of a value that is told in parts. -/
theorem PF_of_walk2 {P : Program} {f : FuncId} {args : List AV} {v : Value} {r : AV} (hc : Callable P f) (hv : ∀ G, RA 0 G r v) (h : ∀ G w vs, Inv G [] w → RL 0 G args vs → Calls P f vs.toArray w fun e w' => e = .returned v ∧ Below w.heap.size w w') : PF P f args fun r' H' => r' = r ∧ H' = [] :=
  ⟨hc, fun G w vs hi hr => (h G w vs hi hr).mono fun e w' ⟨h1, h2⟩ => ⟨v, r, G, [], h1, Gh.le.refl _ _, Nat.le_refl _, ⟨h2.os.trans hi.os, h2.tape.trans hi.tape, h2.output.trans hi.output, fun b x e => (h2.block b (lt_of_heap (hi.fz b x e))).trans (hi.fz b x e), fun b x e => (h2.block b (lt_of_heap (hi.kp b x e))).trans (hi.kp b x e), fun o ho => hi.dom o ho, fun o x e => by simp at e, fun o x e => by simp at e, fun o o' x x' e => by simp at e⟩, hv G, rfl, rfl⟩⟩
/-- A formula, as an argument. -/
def aForm (vars : Int) (xss : List (List Int)) : AV := .agg [lint vars, .iv (iRows xss)]
theorem form_open {G : Gh} {n : Nat} {w : World} {H : AHeap} (hi : Inv G H w) {vars : Int} {xss : List (List Int)} {v : Value} (hx : xss.length ≤ maxLen) (hxs : ∀ xs ∈ xss, xs.length ≤ maxLen) (h : RA n G (aForm vars xss) v) : ∃ a cap, v = .agg #[.int .i64 vars, .slice a xss.length cap] ∧ Rows2 w a xss.length xss := by
  cases h with
  | agg _ vs h1 h2 h3 =>
    have hr : RL n G [lint vars, .iv (iRows xss)] vs := ⟨h1, h2⟩
    obtain ⟨v1, us, rfl, r1, hr⟩ := hr.uncons
    obtain ⟨v2, us, rfl, r2, hr⟩ := hr.uncons
    rw [hr.unnil]
    have e1 := r1.lit_inv; subst e1
    cases r2 with
    | iv _ _ r2 =>
      obtain ⟨a, cap, rfl, _, _, hr⟩ := rows_row hi.fz hx hxs r2
      exact ⟨a, cap, rfl, hr⟩
end Go.Proofs.Ytdladbfjgkejiaa
namespace Go.Proofs.Ytdladbfjgkejiaa
open Ieee
set_option linter.unusedVariables false

theorem log2_mul_pow {N : Nat} (s : Nat) (h0 : 0 < N) : (N * 2 ^ s).log2 = N.log2 + s := by
  have hp : 0 < 2 ^ s := Nat.two_pow_pos s
  rw [Nat.log2_eq_iff (by have := Nat.mul_pos h0 hp; omega)]
  constructor
  · rw [Nat.pow_add]; exact Nat.mul_le_mul_right _ (Nat.log2_self_le (by omega))
  · rw [show N.log2 + s + 1 = (N.log2 + 1) + s by omega, Nat.pow_add]; exact Nat.mul_lt_mul_of_pos_right Nat.lt_log2_self hp
theorem double_least : double.leastPlace = -1074 := by decide +kernel
theorem double_binade : double.binade = 4503599627370496 := by decide +kernel
theorem double_inf : double.infRung = 2047 * 4503599627370496 := by decide +kernel
theorem double_sign : double.signWeight = 9223372036854775808 := by decide +kernel
theorem double_frac : (double.fractionBits : Int) = 52 := by decide +kernel

theorem cut_exact (way : Toward) (N d t : Nat) (hw : way = .even ∨ way = .zero) (hd : d ≤ (N * 2 ^ d * 2 ^ t).log2 + 2 ∨ N = 0) : way.cut false (N * 2 ^ d * 2 ^ t) d = N * 2 ^ t := by
  unfold Toward.cut
  rcases hd with hd | hd
  · have hg : 1 <<< min d ((N * 2 ^ d * 2 ^ t).log2 + 2) = 2 ^ d := by rw [Nat.min_eq_left hd, Nat.shiftLeft_eq, Nat.one_mul]
    have hp : 0 < 2 ^ d := Nat.two_pow_pos d
    have e : N * 2 ^ d * 2 ^ t = N * 2 ^ t * 2 ^ d := by rw [Nat.mul_assoc, Nat.mul_comm (2 ^ d), ← Nat.mul_assoc]
    have e1 : N * 2 ^ d * 2 ^ t / 2 ^ d = N * 2 ^ t := by rw [e]; exact Nat.mul_div_cancel _ hp
    have e2 : N * 2 ^ d * 2 ^ t % 2 ^ d = 0 := by rw [e]; exact Nat.mul_mod_left _ _
    rw [hg]
    rcases hw with rfl | rfl
    · simp only [e1, e2]
      have : (2 ^ d == 2 * 0) = false := by simp
      simp [this]
    · simp only [e1]; simp
  · subst hd
    rcases hw with rfl | rfl <;> simp

/-- The word of a whole number. -/
def fb (n : Nat) : Nat := double.write (.number false n 0)
theorem write_whole (N s : Nat) (h0 : 0 < N) (h : N < 9007199254740992) : double.write (.number false (N * 2 ^ s) (-(s : Int))) = (N.log2 + 1022) * 4503599627370496 + N * 2 ^ (52 - N.log2) := by
  have hL : N.log2 ≤ 52 := by
    have := (Nat.log2_lt (by omega)).2 (show N < 2 ^ 53 by exact h)
    omega
  have hlt : N * 2 ^ (52 - N.log2) < 9007199254740992 := by
    have h1 : N < 2 ^ (N.log2 + 1) := Nat.lt_log2_self
    have h2 := Nat.mul_lt_mul_of_pos_right h1 (Nat.two_pow_pos (52 - N.log2))
    rw [← Nat.pow_add, show N.log2 + 1 + (52 - N.log2) = 53 by omega] at h2
    exact h2
  have hpos := Nat.mul_pos h0 (Nat.two_pow_pos s)
  show double.nearest false (N * 2 ^ s) (-(s : Int)) = _
  unfold Format.nearest
  rw [if_neg (by omega), log2_mul_pow s h0]
  have hlast : max (-(s : Int) + ((N.log2 + s : Nat) : Int) - (double.fractionBits : Int)) double.leastPlace = (N.log2 : Int) - 52 := by
    rw [double_least, double_frac]; omega
  simp only [hlast]
  have hkept : Toward.even.cut false ((N * 2 ^ s) <<< (-(s : Int) - ((N.log2 : Int) - 52)).toNat) ((N.log2 : Int) - 52 - -(s : Int)).toNat = N * 2 ^ (52 - N.log2) := by
    rw [Nat.shiftLeft_eq]
    by_cases hc : s + N.log2 ≤ 52
    · rw [show (-(s : Int) - ((N.log2 : Int) - 52)).toNat = 52 - N.log2 - s by omega, show ((N.log2 : Int) - 52 - -(s : Int)).toNat = 0 by omega]
      have e : N * 2 ^ s * 2 ^ (52 - N.log2 - s) = N * 2 ^ (52 - N.log2) := by rw [Nat.mul_assoc, ← Nat.pow_add, show s + (52 - N.log2 - s) = 52 - N.log2 by omega]
      rw [e]
      have := cut_exact .even (N * 2 ^ (52 - N.log2)) 0 0 (Or.inl rfl) (Or.inl (Nat.zero_le _))
      simpa using this
    · rw [show (-(s : Int) - ((N.log2 : Int) - 52)).toNat = 0 by omega, show ((N.log2 : Int) - 52 - -(s : Int)).toNat = s + N.log2 - 52 by omega]
      have e : N * 2 ^ s * 2 ^ 0 = N * 2 ^ (s + N.log2 - 52) * 2 ^ (52 - N.log2) := by rw [Nat.pow_zero, Nat.mul_one, Nat.mul_assoc, ← Nat.pow_add, show s + N.log2 - 52 + (52 - N.log2) = s by omega]
      rw [e]
      refine cut_exact .even N _ _ (Or.inl rfl) (Or.inl ?_)
      rw [Nat.mul_assoc, ← Nat.pow_add, log2_mul_pow _ h0]
      omega
  rw [hkept, double_least, double_binade, double_inf]
  unfold Format.word
  rw [if_neg (by decide), show ((N.log2 : Int) - 52 - -1074).toNat = N.log2 + 1022 by omega, Nat.min_eq_left (by omega)]
theorem fb_eq {N : Nat} (h0 : 0 < N) (h : N < 9007199254740992) : fb N = (N.log2 + 1022) * 4503599627370496 + N * 2 ^ (52 - N.log2) := by
  have := write_whole N 0 h0 h
  simpa [fb] using this
theorem fb_zero : fb 0 = 0 := by decide +kernel
theorem write_any (N s : Nat) (h : N < 9007199254740992) : double.write (.number false (N * 2 ^ s) (-(s : Int))) = fb N := by
  rcases Nat.eq_zero_or_pos N with h0 | h0
  · subst h0
    rw [Nat.zero_mul, fb_zero]
    show double.nearest false 0 (-(s : Int)) = _
    unfold Format.nearest
    rw [if_pos rfl]; rfl
  · rw [write_whole N s h0 h, fb_eq h0 h]
theorem fb_read (N : Nat) (h : N < 9007199254740992) : ∃ p : Nat, double.read (fb N) = .number false (N * 2 ^ p) (-(p : Int)) := by
  rcases Nat.eq_zero_or_pos N with h0 | h0
  · subst h0
    have hz : ∃ p : Nat, double.read 0 = .number false 0 (-(p : Int)) := ⟨1074, by decide +kernel⟩
    obtain ⟨p, hp⟩ := hz
    exact ⟨p, by rw [fb_zero, Nat.zero_mul]; exact hp⟩
  · have hL : N.log2 ≤ 52 := by
      have := (Nat.log2_lt (by omega)).2 (show N < 2 ^ 53 by exact h)
      omega
    refine ⟨52 - N.log2, ?_⟩
    have h1 : N * 2 ^ (52 - N.log2) < 9007199254740992 := by
      have h1 : N < 2 ^ (N.log2 + 1) := Nat.lt_log2_self
      have h2 := Nat.mul_lt_mul_of_pos_right h1 (Nat.two_pow_pos (52 - N.log2))
      rw [← Nat.pow_add, show N.log2 + 1 + (52 - N.log2) = 53 by omega] at h2
      exact h2
    have h2 : 4503599627370496 ≤ N * 2 ^ (52 - N.log2) := by
      have h1 : 2 ^ N.log2 ≤ N := Nat.log2_self_le (by omega)
      have h2 := Nat.mul_le_mul_right (2 ^ (52 - N.log2)) h1
      rw [← Nat.pow_add, show N.log2 + (52 - N.log2) = 52 by omega] at h2
      exact h2
    rw [fb_eq h0 h]
    generalize N * 2 ^ (52 - N.log2) = M at *
    generalize N.log2 = L at *
    unfold Format.read
    simp only [double_sign, double_binade, double_inf, double_least]
    have e0 : ((L + 1022) * 4503599627370496 + M) % 9223372036854775808 = (L + 1022) * 4503599627370496 + M := Nat.mod_eq_of_lt (by omega)
    have e1 : (((L + 1022) * 4503599627370496 + M) / 9223372036854775808 % 2 == 1) = false := by rw [Nat.div_eq_of_lt (by omega)]; rfl
    have e2 : ((L + 1022) * 4503599627370496 + M) % 4503599627370496 = M - 4503599627370496 := by omega
    have e3 : ((L + 1022) * 4503599627370496 + M) / 4503599627370496 = L + 1023 := by omega
    have e4 : 4503599627370496 + (M - 4503599627370496) = M := by omega
    have e5 : (-1074 : Int) + ((L + 1023 - 1 : Nat) : Int) = -((52 - L : Nat) : Int) := by omega
    rw [e0, e1, if_neg (by omega), if_pos (by omega), e2, e3, e4, e5]
theorem signed_whole (N p : Nat) (b : Int) (hb : b ≤ -(p : Int)) : signed false (N * 2 ^ p) (-(p : Int) - b).toNat = ((N * 2 ^ (-b).toNat : Nat) : Int) := by
  unfold signed
  rw [if_neg (by decide), Nat.shiftLeft_eq, Nat.mul_assoc, ← Nat.pow_add, show p + (-(p : Int) - b).toNat = (-b).toNat by omega]
theorem fb_add (n k : Nat) (h : n + k < 9007199254740992) : floatBits .add .f64 (fb n) (fb k) = some (fb (n + k)) := by
  obtain ⟨p, hp⟩ := fb_read n (by omega)
  obtain ⟨q, hq⟩ := fb_read k (by omega)
  show double.add (fb n) (fb k) = _
  unfold Format.add
  rw [hp, hq]
  unfold Datum.sum
  dsimp only
  rw [signed_whole n p _ (by omega), signed_whole k q _ (by omega)]
  generalize hbb : (-(min (-(p : Int)) (-(q : Int)))).toNat = s
  have hb2 : min (-(p : Int)) (-(q : Int)) = -(s : Int) := by omega
  rw [hb2]
  have hsum : ((n * 2 ^ s : Nat) : Int) + ((k * 2 ^ s : Nat) : Int) = (((n + k) * 2 ^ s : Nat) : Int) := by rw [Nat.add_mul]; omega
  rw [hsum]
  have hneg : (if (((n + k) * 2 ^ s : Nat) : Int) = 0 then false && false else decide ((((n + k) * 2 ^ s : Nat) : Int) < 0)) = false := by
    split
    · rfl
    · exact decide_eq_false (by omega)
  rw [hneg, Int.natAbs_natCast]
  show some (double.write (.number false ((n + k) * 2 ^ s) (-(s : Int)))) = _
  rw [write_any _ _ h]
theorem fb_int (n : Nat) (h : n < 9007199254740992) : floatToIntVal .f64 (fb n) .i64 = some (n : Int) := by
  obtain ⟨p, hp⟩ := fb_read n h
  have ht : (FloatKind.f64.decode (fb n)).toInt .zero = some (n : Int) := by
    show (double.read (fb n)).toInt .zero = _
    rw [hp]
    unfold Datum.toInt Datum.integral
    dsimp only
    have e : (n * 2 ^ p) <<< (-(p : Int)).toNat = n * 2 ^ p * 2 ^ 0 := by rw [show (-(p : Int)).toNat = 0 by omega, Nat.shiftLeft_eq]
    rw [e, show (- -(p : Int)).toNat = p by omega]
    rw [cut_exact .zero n p 0 (Or.inr rfl) (by
      rcases Nat.eq_zero_or_pos n with h0 | h0
      · exact Or.inr h0
      · left; rw [Nat.pow_zero, Nat.mul_one, log2_mul_pow _ h0]; omega)]
    unfold signed
    simp
  unfold floatToIntVal
  rw [ht]
  dsimp only
  rw [if_pos]
  have e1 : IntKind.i64.min = -9223372036854775808 := by decide +kernel
  have e2 : IntKind.i64.max = 9223372036854775807 := by decide +kernel
  rw [e1, e2]; omega
theorem fb_order (n k : Nat) (h : n < 9007199254740992) (h2 : k < 9007199254740992) : double.order (fb n) (fb k) = some (compare (n : Int) (k : Int)) := by
  obtain ⟨p, hp⟩ := fb_read n h
  obtain ⟨q, hq⟩ := fb_read k h2
  unfold Format.order
  rw [hp, hq]
  unfold Datum.order
  dsimp only
  rw [signed_whole n p _ (by omega), signed_whole k q _ (by omega)]
  generalize (-(min (-(p : Int)) (-(q : Int)))).toNat = s
  have hpos : 0 < 2 ^ s := Nat.two_pow_pos s
  congr 1
  show compareOfLessAndEq _ _ = compareOfLessAndEq _ _
  unfold compareOfLessAndEq
  have e1 : (((n * 2 ^ s : Nat) : Int) < ((k * 2 ^ s : Nat) : Int)) ↔ ((n : Int) < (k : Int)) := by
    rw [Int.ofNat_lt, Int.ofNat_lt]; exact Nat.mul_lt_mul_right hpos
  have e2 : (((n * 2 ^ s : Nat) : Int) = ((k * 2 ^ s : Nat) : Int)) ↔ ((n : Int) = (k : Int)) := by
    rw [Int.natCast_inj, Int.natCast_inj]; exact ⟨fun h => Nat.eq_of_mul_eq_mul_right hpos h, fun h => by rw [h]⟩
  simp only [e1, e2]
end Go.Proofs.Ytdladbfjgkejiaa
namespace Go.Proofs.Ytdladbfjgkejiaa

/-- A literal's variable; 0 of another number. -/
def lvar (l : Int) : Int := if 1 ≤ l ∧ l ≤ 100000 then l else if -100000 ≤ l ∧ l ≤ -1 then -l else 0
/-- Does it say that its variable is true? -/
def lside (l : Int) : Bool := decide (lvar l ≠ 0 ∧ 0 < l)
def lcheck (l vars : Int) : Int := if vars < 0 ∨ 100000 < vars then 2 else if lvar l = 0 ∨ vars < lvar l then 10 else 0
def lneg (l : Int) : Int := if lvar l = 0 then 0 else -l
def lindex (l : Int) : Int := if lvar l = 0 then -1 else if l < 0 then 2 * lvar l - 1 else 2 * lvar l - 2
def lfrom (i : Int) : Int := if i < 0 ∨ 200000 ≤ i then 0 else if i % 2 = 1 then -(i / 2 + 1) else i / 2 + 1
/-- The literal that says that v is truth; 0: none. -/
def lmake (v : Int) (t : Bool) : Int := if v < 1 ∨ 100000 < v then 0 else if t then v else -v
/-- The error of making it. -/
def lmakeE (v : Int) (t : Bool) : Int := if lmake v t = 0 then 10 else 0
def lhas (xs : List Int) (v : Int) : Bool := xs.contains v
def lof (xs : List Int) (v : Int) : Int :=
  if v < 1 ∨ 100000 < v then 0 else if lhas xs v = true ∧ lhas xs (-v) = true then 2 else if lhas xs v = true then 1 else if lhas xs (-v) = true then -1 else 0
def lmost (xs : List Int) : Int := xs.foldl (fun m l => max m (lvar l)) 0

theorem lvar_bd (l : Int) : 0 ≤ lvar l ∧ lvar l ≤ 100000 := by unfold lvar; split <;> (try split) <;> omega
theorem lvar_range {l : Int} (h : lvar l ≠ 0) : -100000 ≤ l ∧ l ≤ 100000 ∧ l ≠ 0 := by unfold lvar at h; split at h <;> (try split at h) <;> omega
theorem lcheck_ok (l vars : Int) : lcheck l vars = 0 ↔ (0 ≤ vars ∧ vars ≤ 100000 ∧ lvar l ≠ 0 ∧ lvar l ≤ vars) := by unfold lcheck; split <;> (try split) <;> omega
theorem lcheck_max (l : Int) : lcheck l 100000 = 0 ↔ lvar l ≠ 0 := by rw [lcheck_ok]; have := lvar_bd l; omega
theorem lindex_bd (l : Int) : -1 ≤ lindex l ∧ lindex l ≤ 199999 := by have := lvar_bd l; unfold lindex; split <;> (try split) <;> omega
theorem lfrom_bd (i : Int) : -100000 ≤ lfrom i ∧ lfrom i ≤ 100000 := by unfold lfrom; split <;> (try split) <;> omega
theorem lneg_bd (l : Int) : -100000 ≤ lneg l ∧ lneg l ≤ 100000 := by
  unfold lneg; split
  · omega
  · rename_i h; have := lvar_range h; omega
theorem lfrom_index {l : Int} (h : lvar l ≠ 0) : lfrom (lindex l) = l := by
  have := lvar_range h
  unfold lindex; rw [if_neg h]
  unfold lvar lfrom
  split <;> split <;> (try split) <;> (try split) <;> omega
theorem lmake_back {l : Int} (h : lvar l ≠ 0) : lmake (lvar l) (decide (0 < l)) = l := by
  have h1 := lvar_range h
  have h2 := lvar_bd l
  have h3 : lvar l = if 0 < l then l else -l := by unfold lvar; split <;> split <;> (try split) <;> omega
  unfold lmake; rw [if_neg (by omega), h3]
  by_cases hp : 0 < l <;> simp [hp]
theorem lindex_from {i : Int} (h : lfrom i ≠ 0) : lindex (lfrom i) = i := by
  unfold lfrom at h ⊢
  split at h
  · omega
  · rename_i hb
    rw [if_neg hb]
    split
    · have hv : lvar (-(i / 2 + 1)) = i / 2 + 1 := by unfold lvar; rw [if_neg (by omega), if_pos (by omega)]; omega
      unfold lindex; rw [if_neg (by omega), if_pos (by omega), hv]; omega
    · have hv : lvar (i / 2 + 1) = i / 2 + 1 := by unfold lvar; rw [if_pos (by omega)]
      unfold lindex; rw [if_neg (by omega), if_neg (by omega), hv]; omega
theorem lmost_snoc (xs : List Int) (l : Int) : lmost (xs ++ [l]) = max (lmost xs) (lvar l) := by simp [lmost, List.foldl_append]
theorem lmost_bd (xs : List Int) : 0 ≤ lmost xs ∧ lmost xs ≤ 100000 := by
  suffices h : ∀ m : Int, 0 ≤ m → m ≤ 100000 → 0 ≤ xs.foldl (fun m l => max m (lvar l)) m ∧ xs.foldl (fun m l => max m (lvar l)) m ≤ 100000 from h 0 (by omega) (by omega)
  induction xs with
  | nil => intro m h1 h2; exact ⟨h1, h2⟩
  | cons x xs ih => intro m h1 h2; have := lvar_bd x; exact ih (max m (lvar x)) (by omega) (by omega)
theorem lhas_snoc (xs : List Int) (l v : Int) : lhas (xs ++ [l]) v = (lhas xs v || v == l) := by
  unfold lhas; rw [Bool.eq_iff_iff]; simp
theorem take_snoc (xs : List Int) (k : Nat) (h : k < xs.length) : xs.take (k + 1) = xs.take k ++ [xs.getD k 0] := by
  rw [List.take_succ_eq_append_getElem h]; simp [List.getD, h]
end Go.Proofs.Ytdladbfjgkejiaa
