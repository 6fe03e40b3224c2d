import Derived.Test.YtghdacijcnmhlaaDoorMgAK
import Derived.Test.YtghdacijcnmhlaaDoorMgAI
namespace Go.Proofs.YtghdacijcnmhlaaDoor
set_option linter.unusedSimpArgs false
open Go.Lib
structure TokIn (m : List UInt8) (t : Nat × List UInt8) : Prop where
  pos : 0 < t.2.length
  fit : t.1 + t.2.length ≤ m.length
  txt : (m.drop t.1).take t.2.length = t.2
  word : t.2.all noSp = true
  next : t.1 + t.2.length < m.length → isSp (m.getD (t.1 + t.2.length) 0) = true
def TkOK (m : List UInt8) : Nat → List (Nat × List UInt8) → Prop
  | _, [] => True
  | p, t :: ts => p ≤ t.1 ∧ TokIn m t ∧ TkOK m (t.1 + t.2.length) ts
theorem TkOK.le {m : List UInt8} {p q : Nat} {ts : List (Nat × List UInt8)} (h : TkOK m q ts) (hp : p ≤ q) : TkOK m p ts := by
  cases ts with
  | nil => trivial
  | cons t ts => exact ⟨Nat.le_trans hp h.1, h.2⟩
theorem tw_take (r : List UInt8) : r.take (r.takeWhile noSp).length = r.takeWhile noSp ∧ r.drop (r.takeWhile noSp).length = r.dropWhile noSp := by
  have h := List.takeWhile_append_dropWhile (p := noSp) (l := r)
  generalize r.takeWhile noSp = a at *
  generalize r.dropWhile noSp = b at *
  subst h
  exact ⟨List.take_left, List.drop_left⟩
theorem dw_head (r : List UInt8) : ∀ c, (r.dropWhile noSp)[0]? = some c → noSp c = false := by
  induction r with
  | nil => intro c h; simp at h
  | cons b r ih =>
    intro c h
    rw [List.dropWhile_cons] at h
    by_cases hb : noSp b = true
    · rw [if_pos hb] at h; exact ih c h
    · rw [if_neg hb] at h
      simp at h; subst h; simpa using hb
theorem tk_ok (m : List UInt8) (f : Nat) : ∀ p, m.length - p ≤ f → TkOK m p (tk p (m.drop p)) := by
  induction f with
  | zero => intro p hp; rw [List.drop_of_length_le (by omega), tk_nil]; trivial
  | succ f ih =>
    intro p hp
    rcases Nat.lt_or_ge p m.length with h | h
    · cases hs : isSp (m.getD p 0) with
      | true => rw [tk_at_sp h hs]; exact (ih (p + 1) (by omega)).le (by omega)
      | false =>
        have hd := drop_at h
        rw [hd, tk_word hs]
        obtain ⟨w1, w2⟩ := tw_take (m.drop (p + 1))
        have hw : ((m.drop (p + 1)).takeWhile noSp).length ≤ (m.drop (p + 1)).length := (List.takeWhile_sublist noSp (l := m.drop (p + 1))).length_le
        have hall : ((m.drop (p + 1)).takeWhile noSp).all noSp = true := by
          exact List.all_takeWhile
        have hhead := dw_head (m.drop (p + 1))
        rw [← w2, List.drop_drop] at hhead ⊢
        rw [List.length_drop] at hw
        generalize hn : ((m.drop (p + 1)).takeWhile noSp).length = n at *
        refine ⟨Nat.le_refl _, ⟨by simp, by simp only [List.length_cons, hn]; omega, ?_, ?_, ?_⟩, ?_⟩
        · simp only [List.length_cons, hn]
          rw [hd, List.take_succ_cons, w1]
        · rw [List.all_cons, hall, Bool.and_true]
          unfold noSp; rw [hs]; rfl
        · simp only [List.length_cons, hn]
          intro hlt
          have e : (m.drop (p + 1 + n))[0]? = some (m.getD (p + (n + 1)) 0) := by
            rw [show p + (n + 1) = p + 1 + n by omega] at hlt ⊢
            rw [List.getElem?_drop, Nat.add_zero, List.getElem?_eq_getElem hlt]
            simp [List.getD, hlt]
          have := hhead _ e
          unfold noSp at this; simpa using this
        · simp only [List.length_cons, hn]
          rw [show p + (n + 1) = p + 1 + n by omega]
          exact ih (p + 1 + n) (by omega)
    · rw [List.drop_of_length_le h, tk_nil]; trivial
theorem line_ok (m : List UInt8) : TkOK m 0 (lineTk m) := by
  have h : lineTk m = if remark m = true then [] else tk 0 m := rfl
  rw [h]
  split
  · trivial
  · exact tk_ok m m.length 0 (by omega)
def nlc (l : List UInt8) (a : Nat) : Nat := (l.take a).count 10
theorem nlc_succ {l : List UInt8} {a : Nat} (h : a < l.length) : nlc l (a + 1) = nlc l a + if l.getD a 0 = 10 then 1 else 0 := by
  unfold nlc
  rw [List.take_add_one, List.getElem?_eq_getElem h, List.count_append]
  have e : l.getD a 0 = l[a] := by simp [List.getD, h]
  rw [e]
  congr 1
  by_cases hx : l[a] = 10
  · rw [if_pos hx, hx]; rfl
  · rw [if_neg hx]
    show ([l[a]] : List UInt8).count 10 = 0
    rw [List.count_cons, List.count_nil, if_neg (by simpa using hx)]
theorem nlc_flat {l : List UInt8} {a : Nat} : ∀ n : Nat, a + n ≤ l.length → (∀ j, j < n → l.getD (a + j) 0 ≠ 10) → nlc l (a + n) = nlc l a
  | 0, _, _ => rfl
  | n + 1, h, hj => by
    rw [← Nat.add_assoc, nlc_succ (by omega), nlc_flat n (by omega) (fun j h1 => hj j (by omega)), if_neg (hj n (by omega))]; rfl
structure LineIn (l : List UInt8) (i st n : Nat) : Prop where
  fit : st + n ≤ l.length
  cnt : nlc l st = i
  flat : ∀ j, j < n → l.getD (st + j) 0 ≠ 10
  stop : st + n < l.length → l.getD (st + n) 0 = 10
def RowsOK (l : List UInt8) : Nat → Nat → List (Nat × Nat × List (Nat × List UInt8)) → Prop
  | _, _, [] => True
  | i, e, r :: rs => r.1 = i + 1 ∧ e ≤ r.2.1 ∧ ∃ n, LineIn l i r.2.1 n ∧ TkOK ((l.drop r.2.1).take n) 0 r.2.2 ∧ RowsOK l (i + 1) (r.2.1 + n) rs
theorem RowsOK.le {l : List UInt8} {i e e' : Nat} {rs : List (Nat × Nat × List (Nat × List UInt8))} (h : RowsOK l i e rs) (he : e' ≤ e) : RowsOK l i e' rs := by
  cases rs with
  | nil => trivial
  | cons r rs => exact ⟨h.1, Nat.le_trans he h.2.1, h.2.2⟩
theorem lns_ok (l : List UInt8) (f : Nat) : ∀ i k, l.length - k ≤ f → k ≤ l.length + 1 → (k ≤ l.length → nlc l k = i) → RowsOK l i k (lns (i + 1) k (l.drop k)) := by
  induction f with
  | zero => intro i k h1 h2 h3; rw [List.drop_of_length_le (by omega), lns_nil]; trivial
  | succ f ih =>
    intro i k h1 h2 h3
    rcases Nat.lt_or_ge k l.length with h | h
    · rw [lns_at h]
      have hle := lnLen_le (l.drop k)
      have hin : ∀ j, j < lnLen (l.drop k) → l.getD (k + j) 0 ≠ 10 := fun j hj => by rw [← dropD]; exact lnLen_in hj
      have hat : k + lnLen (l.drop k) < l.length → l.getD (k + lnLen (l.drop k)) 0 = 10 := fun hl => by rw [← dropD]; exact lnLen_at (by rw [List.length_drop]; omega)
      rw [List.length_drop] at hle
      generalize lnLen (l.drop k) = n at *
      refine ⟨rfl, Nat.le_refl _, n, ⟨by show k + n ≤ _; omega, h3 (by omega), hin, hat⟩, line_ok _, ?_⟩
      refine (ih (i + 1) (k + (n + 1)) (by omega) (by omega) (fun hk => ?_)).le (by dsimp only; omega)
      rw [show k + (n + 1) = k + n + 1 by omega, nlc_succ (by omega), if_pos (hat (by omega)), nlc_flat n (by omega) hin, h3 (by omega)]
    · rw [List.drop_of_length_le h, lns_nil]; trivial
theorem lns_rows (l : List UInt8) : RowsOK l 0 0 (lns 1 0 l) := lns_ok l l.length 0 0 (by omega) (by omega) (fun _ => rfl)
end Go.Proofs.YtghdacijcnmhlaaDoor
namespace Go.Proofs.YtghdacijcnmhlaaDoor
def lvar (l : Int) : Int := if 1 ≤ l ∧ l ≤ 100000 then l else if -100000 ≤ l ∧ l ≤ -1 then -l else 0
def lside (l : Int) : Bool := decide (lvar l ≠ 0 ∧ 0 < l)
def lcheck (l vars : Int) : Int := if vars < 0 ∨ 100000 < vars then 2 else if lvar l = 0 ∨ vars < lvar l then 10 else 0
def lneg (l : Int) : Int := if lvar l = 0 then 0 else -l
def lindex (l : Int) : Int := if lvar l = 0 then -1 else if l < 0 then 2 * lvar l - 1 else 2 * lvar l - 2
def lfrom (i : Int) : Int := if i < 0 ∨ 200000 ≤ i then 0 else if i % 2 = 1 then -(i / 2 + 1) else i / 2 + 1
def lmake (v : Int) (t : Bool) : Int := if v < 1 ∨ 100000 < v then 0 else if t then v else -v
def lmakeE (v : Int) (t : Bool) : Int := if lmake v t = 0 then 10 else 0
def lhas (xs : List Int) (v : Int) : Bool := xs.contains v
def lof (xs : List Int) (v : Int) : Int :=
  if v < 1 ∨ 100000 < v then 0 else if lhas xs v = true ∧ lhas xs (-v) = true then 2 else if lhas xs v = true then 1 else if lhas xs (-v) = true then -1 else 0
def lmost (xs : List Int) : Int := xs.foldl (fun m l => max m (lvar l)) 0
theorem lvar_bd (l : Int) : 0 ≤ lvar l ∧ lvar l ≤ 100000 := by unfold lvar; split <;> (try split) <;> omega
theorem lvar_range {l : Int} (h : lvar l ≠ 0) : -100000 ≤ l ∧ l ≤ 100000 ∧ l ≠ 0 := by unfold lvar at h; split at h <;> (try split at h) <;> omega
theorem lcheck_ok (l vars : Int) : lcheck l vars = 0 ↔ (0 ≤ vars ∧ vars ≤ 100000 ∧ lvar l ≠ 0 ∧ lvar l ≤ vars) := by unfold lcheck; split <;> (try split) <;> omega
theorem lcheck_max (l : Int) : lcheck l 100000 = 0 ↔ lvar l ≠ 0 := by rw [lcheck_ok]; have := lvar_bd l; omega
theorem lindex_bd (l : Int) : -1 ≤ lindex l ∧ lindex l ≤ 199999 := by have := lvar_bd l; unfold lindex; split <;> (try split) <;> omega
theorem lfrom_index {l : Int} (h : lvar l ≠ 0) : lfrom (lindex l) = l := by
  have := lvar_range h
  unfold lindex; rw [if_neg h]
  unfold lvar lfrom
  split <;> split <;> (try split) <;> (try split) <;> omega
theorem lhas_snoc (xs : List Int) (l v : Int) : lhas (xs ++ [l]) v = (lhas xs v || v == l) := by
  unfold lhas; rw [Bool.eq_iff_iff]; simp
theorem take_snoc (xs : List Int) (k : Nat) (h : k < xs.length) : xs.take (k + 1) = xs.take k ++ [xs.getD k 0] := by
  rw [List.take_succ_eq_append_getElem h]; simp [List.getD, h]
end Go.Proofs.YtghdacijcnmhlaaDoor
namespace Go.Proofs.YtghdacijcnmhlaaDoor
set_option linter.unusedVariables false
def Rising (xs : List Int) : Prop := xs.Pairwise fun a b => lindex a < lindex b
def cPut (out : List Int) (x : Int) : List Int := out.takeWhile (fun y => decide (lindex y < lindex x)) ++ (x :: out.dropWhile (fun y => decide (lindex y < lindex x)))
def cStep (out : List Int) (x : Int) : List Int := if lvar x = 0 ∨ lhas out x = true then out else cPut out x
def cNorm (c : List Int) : List Int := c.foldl cStep []
def cHas (c : List Int) (l : Int) : Bool := decide (lvar l ≠ 0) && lhas c l
def cTaut (c : List Int) : Bool := c.any fun x => cHas c x && cHas c (-x)
def cSub (a b : List Int) : Bool := a.all fun x => decide (lvar x = 0) || lhas b x
def cWithout (c : List Int) (l : Int) : List Int := (cNorm c).filter (· != l)
def cCheck (c : List Int) (vars : Int) : Int := if vars < 0 ∨ 100000 < vars then 2 else if 1000 < c.length then 3 else if (c.all fun x => lcheck x vars == 0) = false then 10 else if c.Nodup then 0 else 21
def cResE (a b : List Int) (l : Int) : Int := if lvar l = 0 then 10 else if (cHas a l && cHas b (-l)) = false then 11 else 0
def cRes (a b : List Int) (l : Int) : List Int := if cResE a b l = 0 then cNorm (cWithout a l ++ cWithout b (-l)) else []
theorem lvar_pos {x : Int} (h : lvar x ≠ 0) : lindex x = if x < 0 then 2 * lvar x - 1 else 2 * lvar x - 2 := by unfold lindex; rw [if_neg h]
theorem lindex_inj {x y : Int} (hx : lvar x ≠ 0) (hy : lvar y ≠ 0) (h : lindex x = lindex y) : x = y := by
  rw [← lfrom_index hx, ← lfrom_index hy, h]
end Go.Proofs.YtghdacijcnmhlaaDoor
namespace Go.Proofs.YtghdacijcnmhlaaDoor
open Go.RowKit
end Go.Proofs.YtghdacijcnmhlaaDoor
