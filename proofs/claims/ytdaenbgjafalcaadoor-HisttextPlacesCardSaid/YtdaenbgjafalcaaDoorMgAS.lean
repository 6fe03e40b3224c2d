import Derived.Test.YtdaenbgjafalcaaDoorMgAI
import Derived.Test.YtdaenbgjafalcaaDoorMgAP
import Derived.Test.YtdaenbgjafalcaaDoorMgAN
namespace Go.Proofs.YtdaenbgjafalcaaDoor
open Go.Lib
set_option linter.unusedVariables false
def frm (l : List UInt8) : Nat := match l with | 45 :: _ => 1 | _ => 0
end Go.Proofs.YtdaenbgjafalcaaDoor
namespace Go.Proofs.YtdaenbgjafalcaaDoor
set_option linter.unusedSimpArgs false
def sumB (ts : List (Nat × List UInt8)) : Nat := (ts.map fun x => x.2.length + 1).sum
theorem rowB_sum (ts : List (Nat × List UInt8)) : (rowB ts).length ≤ sumB ts := by
  cases ts with
  | nil => exact Nat.zero_le _
  | cons t ts =>
    have h : ∀ ts : List (Nat × List UInt8), (ts.flatMap fun x => 32 :: x.2).length = sumB ts := fun ts => by
      induction ts with
      | nil => rfl
      | cons t ts ih => rw [List.flatMap_cons, List.length_append, ih]; simp [sumB]
    show (t.2 ++ ts.flatMap fun x => 32 :: x.2).length ≤ _
    rw [List.length_append, h]
    simp only [sumB, List.map_cons, List.sum_cons]; omega
theorem tk_sum (n : Nat) : ∀ (k : Nat) (m : List UInt8), m.length ≤ n → sumB (tk k m) ≤ 2 * m.length ∧ (tk k m).length ≤ m.length := by
  induction n with
  | zero => intro k m h; have : m = [] := List.length_eq_zero_iff.1 (by omega); subst this; rw [tk_nil]; exact ⟨Nat.le_refl _, Nat.le_refl _⟩
  | succ n ih =>
    intro k m h
    cases m with
    | nil => rw [tk_nil]; exact ⟨Nat.zero_le _, Nat.zero_le _⟩
    | cons c r =>
      rw [List.length_cons] at h
      cases hs : isSp c with
      | true =>
        rw [tk_sp hs]
        obtain ⟨h1, h2⟩ := ih (k + 1) r (by omega)
        rw [List.length_cons]; exact ⟨by omega, by omega⟩
      | false =>
        rw [tk_word hs]
        have hd : (r.takeWhile noSp).length + (r.dropWhile noSp).length = r.length := by
          rw [← List.length_append, List.takeWhile_append_dropWhile]
        obtain ⟨h1, h2⟩ := ih (k + 1 + (r.takeWhile noSp).length) (r.dropWhile noSp) (by omega)
        refine ⟨?_, ?_⟩
        · show sumB (_ :: _) ≤ _
          have e : ∀ (x : Nat × List UInt8) (ts : List (Nat × List UInt8)), sumB (x :: ts) = x.2.length + 1 + sumB ts := fun x ts => by simp [sumB]
          rw [e]
          simp only [List.length_cons]; omega
        · rw [List.length_cons, List.length_cons]; omega
theorem lineTk_sum (m : List UInt8) : sumB (lineTk m) ≤ 2 * m.length ∧ (lineTk m).length ≤ m.length := by
  have h : lineTk m = if remark m = true then [] else tk 0 m := rfl
  rw [h]
  split
  · exact ⟨Nat.zero_le _, Nat.zero_le _⟩
  · exact tk_sum m.length 0 m (Nat.le_refl _)
theorem lns_sum (n : Nat) : ∀ (ln k : Nat) (l : List UInt8), l.length ≤ n → (joinB (lns ln k l)).length ≤ 3 * l.length ∧ (lns ln k l).length ≤ l.length ∧ ∀ r ∈ lns ln k l, r.2.2.length ≤ l.length := by
  induction n with
  | zero => intro ln k l h; have : l = [] := List.length_eq_zero_iff.1 (by omega); subst this; rw [lns_nil]; exact ⟨Nat.zero_le _, Nat.zero_le _, fun r hr => by cases hr⟩
  | succ n ih =>
    intro ln k l h
    cases l with
    | nil => rw [lns_nil]; exact ⟨Nat.zero_le _, Nat.zero_le _, fun r hr => by cases hr⟩
    | cons c r =>
      have hle := lnLen_le (c :: r)
      obtain ⟨s1, s2⟩ := lineTk_sum ((c :: r).take (lnLen (c :: r)))
      have s3 := rowB_sum (lineTk ((c :: r).take (lnLen (c :: r))))
      have hl : ((c :: r).take (lnLen (c :: r))).length = lnLen (c :: r) := by rw [List.length_take]; omega
      rw [hl] at s1 s2
      have hd : ((c :: r).drop (lnLen (c :: r) + 1)).length = (c :: r).length - (lnLen (c :: r) + 1) := by rw [List.length_drop]
      obtain ⟨h1, h2, h3⟩ := ih (ln + 1) (k + (lnLen (c :: r) + 1)) ((c :: r).drop (lnLen (c :: r) + 1)) (by rw [hd]; omega)
      rw [hd] at h1 h2 h3
      have hc : (c :: r).length = r.length + 1 := rfl
      rw [lns]
      refine ⟨?_, ?_, ?_⟩
      · unfold joinB
        rw [List.flatMap_cons, List.length_append, List.length_append]
        unfold joinB at h1
        have : ([10] : List UInt8).length = 1 := rfl
        dsimp only
        omega
      · rw [List.length_cons]; omega
      · intro x hx
        rcases List.mem_cons.1 hx with rfl | hx
        · dsimp only; omega
        · have := h3 x hx; omega
end Go.Proofs.YtdaenbgjafalcaaDoor
namespace Go.Proofs.YtdaenbgjafalcaaDoor
set_option linter.unusedSimpArgs false
open Go.Lib
structure TokIn (m : List UInt8) (t : Nat × List UInt8) : Prop where
  pos : 0 < t.2.length
  fit : t.1 + t.2.length ≤ m.length
  txt : (m.drop t.1).take t.2.length = t.2
  word : t.2.all noSp = true
  next : t.1 + t.2.length < m.length → isSp (m.getD (t.1 + t.2.length) 0) = true
def TkOK (m : List UInt8) : Nat → List (Nat × List UInt8) → Prop
  | _, [] => True
  | p, t :: ts => p ≤ t.1 ∧ TokIn m t ∧ TkOK m (t.1 + t.2.length) ts
theorem TkOK.le {m : List UInt8} {p q : Nat} {ts : List (Nat × List UInt8)} (h : TkOK m q ts) (hp : p ≤ q) : TkOK m p ts := by
  cases ts with
  | nil => trivial
  | cons t ts => exact ⟨Nat.le_trans hp h.1, h.2⟩
theorem tw_take (r : List UInt8) : r.take (r.takeWhile noSp).length = r.takeWhile noSp ∧ r.drop (r.takeWhile noSp).length = r.dropWhile noSp := by
  have h := List.takeWhile_append_dropWhile (p := noSp) (l := r)
  generalize r.takeWhile noSp = a at *
  generalize r.dropWhile noSp = b at *
  subst h
  exact ⟨List.take_left, List.drop_left⟩
theorem dw_head (r : List UInt8) : ∀ c, (r.dropWhile noSp)[0]? = some c → noSp c = false := by
  induction r with
  | nil => intro c h; simp at h
  | cons b r ih =>
    intro c h
    rw [List.dropWhile_cons] at h
    by_cases hb : noSp b = true
    · rw [if_pos hb] at h; exact ih c h
    · rw [if_neg hb] at h
      simp at h; subst h; simpa using hb
theorem tk_ok (m : List UInt8) (f : Nat) : ∀ p, m.length - p ≤ f → TkOK m p (tk p (m.drop p)) := by
  induction f with
  | zero => intro p hp; rw [List.drop_of_length_le (by omega), tk_nil]; trivial
  | succ f ih =>
    intro p hp
    rcases Nat.lt_or_ge p m.length with h | h
    · cases hs : isSp (m.getD p 0) with
      | true => rw [tk_at_sp h hs]; exact (ih (p + 1) (by omega)).le (by omega)
      | false =>
        have hd := drop_at h
        rw [hd, tk_word hs]
        obtain ⟨w1, w2⟩ := tw_take (m.drop (p + 1))
        have hw : ((m.drop (p + 1)).takeWhile noSp).length ≤ (m.drop (p + 1)).length := (List.takeWhile_sublist noSp (l := m.drop (p + 1))).length_le
        have hall : ((m.drop (p + 1)).takeWhile noSp).all noSp = true := by
          exact List.all_takeWhile
        have hhead := dw_head (m.drop (p + 1))
        rw [← w2, List.drop_drop] at hhead ⊢
        rw [List.length_drop] at hw
        generalize hn : ((m.drop (p + 1)).takeWhile noSp).length = n at *
        refine ⟨Nat.le_refl _, ⟨by simp, by simp only [List.length_cons, hn]; omega, ?_, ?_, ?_⟩, ?_⟩
        · simp only [List.length_cons, hn]
          rw [hd, List.take_succ_cons, w1]
        · rw [List.all_cons, hall, Bool.and_true]
          unfold noSp; rw [hs]; rfl
        · simp only [List.length_cons, hn]
          intro hlt
          have e : (m.drop (p + 1 + n))[0]? = some (m.getD (p + (n + 1)) 0) := by
            rw [show p + (n + 1) = p + 1 + n by omega] at hlt ⊢
            rw [List.getElem?_drop, Nat.add_zero, List.getElem?_eq_getElem hlt]
            simp [List.getD, hlt]
          have := hhead _ e
          unfold noSp at this; simpa using this
        · simp only [List.length_cons, hn]
          rw [show p + (n + 1) = p + 1 + n by omega]
          exact ih (p + 1 + n) (by omega)
    · rw [List.drop_of_length_le h, tk_nil]; trivial
theorem line_ok (m : List UInt8) : TkOK m 0 (lineTk m) := by
  have h : lineTk m = if remark m = true then [] else tk 0 m := rfl
  rw [h]
  split
  · trivial
  · exact tk_ok m m.length 0 (by omega)
def nlc (l : List UInt8) (a : Nat) : Nat := (l.take a).count 10
theorem nlc_succ {l : List UInt8} {a : Nat} (h : a < l.length) : nlc l (a + 1) = nlc l a + if l.getD a 0 = 10 then 1 else 0 := by
  unfold nlc
  rw [List.take_add_one, List.getElem?_eq_getElem h, List.count_append]
  have e : l.getD a 0 = l[a] := by simp [List.getD, h]
  rw [e]
  congr 1
  by_cases hx : l[a] = 10
  · rw [if_pos hx, hx]; rfl
  · rw [if_neg hx]
    show ([l[a]] : List UInt8).count 10 = 0
    rw [List.count_cons, List.count_nil, if_neg (by simpa using hx)]
theorem nlc_flat {l : List UInt8} {a : Nat} : ∀ n : Nat, a + n ≤ l.length → (∀ j, j < n → l.getD (a + j) 0 ≠ 10) → nlc l (a + n) = nlc l a
  | 0, _, _ => rfl
  | n + 1, h, hj => by
    rw [← Nat.add_assoc, nlc_succ (by omega), nlc_flat n (by omega) (fun j h1 => hj j (by omega)), if_neg (hj n (by omega))]; rfl
structure LineIn (l : List UInt8) (i st n : Nat) : Prop where
  fit : st + n ≤ l.length
  cnt : nlc l st = i
  flat : ∀ j, j < n → l.getD (st + j) 0 ≠ 10
  stop : st + n < l.length → l.getD (st + n) 0 = 10
def RowsOK (l : List UInt8) : Nat → Nat → List (Nat × Nat × List (Nat × List UInt8)) → Prop
  | _, _, [] => True
  | i, e, r :: rs => r.1 = i + 1 ∧ e ≤ r.2.1 ∧ ∃ n, LineIn l i r.2.1 n ∧ TkOK ((l.drop r.2.1).take n) 0 r.2.2 ∧ RowsOK l (i + 1) (r.2.1 + n) rs
theorem RowsOK.le {l : List UInt8} {i e e' : Nat} {rs : List (Nat × Nat × List (Nat × List UInt8))} (h : RowsOK l i e rs) (he : e' ≤ e) : RowsOK l i e' rs := by
  cases rs with
  | nil => trivial
  | cons r rs => exact ⟨h.1, Nat.le_trans he h.2.1, h.2.2⟩
theorem lns_ok (l : List UInt8) (f : Nat) : ∀ i k, l.length - k ≤ f → k ≤ l.length + 1 → (k ≤ l.length → nlc l k = i) → RowsOK l i k (lns (i + 1) k (l.drop k)) := by
  induction f with
  | zero => intro i k h1 h2 h3; rw [List.drop_of_length_le (by omega), lns_nil]; trivial
  | succ f ih =>
    intro i k h1 h2 h3
    rcases Nat.lt_or_ge k l.length with h | h
    · rw [lns_at h]
      have hle := lnLen_le (l.drop k)
      have hin : ∀ j, j < lnLen (l.drop k) → l.getD (k + j) 0 ≠ 10 := fun j hj => by rw [← dropD]; exact lnLen_in hj
      have hat : k + lnLen (l.drop k) < l.length → l.getD (k + lnLen (l.drop k)) 0 = 10 := fun hl => by rw [← dropD]; exact lnLen_at (by rw [List.length_drop]; omega)
      rw [List.length_drop] at hle
      generalize lnLen (l.drop k) = n at *
      refine ⟨rfl, Nat.le_refl _, n, ⟨by show k + n ≤ _; omega, h3 (by omega), hin, hat⟩, line_ok _, ?_⟩
      refine (ih (i + 1) (k + (n + 1)) (by omega) (by omega) (fun hk => ?_)).le (by dsimp only; omega)
      rw [show k + (n + 1) = k + n + 1 by omega, nlc_succ (by omega), if_pos (hat (by omega)), nlc_flat n (by omega) hin, h3 (by omega)]
    · rw [List.drop_of_length_le h, lns_nil]; trivial
theorem lns_rows (l : List UInt8) : RowsOK l 0 0 (lns 1 0 l) := lns_ok l l.length 0 0 (by omega) (by omega) (fun _ => rfl)
end Go.Proofs.YtdaenbgjafalcaaDoor
