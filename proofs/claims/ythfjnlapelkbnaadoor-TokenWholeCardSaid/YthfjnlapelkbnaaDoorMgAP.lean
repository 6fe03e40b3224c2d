import Derived.Test.YthfjnlapelkbnaaDoorMgAO
import Derived.Test.YthfjnlapelkbnaaDoorMgAM
import Derived.Test.YthfjnlapelkbnaaDoorMgAB
namespace Go.Proofs.YthfjnlapelkbnaaDoor
theorem Leads.more {m : Nat} {s : AS} {S : AS → Prop} (t : Nat) (h : S ⟨s.fr, s.H ++ [some ⟨t, []⟩]⟩) : Leads m s S := fun G a w hm hr => by
  have hd : ¬ G.dom s.H.length := hr.inv.new
  have hle := Gh.more_le G (m := s.H.length) (n := s.H.length) (Nat.le_refl _) hd (0, 0) 0
  refine ⟨G.more s.H.length (0, 0) 0, _, hle.leb hm, by simp; omega, ⟨hr.defers, ?_, ?_⟩, h⟩
  · exact hr.fr.mono hle (by simp)
  · have hi0 := hr.inv
    have old : ∀ {o x}, (s.H ++ [some (AObj.mk t [])])[o]? = some (some x) → (o = s.H.length ∧ x = ⟨t, []⟩) ∨ (o < s.H.length ∧ s.H[o]? = some (some x)) := fun {o x} e => by
      rcases Nat.lt_or_ge o s.H.length with h1 | h1
      · rw [List.getElem?_append_left h1] at e; exact .inr ⟨h1, e⟩
      · rw [List.getElem?_append_right h1] at e
        have h2 := (List.getElem?_eq_some_iff.1 e).1
        simp at h2
        have h3 : o = s.H.length := by omega
        subst h3; simp at e; exact .inl ⟨rfl, e.symm⟩
    have mu' : ∀ {o}, o < s.H.length → (G.more s.H.length (0, 0) 0).mu o = G.mu o ∧ (G.more s.H.length (0, 0) 0).sz o = G.sz o := fun {o} ho => ⟨if_neg (by omega), if_neg (by omega)⟩
    refine ⟨hi0.os, hi0.tape, hi0.output, hi0.fz, hi0.kp, fun o ho => ?_, fun o x e => ?_, fun o x e => ?_, fun o o' x x' e e' hne z z' => ?_⟩
    · rcases ho with rfl | ho
      · simp
      · have := hi0.dom o ho; simp; omega
    · rcases old e with ⟨rfl, _⟩ | ⟨_, e⟩
      · exact .inl rfl
      · exact .inr (hi0.live o x e)
    · rcases old e with ⟨rfl, rfl⟩ | ⟨h1, e⟩
      · exact .inl ⟨rfl, if_pos rfl⟩
      · obtain ⟨m1, m2⟩ := mu' h1
        rcases hi0.obj o x e with ⟨c1, c2⟩ | ⟨c1, cs, k1, k2, k3, k4, k5, k6⟩
        · exact .inl ⟨c1, m2.trans c2⟩
        · exact .inr ⟨by rw [m2]; exact c1, cs, by rw [m1]; exact k1, by rw [m2]; exact k2, by rw [m1]; exact k3.mono hle (by simp), k4, by rw [m1]; exact k5, by rw [m1]; exact k6⟩
    · rcases old e with ⟨rfl, rfl⟩ | ⟨h1, e⟩
      · exact absurd (if_pos rfl) z
      · rcases old e' with ⟨rfl, rfl⟩ | ⟨h2, e'⟩
        · exact absurd (if_pos rfl) z'
        · rw [(mu' h1).1, (mu' h2).1]
          exact hi0.inj o o' x x' e e' hne (by rw [← (mu' h1).2]; exact z) (by rw [← (mu' h2).2]; exact z')
theorem Leads.cellNilAt {m : Nat} {s : AS} {S : AS → Prop} (o q sz j : Nat) (x y : AObj) (ho : s.H[o]? = some (some x)) (hj : x.cells[j]? = some (lt (.slice none 0 0))) (hq : s.H[q]? = some (some y)) (h : S ⟨s.fr, s.H.set o (some ⟨x.t, x.cells.set j (.osl q 0 0 sz)⟩)⟩) : Leads m s S := fun G a w hm hr => by
  have hjl := (List.getElem?_eq_some_iff.1 hj).1
  refine ⟨G, _, Gh.leb.refl _ _, by show m ≤ (s.H.set _ _).length; rw [List.length_set]; exact hm, ⟨hr.defers, ?_, ?_⟩, h⟩
  · show RL (s.H.set _ _).length _ _ _
    rw [List.length_set]; exact hr.fr
  · have hne : x.cells ≠ [] := fun e => by rw [e] at hjl; simp at hjl
    have hone := (hr.inv.obj o x ho)
    refine hr.inv.recell ho hne (x.cells.set j (.osl q 0 0 sz)) (by simp) ?_ fun vs hv => ?_
    · rcases hone with ⟨e, _⟩ | ⟨_, cs, _, _, _, h4, _⟩
      · exact absurd e hne
      · rw [List.all_eq_true] at h4 ⊢
        intro z hz
        rcases List.mem_or_eq_of_mem_set hz with h5 | h5
        · exact h4 z h5
        · subst h5; rfl
    · obtain ⟨v, hv1, hv2⟩ := hv.at hj
      have := hv2.lit_inv; subst this
      have hset : vs = vs.set j (.slice none 0 0) := by
        apply List.ext_getElem?
        intro k
        by_cases hk : j = k
        · subst hk; rw [List.getElem?_set_self (List.getElem?_eq_some_iff.1 hv1).1, hv1]
        · rw [List.getElem?_set_ne hk]
      rw [hset]
      exact hv.set j (.onil q 0 sz (hr.inv.live q y hq))
variable {P : Program} {m : Nat} {Q : Exit → XS → Prop}
theorem AX_cellNew {fr : List AV} {H : AHeap} {M : MS} {c : Code} (o t sz j : Nat) (x : AObj) (ho : H[o]? = some (some x)) (hj : x.cells[j]? = some (lt (.slice none 0 0))) (h : AX P m c Q ⟨fr, H.set o (some ⟨x.t, x.cells.set j (.osl H.length 0 0 sz)⟩) ++ [some ⟨t, []⟩], M⟩) : AX P m c Q ⟨fr, H, M⟩ := by
  have hol := (List.getElem?_eq_some_iff.1 ho).1
  refine AX_lead (S := fun s1 => s1 = ⟨fr, H ++ [some ⟨t, []⟩], M⟩) (.of (.more t rfl)) fun s' e => ?_
  subst e
  refine AX_lead (S := fun s1 => s1 = ⟨fr, H.set o (some ⟨x.t, x.cells.set j (.osl H.length 0 0 sz)⟩) ++ [some ⟨t, []⟩], M⟩) (.of (.cellNilAt o H.length sz j x ⟨t, []⟩ (by rw [List.getElem?_append_left hol]; exact ho) hj (by simp) ?_)) fun s' e => by rw [e]; exact h
  show (⟨_, _, _⟩ : XS) = _
  rw [List.set_append_left _ _ hol]
end Go.Proofs.YthfjnlapelkbnaaDoor
namespace Go.Proofs.YthfjnlapelkbnaaDoor
set_option linter.unusedSimpArgs false
open Go.Lib
theorem lnLen_in : ∀ {m : List UInt8} {j : Nat}, j < lnLen m → m.getD j 0 ≠ 10
  | [], j, h => by simp [lnLen] at h
  | b :: m, j, h => by
    unfold lnLen at h
    rw [List.takeWhile_cons] at h
    by_cases hb : noNl b = true
    · rw [if_pos hb] at h
      cases j with
      | zero => simp [noNl] at hb; simpa using hb
      | succ j => rw [List.getD_cons_succ]; exact lnLen_in (by unfold lnLen; simpa using h)
    · rw [if_neg hb] at h; simp at h
theorem lnLen_at : ∀ {m : List UInt8}, lnLen m < m.length → m.getD (lnLen m) 0 = 10
  | [], h => by simp at h
  | b :: m, h => by
    have e : lnLen (b :: m) = if noNl b = true then lnLen m + 1 else 0 := by unfold lnLen; rw [List.takeWhile_cons]; split <;> rfl
    rw [e] at h ⊢
    by_cases hb : noNl b = true
    · rw [if_pos hb] at h ⊢
      rw [List.getD_cons_succ]; exact lnLen_at (by simpa using h)
    · rw [if_neg hb]
      simp [noNl] at hb; simpa using hb
theorem dropD (l : List UInt8) (k p : Nat) : (l.drop k).getD p 0 = l.getD (k + p) 0 := by simp [List.getD]
theorem line_get {l : List UInt8} {k n p : Nat} (h : p < n) : ((l.drop k).take n).getD p 0 = l.getD (k + p) 0 := by
  rw [← dropD]; simp [List.getD, List.getElem?_take_of_lt h]
theorem line_sub {l : List UInt8} {k n p q : Nat} (h : p + q ≤ n) : (((l.drop k).take n).drop p).take q = (l.drop (k + p)).take q := by
  rw [List.drop_take, List.take_take, List.drop_drop, Nat.min_eq_left (by omega)]
theorem line_len {l : List UInt8} {k n : Nat} (h : k + n ≤ l.length) : ((l.drop k).take n).length = n := by rw [List.length_take, List.length_drop]; omega
end Go.Proofs.YthfjnlapelkbnaaDoor
namespace Go.Proofs.YthfjnlapelkbnaaDoor
set_option linter.unusedSimpArgs false
def sumB (ts : List (Nat × List UInt8)) : Nat := (ts.map fun x => x.2.length + 1).sum
theorem rowB_sum (ts : List (Nat × List UInt8)) : (rowB ts).length ≤ sumB ts := by
  cases ts with
  | nil => exact Nat.zero_le _
  | cons t ts =>
    have h : ∀ ts : List (Nat × List UInt8), (ts.flatMap fun x => 32 :: x.2).length = sumB ts := fun ts => by
      induction ts with
      | nil => rfl
      | cons t ts ih => rw [List.flatMap_cons, List.length_append, ih]; simp [sumB]
    show (t.2 ++ ts.flatMap fun x => 32 :: x.2).length ≤ _
    rw [List.length_append, h]
    simp only [sumB, List.map_cons, List.sum_cons]; omega
theorem tk_sum (n : Nat) : ∀ (k : Nat) (m : List UInt8), m.length ≤ n → sumB (tk k m) ≤ 2 * m.length ∧ (tk k m).length ≤ m.length := by
  induction n with
  | zero => intro k m h; have : m = [] := List.length_eq_zero_iff.1 (by omega); subst this; rw [tk_nil]; exact ⟨Nat.le_refl _, Nat.le_refl _⟩
  | succ n ih =>
    intro k m h
    cases m with
    | nil => rw [tk_nil]; exact ⟨Nat.zero_le _, Nat.zero_le _⟩
    | cons c r =>
      rw [List.length_cons] at h
      cases hs : isSp c with
      | true =>
        rw [tk_sp hs]
        obtain ⟨h1, h2⟩ := ih (k + 1) r (by omega)
        rw [List.length_cons]; exact ⟨by omega, by omega⟩
      | false =>
        rw [tk_word hs]
        have hd : (r.takeWhile noSp).length + (r.dropWhile noSp).length = r.length := by
          rw [← List.length_append, List.takeWhile_append_dropWhile]
        obtain ⟨h1, h2⟩ := ih (k + 1 + (r.takeWhile noSp).length) (r.dropWhile noSp) (by omega)
        refine ⟨?_, ?_⟩
        · show sumB (_ :: _) ≤ _
          have e : ∀ (x : Nat × List UInt8) (ts : List (Nat × List UInt8)), sumB (x :: ts) = x.2.length + 1 + sumB ts := fun x ts => by simp [sumB]
          rw [e]
          simp only [List.length_cons]; omega
        · rw [List.length_cons, List.length_cons]; omega
theorem lineTk_sum (m : List UInt8) : sumB (lineTk m) ≤ 2 * m.length ∧ (lineTk m).length ≤ m.length := by
  have h : lineTk m = if remark m = true then [] else tk 0 m := rfl
  rw [h]
  split
  · exact ⟨Nat.zero_le _, Nat.zero_le _⟩
  · exact tk_sum m.length 0 m (Nat.le_refl _)
theorem lns_sum (n : Nat) : ∀ (ln k : Nat) (l : List UInt8), l.length ≤ n → (joinB (lns ln k l)).length ≤ 3 * l.length ∧ (lns ln k l).length ≤ l.length ∧ ∀ r ∈ lns ln k l, r.2.2.length ≤ l.length := by
  induction n with
  | zero => intro ln k l h; have : l = [] := List.length_eq_zero_iff.1 (by omega); subst this; rw [lns_nil]; exact ⟨Nat.zero_le _, Nat.zero_le _, fun r hr => by cases hr⟩
  | succ n ih =>
    intro ln k l h
    cases l with
    | nil => rw [lns_nil]; exact ⟨Nat.zero_le _, Nat.zero_le _, fun r hr => by cases hr⟩
    | cons c r =>
      have hle := lnLen_le (c :: r)
      obtain ⟨s1, s2⟩ := lineTk_sum ((c :: r).take (lnLen (c :: r)))
      have s3 := rowB_sum (lineTk ((c :: r).take (lnLen (c :: r))))
      have hl : ((c :: r).take (lnLen (c :: r))).length = lnLen (c :: r) := by rw [List.length_take]; omega
      rw [hl] at s1 s2
      have hd : ((c :: r).drop (lnLen (c :: r) + 1)).length = (c :: r).length - (lnLen (c :: r) + 1) := by rw [List.length_drop]
      obtain ⟨h1, h2, h3⟩ := ih (ln + 1) (k + (lnLen (c :: r) + 1)) ((c :: r).drop (lnLen (c :: r) + 1)) (by rw [hd]; omega)
      rw [hd] at h1 h2 h3
      have hc : (c :: r).length = r.length + 1 := rfl
      rw [lns]
      refine ⟨?_, ?_, ?_⟩
      · unfold joinB
        rw [List.flatMap_cons, List.length_append, List.length_append]
        unfold joinB at h1
        have : ([10] : List UInt8).length = 1 := rfl
        dsimp only
        omega
      · rw [List.length_cons]; omega
      · intro x hx
        rcases List.mem_cons.1 hx with rfl | hx
        · dsimp only; omega
        · have := h3 x hx; omega
end Go.Proofs.YthfjnlapelkbnaaDoor
