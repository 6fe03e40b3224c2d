import Derived.Test.YthgmjboldboclaaDoorMgBN
import Derived.Test.YthgmjboldboclaaDoorMgBY
import Derived.Test.YthgmjboldboclaaDoorMgBX
import Derived.Test.YthgmjboldboclaaDoorMgBS
namespace Go.Proofs.YthgmjboldboclaaDoor
open Go.RowKit Go.Lib
set_option linter.unusedSimpArgs false
def ChainT (n : Nat) : Nat → List Tok3 → Prop
  | _, [] => True
  | e, t :: ts => ∃ p : Nat, t.2.1 = (p : Int) ∧ e ≤ p ∧ 0 < t.2.2.length ∧ p + t.2.2.length ≤ n ∧ ChainT n (p + t.2.2.length) ts
theorem ChainT.le {n e e' : Nat} {T : List Tok3} (h : ChainT n e T) (he : e' ≤ e) : ChainT n e' T := by
  cases T with
  | nil => trivial
  | cons t ts => obtain ⟨p, h1, h2, h3⟩ := h; exact ⟨p, h1, by omega, h3⟩
theorem chain_row {l : List UInt8} {i st n : Nat} (hL : LineIn l i st n) (ln : Int) {rest : List Tok3} (hr : ChainT l.length (st + n) rest) : ∀ (ts : List (Nat × List UInt8)) (p : Nat), p ≤ n → TkOK ((l.drop st).take n) p ts → ChainT l.length (st + p) ((ts.map fun t => (ln, (st : Int) + t.1, t.2)) ++ rest)
  | [], p, hp, _ => hr.le (by omega)
  | t :: ts, p, hp, h => by
    obtain ⟨h1, h2, h3⟩ := h
    have hf := h2.fit
    have hm : ((l.drop st).take n).length ≤ n := by rw [List.length_take]; omega
    have := hL.fit
    refine ⟨st + t.1, by push_cast; rfl, by omega, h2.pos, by dsimp only; omega, ?_⟩
    have ih := chain_row hL ln hr ts (t.1 + t.2.length) (by omega) h3
    rw [Nat.add_assoc]; exact ih
theorem chain_rows {l : List UInt8} : ∀ (rs : List (Nat × Nat × List (Nat × List UInt8))) (i e : Nat), RowsOK l i e rs → ChainT l.length e (allT rs)
  | [], i, e, _ => trivial
  | r :: rs, i, e, h => by
    obtain ⟨h1, h2, n, h3, h4, h5⟩ := h
    have ih := chain_rows rs (i + 1) (r.2.1 + n) h5
    have := chain_row h3 r.1 ih r.2.2 0 (Nat.zero_le _) h4
    rw [allT_cons]
    exact ChainT.le this (by omega)
theorem chain_toks (l : List UInt8) : ChainT l.length 0 (toks l) := chain_rows _ _ _ (lns_rows l)
theorem ChainT.get {n : Nat} : ∀ {T : List Tok3} {e j : Nat}, ChainT n e T → j < T.length → ∃ p : Nat, (T.getD j tok0).2.1 = (p : Int) ∧ e ≤ p ∧ 0 < (T.getD j tok0).2.2.length ∧ p + (T.getD j tok0).2.2.length ≤ n
  | [], e, j, _, hj => by simp at hj
  | t :: ts, e, 0, ⟨p, h1, h2, h3, h4, h5⟩, _ => ⟨p, h1, h2, h3, h4⟩
  | t :: ts, e, j + 1, ⟨p, h1, h2, h3, h4, h5⟩, hj => by
    obtain ⟨q, g1, g2, g3⟩ := h5.get (j := j) (by simpa using hj)
    exact ⟨q, g1, by omega, g3⟩
theorem ChainT.lt {n : Nat} : ∀ {T : List Tok3} {e i j : Nat}, ChainT n e T → i < j → j < T.length → (T.getD i tok0).2.1 < (T.getD j tok0).2.1
  | [], e, i, j, _, _, hj => by simp at hj
  | t :: ts, e, 0, j + 1, ⟨p, h1, h2, h3, h4, h5⟩, _, hj => by
    obtain ⟨q, g1, g2, g3⟩ := h5.get (j := j) (by simpa using hj)
    show t.2.1 < (ts.getD j tok0).2.1
    rw [h1, g1]; omega
  | t :: ts, e, i + 1, j + 1, ⟨p, h1, h2, h3, h4, h5⟩, hij, hj => h5.lt (i := i) (j := j) (by omega) (by simpa using hj)
theorem toks_uniq {l : List UInt8} {i j : Nat} (hi : i < (toks l).length) (hj : j < (toks l).length) (h : ((toks l).getD i tok0).2.1 = ((toks l).getD j tok0).2.1) : i = j := by
  have hc := chain_toks l
  rcases Nat.lt_trichotomy i j with h1 | h1 | h1
  · have := hc.lt h1 hj; omega
  · exact h1
  · have := hc.lt h1 hi; omega
theorem numR_no4 (l : List UInt8) (lo hi : Int) : (numR l lo hi).2 ≠ 4 := by
  unfold numR; split
  · show (5 : Int) ≠ 4; decide
  · split
    · show (0 : Int) ≠ 4; decide
    · show (7 : Int) ≠ 4; decide
theorem litE_no4 (V : Int) (c : List Int) (l : List UInt8) : litE V c l ≠ 4 := by
  unfold litE
  split
  · exact numR_no4 _ _ _
  · split; decide; split; decide; split; decide; split <;> decide
theorem hdQ_no4 (i : Nat) (l : List UInt8) : hdQ i l ≠ 4 := by
  unfold hdQ
  split
  · unfold wordE; split <;> decide
  · split
    · unfold wordE; split <;> decide
    · split
      · exact numR_no4 _ _ _
      · exact numR_no4 _ _ _
theorem run_at {V N z : Int} : ∀ (ts : List Tok3) (xss : List (List Int)) (c : List Int),
    (((pRun V N z ts xss c).2.2 = 0 ∨ (pRun V N z ts xss c).2.2 = 4) ∧ (pRun V N z ts xss c).2.1 = z) ∨
    ((pRun V N z ts xss c).2.2 ≠ 0 ∧ (pRun V N z ts xss c).2.2 ≠ 4 ∧ ∃ j, j < ts.length ∧ (pRun V N z ts xss c).2.1 = (ts.getD j tok0).2.1 ∧ ∀ ts' z', ts'.take (j + 1) = ts.take (j + 1) → (pRun V N z' ts' xss c).2 = (pRun V N z ts xss c).2)
  | [], xss, c => by
    rw [pRun]
    split
    · exact .inl ⟨.inr rfl, rfl⟩
    · exact .inl ⟨.inl rfl, rfl⟩
  | t :: ts, xss, c => by
    have hd : ∀ (ts' : List Tok3) (j : Nat), ts'.take (j + 1) = (t :: ts).take (j + 1) → ∃ ts2, ts' = t :: ts2 ∧ ts2.take j = ts.take j := fun ts' j h => by
      cases ts' with
      | nil => simp at h
      | cons a ts2 =>
        simp only [List.take_succ_cons, List.cons.injEq] at h
        exact ⟨ts2, by rw [h.1], h.2⟩
    by_cases h1 : (xss.length : Int) = N
    · have e : pRun V N z (t :: ts) xss c = ([], t.2.1, 6) := by rw [pRun_cons, if_pos h1]
      rw [e]
      refine .inr ⟨(by show (6 : Int) ≠ 0; decide), (by show (6 : Int) ≠ 4; decide), 0, by simp, rfl, fun ts' z' h => ?_⟩
      obtain ⟨ts2, rfl, _⟩ := hd ts' 0 h
      rw [pRun_cons, if_pos h1]
    · by_cases h2 : litE V c t.2.2 = 0
      · by_cases h3 : (numR t.2.2 (-V) V).1 = 0
        · have e : ∀ z ts, pRun V N z (t :: ts) xss c = pRun V N z ts (xss ++ [c]) [] := fun z ts => by rw [pRun_cons, if_neg h1, if_neg (by rw [h2]; simp), if_pos h3]
          rw [e]
          rcases run_at ts (xss ++ [c]) [] with h | ⟨h4, h5, j, h6, h7, h8⟩
          · exact .inl h
          · refine .inr ⟨h4, h5, j + 1, by simpa using h6, h7, fun ts' z' h => ?_⟩
            obtain ⟨ts2, rfl, h9⟩ := hd ts' (j + 1) h
            rw [e]; exact h8 ts2 z' h9
        · have e : ∀ z ts, pRun V N z (t :: ts) xss c = pRun V N z ts xss (c ++ [(numR t.2.2 (-V) V).1]) := fun z ts => by rw [pRun_cons, if_neg h1, if_neg (by rw [h2]; simp), if_neg h3]
          rw [e]
          rcases run_at ts xss (c ++ [(numR t.2.2 (-V) V).1]) with h | ⟨h4, h5, j, h6, h7, h8⟩
          · exact .inl h
          · refine .inr ⟨h4, h5, j + 1, by simpa using h6, h7, fun ts' z' h => ?_⟩
            obtain ⟨ts2, rfl, h9⟩ := hd ts' (j + 1) h
            rw [e]; exact h8 ts2 z' h9
      · have e : ∀ z ts, pRun V N z (t :: ts) xss c = ([], t.2.1, litE V c t.2.2) := fun z ts => by rw [pRun_cons, if_neg h1, if_pos h2]
        rw [e]
        refine .inr ⟨h2, litE_no4 _ _ _, 0, by simp, rfl, fun ts' z' h => ?_⟩
        obtain ⟨ts2, rfl, _⟩ := hd ts' 0 h
        rw [e]
theorem get_take {T T' : List Tok3} {n i : Nat} (h : T'.take n = T.take n) (hi : i < n) (hl : i < T.length) : i < T'.length ∧ T'.getD i tok0 = T.getD i tok0 := by
  have h1 : T'[i]? = T[i]? := by
    have := congrArg (fun L : List Tok3 => L[i]?) h
    simpa [List.getElem?_take_of_lt hi] using this
  rw [List.getElem?_eq_getElem hl] at h1
  refine ⟨(List.getElem?_eq_some_iff.1 h1).1, ?_⟩
  rw [List.getD_eq_getElem?_getD, List.getD_eq_getElem?_getD, h1, List.getElem?_eq_getElem hl]
theorem hdE_take {T T' : List Tok3} {n i : Nat} (h : T'.take n = T.take n) (hi : i < n) (hl : i < T.length) : hdE T' i = hdE T i := by
  obtain ⟨h1, h2⟩ := get_take h hi hl
  unfold hdE hdT; rw [if_pos h1, if_pos hl, h2]
theorem parse_at (T : List Tok3) (z : Int) :
    (((pParse T z).2.2.2 = 0 ∨ (pParse T z).2.2.2 = 4) ∧ (pParse T z).2.2.1 = z) ∨
    ((pParse T z).2.2.2 ≠ 0 ∧ (pParse T z).2.2.2 ≠ 4 ∧ ∃ j, j < T.length ∧ (pParse T z).2.2.1 = (T.getD j tok0).2.1 ∧ ∀ T' z', T'.take (j + 1) = T.take (j + 1) → (pParse T' z').2.2 = (pParse T z).2.2) := by
  by_cases h : hdI T < 4
  · have hne : hdE T (hdI T) ≠ 0 := by
      unfold hdI at h ⊢
      split at h
      · rename_i h0; rw [if_pos h0]; exact h0
      · rename_i h0
        rw [if_neg h0]
        split at h
        · rename_i h1; rw [if_pos h1]; exact h1
        · rename_i h1
          rw [if_neg h1]
          split at h
          · rename_i h2; rw [if_pos h2]; exact h2
          · rename_i h2
            rw [if_neg h2]
            split at h
            · rename_i h3; rw [if_pos h3]; exact h3
            · omega
    rw [pParse_bad h]
    by_cases hl : hdI T < T.length
    · have he : hdE T (hdI T) ≠ 4 := by rw [show hdE T (hdI T) = hdQ (hdI T) (hdT T (hdI T)) from if_pos hl]; exact hdQ_no4 _ _
      refine .inr ⟨hne, he, hdI T, hl, if_pos hl, fun T' z' ht => ?_⟩
      have hj : ∀ j, j ≤ hdI T → hdE T' j = hdE T j := fun j h1 => hdE_take ht (by omega) (by omega)
      have hI : hdI T' = hdI T := by
        have a0 := hj 0 (Nat.zero_le _)
        unfold hdI at hj h ⊢
        by_cases c0 : hdE T 0 ≠ 0
        · rw [if_pos c0, if_pos (by rw [a0]; exact c0)]
        · rw [if_neg c0] at hj h ⊢
          rw [if_neg (by rw [a0]; exact c0)]
          have a1 := hj 1 (by split; omega; split; omega; split <;> omega)
          by_cases c1 : hdE T 1 ≠ 0
          · rw [if_pos c1, if_pos (by rw [a1]; exact c1)]
          · rw [if_neg c1] at hj h ⊢
            rw [if_neg (by rw [a1]; exact c1)]
            have a2 := hj 2 (by split; omega; split <;> omega)
            by_cases c2 : hdE T 2 ≠ 0
            · rw [if_pos c2, if_pos (by rw [a2]; exact c2)]
            · rw [if_neg c2] at hj h ⊢
              rw [if_neg (by rw [a2]; exact c2)]
              by_cases c3 : hdE T 3 ≠ 0
              · rw [if_pos c3] at hj ⊢
                rw [if_pos (by rw [hj 3 (by omega)]; exact c3)]
              · rw [if_neg c3] at h; omega
      rw [pParse_bad (by omega), hI, hj _ (Nat.le_refl _)]
      obtain ⟨g1, g2⟩ := get_take ht (Nat.lt_succ_self _) hl
      rw [show rdAt T' z' (hdI T) = (T'.getD (hdI T) tok0).2.1 from if_pos g1, show rdAt T z (hdI T) = (T.getD (hdI T) tok0).2.1 from if_pos hl, g2]
    · exact .inl ⟨.inr (if_neg hl), if_neg hl⟩
  · have hle : hdI T ≤ 4 := by unfold hdI; split; omega; split; omega; split; omega; split <;> omega
    have h4 : hdI T = 4 := by omega
    have hall : ∀ i, i < 4 → hdE T i = 0 := fun i hi => by
      have h5 := h4
      unfold hdI at h5
      split at h5
      · omega
      · split at h5
        · omega
        · split at h5
          · omega
          · split at h5
            · omega
            · rename_i a0 a1 a2 a3
              have hc : i = 0 ∨ i = 1 ∨ i = 2 ∨ i = 3 := by omega
              rcases hc with rfl | rfl | rfl | rfl
              · exact Classical.not_not.1 a0
              · exact Classical.not_not.1 a1
              · exact Classical.not_not.1 a2
              · exact Classical.not_not.1 a3
    have hlen : ∀ i, i < 4 → i < T.length := fun i hi => hdE_lt (hall i hi)
    have hl4 := hlen 3 (by omega)
    rw [pParse_run h4]
    rcases run_at (V := hdV T) (N := hdN T) (z := z) (T.drop 4) [] [] with ⟨h5, h6⟩ | ⟨h5, h6, j, h7, h8, h9⟩
    · left
      split
      · exact ⟨h5, h6⟩
      · exact ⟨h5, h6⟩
    · right
      rw [if_pos h5]
      refine ⟨h5, h6, j + 4, by rw [List.length_drop] at h7; omega, ?_, fun T' z' ht => ?_⟩
      · show (pRun (hdV T) (hdN T) z (T.drop 4) [] []).2.1 = _
        rw [h8, List.getD_eq_getElem?_getD, List.getD_eq_getElem?_getD, List.getElem?_drop, Nat.add_comm]
      · have hj : ∀ i, i < 4 → hdE T' i = 0 := fun i hi => by rw [hdE_take ht (by omega) (hlen i hi), hall i hi]
        have hI : hdI T' = 4 := by simp [hdI, hj 0 (by omega), hj 1 (by omega), hj 2 (by omega), hj 3 (by omega)]
        have hv : hdV T' = hdV T := by unfold hdV hdT; rw [(get_take ht (show 2 < j + 4 + 1 by omega) (hlen 2 (by omega))).2]
        have hn : hdN T' = hdN T := by unfold hdN hdT; rw [(get_take ht (show 3 < j + 4 + 1 by omega) (hlen 3 (by omega))).2]
        have hd : (T'.drop 4).take (j + 1) = (T.drop 4).take (j + 1) := by
          have := congrArg (List.drop 4) ht
          rw [List.drop_take, List.drop_take] at this
          simpa [show j + 4 + 1 - 4 = j + 1 by omega] using this
        have hr := h9 (T'.drop 4) z' hd
        rw [pParse_run hI, hv, hn, if_pos (by rw [hr]; exact h5)]
        exact hr
end Go.Proofs.YthgmjboldboclaaDoor
namespace Go.Proofs.YthgmjboldboclaaDoor
open Go.RowKit Go.Lib
set_option linter.unusedSimpArgs false
theorem tw_app {w y : List UInt8} (hw : ∀ b ∈ w, noSp b = true) (hy : ∀ s, y[0]? = some s → noSp s = false) : (w ++ y).takeWhile noSp = w ∧ (w ++ y).dropWhile noSp = y := by
  induction w with
  | nil =>
    cases y with
    | nil => exact ⟨rfl, rfl⟩
    | cons s y => have := hy s rfl; simp [List.takeWhile_cons, List.dropWhile_cons, this]
  | cons b w ih =>
    have hb := hw b (by simp)
    obtain ⟨h1, h2⟩ := ih fun c hc => hw c (by simp [hc])
    simp [List.takeWhile_cons, List.dropWhile_cons, hb, h1, h2]
theorem tk_wy (k : Nat) {c : UInt8} {w y : List UInt8} (hc : isSp c = false) (hw : ∀ b ∈ w, noSp b = true) (hy : ∀ s, y[0]? = some s → noSp s = false) : tk k (c :: (w ++ y)) = (k, c :: w) :: tk (k + 1 + w.length) y := by
  obtain ⟨h1, h2⟩ := tw_app hw hy
  rw [tk_word hc, h1, h2]
theorem tk_ge (n : Nat) : ∀ (k : Nat) (x : List UInt8), x.length ≤ n → ∀ t ∈ tk k x, k ≤ t.1 := by
  induction n with
  | zero => intro k x h t ht; have : x = [] := List.length_eq_zero_iff.1 (by omega); subst this; rw [tk_nil] at ht; cases ht
  | succ n ih =>
    intro k x h t ht
    cases x with
    | nil => rw [tk_nil] at ht; cases ht
    | cons c r =>
      rw [List.length_cons] at h
      cases hs : isSp c with
      | true => rw [tk_sp hs] at ht; have := ih (k + 1) r (by omega) t ht; omega
      | false =>
        rw [tk_word hs] at ht
        rcases List.mem_cons.1 ht with rfl | ht
        · exact Nat.le_refl _
        · have hd := (List.dropWhile_sublist noSp (l := r)).length_le
          have := ih _ _ (by omega) t ht; omega
theorem tk_cut (n : Nat) : ∀ (k : Nat) (x : List UInt8) (j q : Nat) (b : List UInt8), x.length ≤ n → j < (tk k x).length → ((tk k x).getD j (0, [])).1 = k + q →
    (tk k (x.take (q + ((tk k x).getD j (0, [])).2.length) ++ 9 :: b)).take (j + 1) = (tk k x).take (j + 1) := by
  induction n with
  | zero => intro k x j q b h hj; have : x = [] := List.length_eq_zero_iff.1 (by omega); subst this; rw [tk_nil] at hj; simp at hj
  | succ n ih =>
    intro k x j q b h hj hq
    cases x with
    | nil => rw [tk_nil] at hj; simp at hj
    | cons c r =>
      rw [List.length_cons] at h
      cases hs : isSp c with
      | true =>
        rw [tk_sp hs] at hj hq ⊢
        have hm : (tk (k + 1) r).getD j (0, []) ∈ tk (k + 1) r := by rw [List.getD_eq_getElem?_getD, List.getElem?_eq_getElem hj]; exact List.getElem_mem hj
        have hge := tk_ge r.length (k + 1) r (Nat.le_refl _) _ hm
        obtain ⟨q', rfl⟩ : ∃ q', q = q' + 1 := ⟨q - 1, by omega⟩
        have := ih (k + 1) r j q' b (by omega) hj (by omega)
        rw [show q' + 1 + ((tk (k + 1) r).getD j (0, [])).2.length = (q' + ((tk (k + 1) r).getD j (0, [])).2.length) + 1 by omega, List.take_succ_cons, List.cons_append, tk_sp hs]
        exact this
      | false =>
        have hsplit := List.takeWhile_append_dropWhile (p := noSp) (l := r)
        have hw : ∀ x ∈ r.takeWhile noSp, noSp x = true := fun x hx => List.all_eq_true.1 List.all_takeWhile x hx
        have hy := dw_head r
        have hd := (List.dropWhile_sublist noSp (l := r)).length_le
        generalize r.takeWhile noSp = w at *
        generalize r.dropWhile noSp = y at *
        subst hsplit
        have hk := tk_wy k hs hw hy
        rw [hk] at hj hq ⊢
        cases j with
        | zero =>
          have hq0 : q = 0 := by simp at hq; omega
          subst hq0
          have e : (c :: (w ++ y)).take (0 + (c :: w).length) = c :: w := by rw [Nat.zero_add, List.length_cons, List.take_succ_cons, List.take_left]
          show (tk k ((c :: (w ++ y)).take (0 + (c :: w).length) ++ 9 :: b)).take 1 = _
          rw [e, List.cons_append, tk_wy k hs hw (fun s h => by simp at h; subst h; decide)]; rfl
        | succ j =>
          rw [List.getD_cons_succ] at hq
          rw [List.length_cons] at hj
          have hj' : j < (tk (k + 1 + w.length) y).length := by omega
          have hm : (tk (k + 1 + w.length) y).getD j (0, []) ∈ tk (k + 1 + w.length) y := by rw [List.getD_eq_getElem?_getD, List.getElem?_eq_getElem hj']; exact List.getElem_mem hj'
          have hge := tk_ge y.length _ y (Nat.le_refl _) _ hm
          have hpos := (tkok_pos (tk_ok y y.length 0 (by omega)) (k + 1 + w.length)) _ hm
          obtain ⟨q', rfl⟩ : ∃ q', q = q' + (1 + w.length) := ⟨q - (1 + w.length), by omega⟩
          have := ih (k + 1 + w.length) y j q' b (by simp at h; omega) hj' (by omega)
          rw [List.getD_cons_succ]
          generalize ((tk (k + 1 + w.length) y).getD j (0, [])).2.length = len at *
          have e : (c :: (w ++ y)).take (q' + (1 + w.length) + len) = c :: (w ++ y.take (q' + len)) := by
            rw [show q' + (1 + w.length) + len = (w.length + (q' + len)) + 1 by omega, List.take_succ_cons, List.take_append]
            rw [List.take_of_length_le (by omega), show w.length + (q' + len) - w.length = q' + len by omega]
          rw [e, List.cons_append, List.append_assoc, tk_wy k hs hw (fun s h1 => by
            cases y with
            | nil => rw [tk_nil] at hj'; simp at hj'
            | cons s0 y0 =>
              obtain ⟨m, hm2⟩ : ∃ m, q' + len = m + 1 := ⟨q' + len - 1, by omega⟩
              rw [hm2, List.take_succ_cons, List.cons_append] at h1
              exact hy s h1), List.take_succ_cons, this, List.take_succ_cons]
where
  tkok_pos {y : List UInt8} (_h : TkOK y 0 (tk 0 (y.drop 0))) (k : Nat) : ∀ t ∈ tk k y, 0 < t.2.length := by
    intro t ht
    have : ∀ n (k : Nat) (x : List UInt8), x.length ≤ n → ∀ t ∈ tk k x, 0 < t.2.length := by
      intro n
      induction n with
      | zero => intro k x h t ht; have : x = [] := List.length_eq_zero_iff.1 (by omega); subst this; rw [tk_nil] at ht; cases ht
      | succ n ih =>
        intro k x h t ht
        cases x with
        | nil => rw [tk_nil] at ht; cases ht
        | cons c r =>
          rw [List.length_cons] at h
          cases hs : isSp c with
          | true => rw [tk_sp hs] at ht; exact ih (k + 1) r (by omega) t ht
          | false =>
            rw [tk_word hs] at ht
            rcases List.mem_cons.1 ht with rfl | ht
            · simp
            · have hd := (List.dropWhile_sublist noSp (l := r)).length_le
              exact ih _ _ (by omega) t ht
    exact this y.length k y (Nat.le_refl _) t ht
theorem line_cut (m : List UInt8) (j : Nat) (b : List UInt8) (hj : j < (lineTk m).length) :
    (lineTk (m.take (((lineTk m).getD j (0, [])).1 + ((lineTk m).getD j (0, [])).2.length) ++ 9 :: b)).take (j + 1) = (lineTk m).take (j + 1) := by
  have hr : remark m = false := by
    cases e : remark m with
    | false => rfl
    | true => unfold lineTk at hj; rw [e, if_pos rfl] at hj; simp at hj
  have he : lineTk m = tk 0 m := by unfold lineTk; rw [hr]; rfl
  rw [he] at hj ⊢
  have hm : (tk 0 m).getD j (0, []) ∈ tk 0 m := by rw [List.getD_eq_getElem?_getD, List.getElem?_eq_getElem hj]; exact List.getElem_mem hj
  have hpos := tk_cut.tkok_pos (tk_ok m m.length 0 (by omega)) 0 _ hm
  have := tk_cut m.length 0 m j ((tk 0 m).getD j (0, [])).1 b (Nat.le_refl _) hj (by omega)
  generalize hn : ((tk 0 m).getD j (0, [])).1 + ((tk 0 m).getD j (0, [])).2.length = n1 at *
  have hr2 : remark (m.take n1 ++ 9 :: b) = false := by
    cases m with
    | nil => rw [tk_nil] at hj; simp at hj
    | cons c r =>
      obtain ⟨n2, rfl⟩ : ∃ n2, n1 = n2 + 1 := ⟨n1 - 1, by omega⟩
      rw [List.take_succ_cons, List.cons_append]
      unfold remark at hr ⊢
      rw [Bool.or_eq_false_iff] at hr ⊢
      refine ⟨by simp, ?_⟩
      have h2 := hr.2
      cases hp : [99, 32].isPrefixOf (c :: (r.take n2 ++ 9 :: b)) with
      | false => rfl
      | true =>
        exfalso
        simp only [List.isPrefixOf, Bool.and_eq_true, beq_iff_eq] at hp
        cases n2 with
        | zero => simp at hp
        | succ n3 =>
          cases r with
          | nil => simp at hp
          | cons d r =>
            simp at hp
            rw [← hp.1, ← hp.2] at h2
            simp [List.isPrefixOf] at h2
  unfold lineTk
  rw [hr2]; exact this
theorem lns_cons (ln k : Nat) {l : List UInt8} (h : l ≠ []) : lns ln k l = (ln, k, lineTk (l.take (lnLen l))) :: lns (ln + 1) (k + (lnLen l + 1)) (l.drop (lnLen l + 1)) := by
  cases l with
  | nil => exact absurd rfl h
  | cons c r => rw [lns]
theorem take_nonl {l : List UInt8} : ∀ b ∈ l.take (lnLen l), b ≠ 10 := by
  intro b hb
  have e : l.take (lnLen l) = l.takeWhile noNl := by
    unfold lnLen
    have h := List.takeWhile_append_dropWhile (p := noNl) (l := l)
    generalize l.takeWhile noNl = a at *
    generalize l.dropWhile noNl = c at *
    subst h; exact List.take_left
  rw [e] at hb
  have := List.all_eq_true.1 List.all_takeWhile b hb
  unfold noNl at this
  simpa using this
theorem getD_map3 (f : Nat × List UInt8 → Tok3) (ts : List (Nat × List UInt8)) (j : Nat) (hj : j < ts.length) : (ts.map f).getD j tok0 = f (ts.getD j (0, [])) := by
  rw [List.getD_eq_getElem?_getD, List.getD_eq_getElem?_getD, List.getElem?_map, List.getElem?_eq_getElem hj]; rfl
theorem toks_cut (n : Nat) : ∀ (ln k : Nat) (l : List UInt8) (j q : Nat) (b : List UInt8), l.length ≤ n → j < (allT (lns ln k l)).length → ((allT (lns ln k l)).getD j tok0).2.1 = ((k + q : Nat) : Int) →
    (allT (lns ln k (l.take (q + ((allT (lns ln k l)).getD j tok0).2.2.length) ++ 9 :: b))).take (j + 1) = (allT (lns ln k l)).take (j + 1) := by
  induction n with
  | zero => intro ln k l j q b h hj; have : l = [] := List.length_eq_zero_iff.1 (by omega); subst this; rw [lns_nil] at hj; simp [allT] at hj
  | succ n ih =>
    intro ln k l j q b h hj hq
    by_cases hl : l = []
    · subst hl; rw [lns_nil] at hj; simp [allT] at hj
    · have hle := lnLen_le l
      have hnn := take_nonl (l := l)
      have hline := line_ok (l.take (lnLen l))
      have hml : (l.take (lnLen l)).length = lnLen l := by rw [List.length_take]; omega
      have hspl : l = l.take (lnLen l) ++ l.drop (lnLen l) := (List.take_append_drop _ _).symm
      rw [lns_cons ln k hl, allT_cons] at hj hq ⊢
      dsimp only at hj hq ⊢
      by_cases hjr : j < (lineTk (l.take (lnLen l))).length
      · have hjm : j < ((lineTk (l.take (lnLen l))).map fun t => ((ln : Int), (k : Int) + t.1, t.2)).length := by rw [List.length_map]; exact hjr
        have hg : ∀ X : List Tok3, ((((lineTk (l.take (lnLen l))).map fun t => ((ln : Int), (k : Int) + t.1, t.2)) ++ X).getD j tok0) = ((ln : Int), (k : Int) + ((lineTk (l.take (lnLen l))).getD j (0, [])).1, ((lineTk (l.take (lnLen l))).getD j (0, [])).2) := fun X => by
          rw [List.getD_eq_getElem?_getD, List.getElem?_append_left hjm, ← List.getD_eq_getElem?_getD, getD_map3 _ _ _ hjr]
        rw [hg] at hq ⊢
        dsimp only at hq ⊢
        have hq' : q = ((lineTk (l.take (lnLen l))).getD j (0, [])).1 := by omega
        have hcut := fun b => line_cut (l.take (lnLen l)) j b hjr
        have hm : (lineTk (l.take (lnLen l))).getD j (0, []) ∈ lineTk (l.take (lnLen l)) := by rw [List.getD_eq_getElem?_getD, List.getElem?_eq_getElem hjr]; exact List.getElem_mem hjr
        have hfit := tkok_fit hline _ hm
        rw [hml] at hfit
        rw [← hq'] at hcut hfit
        generalize ((lineTk (l.take (lnLen l))).getD j (0, [])).2.length = len at *
        have htt : l.take (q + len) = (l.take (lnLen l)).take (q + len) := by rw [List.take_take, Nat.min_eq_left hfit]
        have hpre : ∀ x ∈ l.take (q + len) ++ [9], x ≠ 10 := fun x hx => by
          rcases List.mem_append.1 hx with hx | hx
          · rw [htt] at hx; exact hnn x (List.mem_of_mem_take hx)
          · simp at hx; subst hx; decide
        obtain ⟨b1, hb1⟩ : ∃ b1, (l.take (q + len) ++ 9 :: b).take (lnLen (l.take (q + len) ++ 9 :: b)) = l.take (q + len) ++ 9 :: b1 := by
          have e : (l.take (q + len) ++ 9 :: b).take (lnLen (l.take (q + len) ++ 9 :: b)) = (l.take (q + len) ++ 9 :: b).takeWhile noNl := by
            unfold lnLen
            generalize l.take (q + len) ++ 9 :: b = z
            have h := List.takeWhile_append_dropWhile (p := noNl) (l := z)
            generalize z.takeWhile noNl = a at *
            generalize z.dropWhile noNl = c at *
            subst h; exact List.take_left
          refine ⟨b.takeWhile noNl, ?_⟩
          rw [e]
          have : ∀ (w y : List UInt8), (∀ x ∈ w, x ≠ 10) → (w ++ y).takeWhile noNl = w ++ y.takeWhile noNl := fun w y hw => by
            induction w with
            | nil => rfl
            | cons x w ih =>
              have hx : noNl x = true := by unfold noNl; simp [hw x (by simp)]
              rw [List.cons_append, List.takeWhile_cons, if_pos hx, ih fun c hc => hw c (by simp [hc])]; rfl
          have h2 := this (l.take (q + len) ++ [9]) b hpre
          simpa using h2
        rw [lns_cons ln k (by simp), allT_cons]
        dsimp only
        rw [hb1, htt]
        have hc := hcut b1
        have hlen1 : j + 1 ≤ (lineTk ((l.take (lnLen l)).take (q + len) ++ 9 :: b1)).length := by
          have := congrArg List.length hc
          rw [List.length_take, List.length_take] at this; omega
        rw [List.take_append_of_le_length (by rw [List.length_map]; exact hlen1), List.take_append_of_le_length (by rw [List.length_map]; exact hjr), ← List.map_take, ← List.map_take, hc]
      · have hjr := Nat.le_of_not_lt hjr
        rw [List.length_append, List.length_map] at hj
        have hr : ∀ X : List Tok3, ((((lineTk (l.take (lnLen l))).map fun t => ((ln : Int), (k : Int) + t.1, t.2)) ++ X).getD j tok0) = X.getD (j - (lineTk (l.take (lnLen l))).length) tok0 := fun X => by
          rw [List.getD_eq_getElem?_getD, List.getElem?_append_right (by rw [List.length_map]; exact hjr), List.length_map, ← List.getD_eq_getElem?_getD]
        rw [hr] at hq ⊢
        have hne : l.drop (lnLen l + 1) ≠ [] := fun e => by rw [e, lns_nil] at hj; simp [allT] at hj; omega
        have hlt : lnLen l < l.length := by
          rcases Nat.lt_or_ge (lnLen l) l.length with h1 | h1
          · exact h1
          · exact absurd (List.drop_of_length_le (by omega)) hne
        have hten := lnLen_at hlt
        have hl2 : l = l.take (lnLen l) ++ 10 :: l.drop (lnLen l + 1) := by
          conv => lhs; rw [hspl]
          rw [drop_at hlt, hten]
        have hge := allT_ge (l.drop (lnLen l + 1)).length (ln + 1) (k + (lnLen l + 1)) (l.drop (lnLen l + 1)) (Nat.le_refl _)
        have hj2 : j - (lineTk (l.take (lnLen l))).length < (allT (lns (ln + 1) (k + (lnLen l + 1)) (l.drop (lnLen l + 1)))).length := by omega
        have hm : (allT (lns (ln + 1) (k + (lnLen l + 1)) (l.drop (lnLen l + 1)))).getD (j - (lineTk (l.take (lnLen l))).length) tok0 ∈ allT (lns (ln + 1) (k + (lnLen l + 1)) (l.drop (lnLen l + 1))) := by rw [List.getD_eq_getElem?_getD, List.getElem?_eq_getElem hj2]; exact List.getElem_mem hj2
        have hge2 := hge _ hm
        obtain ⟨q', rfl⟩ : ∃ q', q = lnLen l + 1 + q' := ⟨q - (lnLen l + 1), by omega⟩
        have hI := ih (ln + 1) (k + (lnLen l + 1)) (l.drop (lnLen l + 1)) (j - (lineTk (l.take (lnLen l))).length) q' b (by rw [List.length_drop]; omega) hj2 (by rw [hq]; congr 1; omega)
        generalize ((allT (lns (ln + 1) (k + (lnLen l + 1)) (l.drop (lnLen l + 1)))).getD (j - (lineTk (l.take (lnLen l))).length) tok0).2.2.length = len at *
        have hcut : l.take (lnLen l + 1 + q' + len) ++ 9 :: b = l.take (lnLen l) ++ 10 :: ((l.drop (lnLen l + 1)).take (q' + len) ++ 9 :: b) := by
          have e : l.take (lnLen l + 1 + q' + len) = l.take (lnLen l) ++ 10 :: (l.drop (lnLen l + 1)).take (q' + len) := by
            generalize hA : l.take (lnLen l) = A at *
            generalize l.drop (lnLen l + 1) = B at *
            generalize lnLen l = a at *
            subst hml
            rw [hl2, List.take_append, List.take_of_length_le (by omega), show A.length + 1 + q' + len - A.length = (q' + len) + 1 by omega, List.take_succ_cons]
          rw [e]; simp
        rw [hcut, lns_line ln k hnn, allT_cons]
        dsimp only
        rw [hml]
        generalize allT (lns (ln + 1) (k + (lnLen l + 1)) ((l.drop (lnLen l + 1)).take (q' + len) ++ 9 :: b)) = A at *
        generalize allT (lns (ln + 1) (k + (lnLen l + 1)) (l.drop (lnLen l + 1))) = B at *
        rw [List.take_append, List.take_append, List.length_map]
        congr 1
        rw [show j + 1 - (lineTk (l.take (lnLen l))).length = j - (lineTk (l.take (lnLen l))).length + 1 by omega]
        exact hI
where
  tkok_fit {m : List UInt8} : ∀ {p : Nat} {ts : List (Nat × List UInt8)}, TkOK m p ts → ∀ t ∈ ts, t.1 + t.2.length ≤ m.length
    | p, [], _, t, h => by cases h
    | p, x :: ts, h, t, ht => by
      rcases List.mem_cons.1 ht with rfl | ht
      · exact h.2.1.fit
      · exact tkok_fit h.2.2 t ht
  allT_ge (n : Nat) : ∀ (ln k : Nat) (l : List UInt8), l.length ≤ n → ∀ t ∈ allT (lns ln k l), (k : Int) ≤ t.2.1 := by
    induction n with
    | zero => intro ln k l h t ht; have : l = [] := List.length_eq_zero_iff.1 (by omega); subst this; rw [lns_nil] at ht; cases ht
    | succ n ih =>
      intro ln k l h t ht
      cases l with
      | nil => rw [lns_nil] at ht; cases ht
      | cons c r =>
        rw [lns, allT_cons] at ht
        rcases List.mem_append.1 ht with ht | ht
        · obtain ⟨x, hx, rfl⟩ := List.mem_map.1 ht
          dsimp only; omega
        · have := ih (ln + 1) _ _ (by rw [List.length_drop]; simp at h ⊢; omega) t ht
          omega
end Go.Proofs.YthgmjboldboclaaDoor
namespace Go.Proofs.YthgmjboldboclaaDoor
open Go.RowKit Go.Lib
set_option linter.unusedVariables false
set_option linter.unusedSimpArgs false
def endV (a : Int) (e : Int) (T : List Tok3) : Int := T.foldl (fun e t => if t.2.1 = a then a + t.2.2.length else e) e
theorem endV_app (a e : Int) (A B : List Tok3) : endV a e (A ++ B) = endV a (endV a e A) B := List.foldl_append
theorem endV_one (a e : Int) (t : Tok3) : endV a e [t] = if t.2.1 = a then a + t.2.2.length else e := rfl
theorem endV_at {a : Int} {L : Nat} : ∀ (T : List Tok3) (e : Int), (∀ t ∈ T, t.2.1 = a → t.2.2.length = L) → endV a e T = if ∃ t ∈ T, t.2.1 = a then a + (L : Int) else e
  | [], e, _ => by simp [endV]
  | t :: T, e, h => by
    have hc : endV a e (t :: T) = endV a (if t.2.1 = a then a + t.2.2.length else e) T := rfl
    rw [hc, endV_at T _ fun x hx => h x (by simp [hx])]
    by_cases h1 : ∃ x ∈ T, x.2.1 = a
    · rw [if_pos h1, if_pos]
      obtain ⟨x, hx, h2⟩ := h1
      exact ⟨x, by simp [hx], h2⟩
    · rw [if_neg h1]
      by_cases h2 : t.2.1 = a
      · rw [if_pos h2, if_pos ⟨t, by simp, h2⟩, h t (by simp) h2]
      · rw [if_neg h2, if_neg]
        rintro ⟨x, hx, h3⟩
        rcases List.mem_cons.1 hx with rfl | hx
        · exact h2 h3
        · exact h1 ⟨x, hx, h3⟩
theorem endV_le {a : Int} {n : Nat} (ha : 0 ≤ a) : ∀ (T : List Tok3) (e : Int), (∀ t ∈ T, t.2.2.length ≤ n) → -1 ≤ e → e ≤ a + n → -1 ≤ endV a e T ∧ endV a e T ≤ a + n
  | [], e, _, h1, h2 => ⟨h1, h2⟩
  | t :: T, e, h, h1, h2 => by
    have ht := h t (by simp)
    refine endV_le ha T _ (fun x hx => h x (by simp [hx])) ?_ ?_
    · dsimp only; split <;> omega
    · dsimp only; split <;> omega
theorem endV_toks {l : List UInt8} {j : Nat} (hj : j < (toks l).length) : endV ((toks l).getD j tok0).2.1 (-1) (toks l) = ((toks l).getD j tok0).2.1 + (((toks l).getD j tok0).2.2.length : Int) := by
  have hm : (toks l).getD j tok0 ∈ toks l := by rw [List.getD_eq_getElem?_getD, List.getElem?_eq_getElem hj]; exact List.getElem_mem hj
  rw [endV_at (L := ((toks l).getD j tok0).2.2.length), if_pos ⟨_, hm, rfl⟩]
  intro t ht h
  obtain ⟨i, hi, rfl⟩ := List.mem_iff_getElem.1 ht
  have e : (toks l).getD i tok0 = (toks l)[i] := by simp [List.getD, hi]
  rw [← e] at h ⊢
  rw [toks_uniq hi hj h]
theorem rowT_snoc (a c : Nat) {ts : List (Nat × List UInt8)} {k : Nat} (h : k < ts.length) : rowT (a, c, ts.take (k + 1)) = rowT (a, c, ts.take k) ++ [((a : Int), (c : Int) + (ts.getD k (0, [])).1, (ts.getD k (0, [])).2)] := by
  unfold rowT
  rw [tk_snocD (0, []) h, List.map_append]; rfl
theorem W830ba {A B : Prop} (h9 : B) (w : B → A := by (intro h9; (repeat intro K hK); refine ⟨?_⟩; (repeat (first | (first | (with_reducible first | refine AX_block ?_ | refine AX_skip ?_ | refine AX_exit ?_ | refine AX_ret ?_ | refine AX_ift ?_ | refine AX_iff ?_ | refine AX_seq_k (fun K hK => ?_) | refine ContX.use (by assumption) ?_) | simp only [thenX, inBlockX, if_true, if_false, reduceCtorEq]) | (first | ((first | (with_reducible refine XRes_op tyOK ?_ ?_) | ((with_reducible first | refine ADF_op tyOK ?_ ?_ ?_ | refine ADX_op tyOK ?_ ?_ ?_); (focus rfl)) | (with_reducible refine ADR_alloc1 tyOK ?_ ?_) | ((with_reducible refine ADR_free1 tyOK ?_ ?_ ?_); (focus rfl)) | ((with_reducible refine ADR_free0 tyOK ?_ ?_ ?_); (focus rfl)) | ((with_reducible refine ADR_read1 tyOK ?_ ?_ ?_); (focus rfl)) | (with_reducible refine ADR_chg1 tyOK ?_ ?_)); (focus (first | (with_reducible rfl) | ((simp (disch := omega) only [go_sem]); done))); simp (disch := omega) only [go_sem , hs1, hs2, hs3, hs4, hs5, hs6, hs7, hs8, hs9, Int.toNat_zero, Int.toNat_one, List.length_nil, ba_toList, beq_self_eq_true, ba_size, ba_app, ba_extract, Int.toNat_natCast, List.drop_zero, Nat.sub_zero, hsz, List.length_append, List.length_cons]; (first | (with_reducible refine XRes_id ?_) | (with_reducible refine ADF_id ?_) | (with_reducible refine ADR_id1 ?_) | (with_reducible refine ADX_id ?_))) | ((first | (with_reducible refine XRes_skip ?_ ?_) | (with_reducible refine ADF_skip (b := true) ?_ ?_) | (with_reducible refine ADX_skip ?_ ?_) | ((with_reducible refine ADR_skip1 ?_ ?_ ?_); (focus rfl))); (focus (first | rfl | ((simp (disch := omega) only [go_sem]); done))); (simp only [putL, List.set_cons_succ, List.set_cons_zero]))) | ((first | (with_reducible refine XRes_nil ?_) | (with_reducible refine ADF_nil ?_) | (with_reducible refine ADR_nil ?_) | (with_reducible refine ADX_nil ?_)); (first | refine hK _ ?_ | refine hK _ _ ?_); clear hK K) | ((first | (with_reducible refine AX_reg0 fun K hK => ?_) | (refine AX_drawG1 tyOK (by kernel_rfl) (by rfl) (by kernel_rfl) fun K hK => ?_) | (refine AX_drawT tyOK (by kernel_rfl) (by decide +kernel) fun K hK => ?_) | (refine AX_drawM1 (by kernel_rfl) (by rfl) (by decide +kernel) fun K hK => ?_) | (refine AX_drawA tyOK (by kernel_rfl) (by decide +kernel) fun K hK => ?_)); (first | simp only [go_sem, preN, effOp, runF, alM, mapOp, alD2, kdOf2, Bool.not_false, Bool.not_true, reduceCtorEq] | simp only [go_sem, preN, effOp, runF, alM, mapOp, Bool.not_false, Bool.not_true, reduceCtorEq] | simp only [go_sem, preN, effOp, runF, alD2, kdOf2, Bool.not_false, Bool.not_true, reduceCtorEq] | simp only [go_sem, alD2, kdOf2, Bool.not_false, Bool.not_true, reduceCtorEq] | simp only [go_sem, preN, effOp, runF, Bool.not_false, Bool.not_true, reduceCtorEq] | simp only [go_sem])) | (first | (first | refine XTL (by rfl) pf_awake06 ?_ | refine ATL tyOK (by rfl) pf_awake06 ?_ | refine XTL (by rfl) hQ1 ?_ | refine ATL tyOK (by rfl) hQ1 ?_ | refine XTL (by rfl) hQ2 ?_ | refine ATL tyOK (by rfl) hQ2 ?_ | refine XTL (by rfl) hL ?_ | refine ATL tyOK (by rfl) hL ?_)))); refine Wk.o ?_; (repeat revert hK K); exact h9)) : A := w h9
set_option maxRecDepth 100000 in
set_option maxHeartbeats 4000000 in
theorem pf_DimacsPlaces (s t : ByteArray) : PF Tryd.prog 6 [lt (.string s), lt (.string t)] fun r H' => r = lt (.bool true) ∧ H' = [] := by
  refine SF.forgetAll ?_
  have hs1 := trivial; have hs2 := trivial; have hs3 := trivial; have hs4 := trivial; have hs5 := trivial; have hs6 := trivial; have hs7 := trivial; have hs8 := trivial; have hs9 := trivial; have hsz := trivial; have hQ1 := trivial; have hQ2 := trivial; have hL := trivial
  obtain ⟨l, rfl⟩ : ∃ l, s = ba l := ⟨s.data.toList, (ba_of s).symm⟩
  obtain ⟨b, rfl⟩ : ∃ l, t = ba l := ⟨t.data.toList, (ba_of t).symm⟩
  by_cases hl : 3000 < l.length
  · have hs1 : decide ((3000 : Int) < (l.length : Int)) = true := decide_eq_true (by omega)
    (refine SF_of_bodyX (aload tt) (aload_ok tyOK) Tryd.func6 rfl (by kernel_rfl) ?_; simp only [Tryd.ntmps6, List.length_cons, List.length_nil, Nat.reduceAdd, Nat.reduceSub, List.replicate_succ, List.replicate_zero, List.cons_append, List.nil_append])
    (refine Wk.o ?_; (repeat revert hK K); refine W830ba ?_; (repeat intro K hK); refine ⟨?_⟩)
    (simp only [bodyX]; refine ⟨_, by simp only [aresults, aresult, XS.as, Tryd.results6, aload, go_sem, Option.bind_some]; rfl, ?_⟩)
    exact ⟨ids_idB rfl, rfl, trivial⟩
  · have hs1 : decide ((3000 : Int) < (l.length : Int)) = false := decide_eq_false (by omega)
    by_cases hb : 300 < b.length
    · have hs2 : decide ((300 : Int) < (b.length : Int)) = true := decide_eq_true (by omega)
      (refine SF_of_bodyX (aload tt) (aload_ok tyOK) Tryd.func6 rfl (by kernel_rfl) ?_; simp only [Tryd.ntmps6, List.length_cons, List.length_nil, Nat.reduceAdd, Nat.reduceSub, List.replicate_succ, List.replicate_zero, List.cons_append, List.nil_append])
      (refine Wk.o ?_; (repeat revert hK K); refine W830ba ?_; (repeat intro K hK); refine ⟨?_⟩)
      (simp only [bodyX]; refine ⟨_, by simp only [aresults, aresult, XS.as, Tryd.results6, aload, go_sem, Option.bind_some]; rfl, ?_⟩)
      exact ⟨ids_idB rfl, rfl, trivial⟩
    · have hs2 : decide ((300 : Int) < (b.length : Int)) = false := decide_eq_false (by omega)
      have hQ1 := pf_prs l (by omega)
      have hpa : _ ∨ _ := parse_at (toks l) (l.length : Int)
      have hpe : pParse (toks l) l.length = prs l := rfl
      rw [hpe] at hpa
      generalize hP : prs l = P at *
      obtain ⟨V1, R1, at1, e1⟩ := P
      dsimp only at hQ1 hpa
      unfold aForm iRows lint at hQ1
      rcases hpa with ⟨h1, rfl⟩ | ⟨h1, h2, j, h3, h4, h5⟩
      · have hs3 : decide ((l.length : Int) < 0) = false := decide_eq_false (by omega)
        have hs4 : decide ((l.length : Int) < (l.length : Int)) = false := decide_eq_false (by omega)
        rcases h1 with rfl | rfl
        · (refine SF_of_bodyX (aload tt) (aload_ok tyOK) Tryd.func6 rfl (by kernel_rfl) ?_; simp only [Tryd.ntmps6, List.length_cons, List.length_nil, Nat.reduceAdd, Nat.reduceSub, List.replicate_succ, List.replicate_zero, List.cons_append, List.nil_append])
          (refine Wk.o ?_; (repeat revert hK K); refine W830ba ?_; (repeat intro K hK); refine ⟨?_⟩)
          (simp only [bodyX]; refine ⟨_, by simp only [aresults, aresult, XS.as, Tryd.results6, aload, go_sem, Option.bind_some]; rfl, ?_⟩)
          exact ⟨ids_idB rfl, rfl, trivial⟩
        · (refine SF_of_bodyX (aload tt) (aload_ok tyOK) Tryd.func6 rfl (by kernel_rfl) ?_; simp only [Tryd.ntmps6, List.length_cons, List.length_nil, Nat.reduceAdd, Nat.reduceSub, List.replicate_succ, List.replicate_zero, List.cons_append, List.nil_append])
          (refine Wk.o ?_; (repeat revert hK K); refine W830ba ?_; (repeat intro K hK); refine ⟨?_⟩)
          (simp only [bodyX]; refine ⟨_, by simp only [aresults, aresult, XS.as, Tryd.results6, aload, go_sem, Option.bind_some]; rfl, ?_⟩)
          exact ⟨ids_idB rfl, rfl, trivial⟩
      · obtain ⟨p, g1, _, g3, g4⟩ := (chain_toks l).get h3
        have hend := endV_toks h3
        have hcut := toks_cut l.length 1 0 l j p b (Nat.le_refl _) h3 (by rw [show ((allT (lns 1 0 l)).getD j tok0).2.1 = (p : Int) from g1]; congr 1; omega)
        have hcut2 := h5 (toks (l.take (p + ((toks l).getD j tok0).2.2.length) ++ 9 :: b)) ((l.take (p + ((toks l).getD j tok0).2.2.length) ++ 9 :: b).length : Int) hcut
        rw [g1] at h4 hend
        subst h4
        generalize hlen : ((toks l).getD j tok0).2.2.length = len at *
        have hQ2 := pf_prs (l.take (p + len) ++ 9 :: b) (by rw [List.length_append, List.length_take, List.length_cons]; omega)
        have hpe2 : pParse (toks (l.take (p + len) ++ 9 :: b)) ((l.take (p + len) ++ 9 :: b).length : Int) = prs (l.take (p + len) ++ 9 :: b) := rfl
        rw [hpe2] at hcut2
        generalize prs (l.take (p + len) ++ 9 :: b) = P2 at *
        obtain ⟨V2, R2, at2, e2⟩ := P2
        dsimp only at hcut2 hQ2
        simp only [Prod.mk.injEq] at hcut2
        obtain ⟨rfl, rfl⟩ := hcut2
        unfold aForm iRows lint at hQ2
        have hL := pf_Lines l (by omega)
        have hrl := (lns_sum l.length 1 0 l (Nat.le_refl _)).2.1
        have hrow := lns_rowlen l
        have htx : ∀ t ∈ toks l, t.2.2.length ≤ 3000 := fun t ht => by have := (allT_len l.length 1 0 l (Nat.le_refl _)).2 t ht; omega
        have hbd : ∀ A, (∀ t ∈ A, t ∈ toks l) → -1 ≤ endV (p : Int) (-1) A ∧ endV (p : Int) (-1) A ≤ p + (3000 : Nat) := fun A hA => endV_le (by omega) A (-1) (fun t ht => htx t (hA t ht)) (by omega) (by omega)
        unfold toks at hend hbd htx
        clear hcut h5 hP hpe hpe2 g1 h3
        generalize lns 1 0 l = rs at *
        have hU : iLn rs = .sl (fun j => rowIV (rs.getD j (0, 0, []))) rs.length 1 := rfl
        rw [hU] at hL
        have hs3 : decide ((p : Int) < 0) = false := decide_eq_false (by omega)
        have hs4 : decide ((l.length : Int) < (p : Int)) = false := decide_eq_false (by omega)
        have hs5 : (e2 == 0) = false := by simpa using h1
        have hs6 : (e2 == 4) = false := by simpa using h2
        have hend0 : (-1 : Int) = endV (p : Int) (-1) (allT (rs.take 0)) := by rw [List.take_zero]; rfl
        (refine SF_of_bodyX (aload tt) (aload_ok tyOK) Tryd.func6 rfl (by kernel_rfl) ?_; simp only [Tryd.ntmps6, List.length_cons, List.length_nil, Nat.reduceAdd, Nat.reduceSub, List.replicate_succ, List.replicate_zero, List.cons_append, List.nil_append])
        (refine Wk.o ?_; (repeat revert hK K); refine W830ba ?_; (repeat intro K hK); refine ⟨?_⟩)
        (refine AWH (σ := Nat × Int) [53, 54, 55, 56, 11, 59, 60, 61, 62, 63, 64, 65, 68, 69, 70, 71, 72, 73, 74, 75, 76, 77, 78, 79, 80, 81, 82, 83, 84, 85, 86, 87, 88, 66, 67, 57, 58] (fun (i, en) => [(10, lint i), (8, lint en)]) (fun (i, en) => [some ⟨25, [lt (.int .i64 V1), .iv (.sl (fun j => iInts (R1.getD j [])) R1.length 1)]⟩]) (fun (i, en) => []) (fun (i, en) => i ≤ rs.length ∧ en = endV (p : Int) (-1) (allT (rs.take i))) (fun (i, en) => rs.length - i) (0, -1) (by first | exact ⟨Nat.zero_le _, hend0⟩) ?_; rintro ⟨i, en⟩ d fr hfr ⟨hi, hen⟩; simp only [updS, deadS, List.set_cons_succ, List.set_cons_zero, lint] at hfr; subst hfr; (try dsimp only))
        by_cases hlt : i < rs.length
        · have hts := hrow i
          have hat := allT_take hlt
          have hsub : ∀ t ∈ allT (rs.take (i + 1)), t ∈ allT rs := fun t ht => by
            unfold allT at ht ⊢
            obtain ⟨x, hx, hx2⟩ := List.mem_flatMap.1 ht
            exact List.mem_flatMap.2 ⟨x, List.mem_of_mem_take hx, hx2⟩
          rcases hr : rs.getD i (0, 0, []) with ⟨a, c, ts⟩
          rw [hr] at hts hat
          dsimp only at hts
          have hs7 : rowIV (rs.getD i (0, 0, [])) = .sl (fun j => .lit ((tkL a c ts).getD j undef)) ts.length 3 := by rw [hr]; rfl
          (refine Wk.o ?_; (repeat revert hK K); refine W830ba ?_; (repeat intro K hK); refine ⟨?_⟩)
          (refine AWH (σ := Nat × Int) [59, 60, 61, 62, 63, 64, 65, 68, 69, 70, 71, 72, 73, 74, 75, 76, 77, 78, 79, 80, 81, 82, 83, 84, 85, 86, 87, 88, 66, 67] (fun (k, en) => [(11, lint k), (8, lint en)]) (fun (k, en) => [some ⟨25, [lt (.int .i64 V1), .iv (.sl (fun j => iInts (R1.getD j [])) R1.length 1)]⟩]) (fun (k, en) => []) (fun (k, en) => k ≤ ts.length ∧ en = endV (p : Int) (-1) (allT (rs.take i) ++ rowT (a, c, ts.take k))) (fun (k, en) => ts.length - k) (0, en) (by first | exact ⟨Nat.zero_le _, by rw [hen]; simp [rowT]⟩) ?_; rintro ⟨k, en⟩ d fr hfr ⟨hk, hen2⟩; simp only [updS, deadS, List.set_cons_succ, List.set_cons_zero, lint] at hfr; subst hfr; (try dsimp only))
          by_cases hlk : k < ts.length
          · obtain ⟨f1, f2, f3⟩ := tkL_at (a := (a : Int)) (b := (c : Int)) hlk
            have hsn := rowT_snoc a c hlk
            have hmem : ((a : Int), (c : Int) + (ts.getD k (0, [])).1, (ts.getD k (0, [])).2) ∈ allT rs := hsub _ (by
              rw [hat]
              refine List.mem_append.2 (.inr ?_)
              unfold rowT
              exact List.mem_map.2 ⟨ts.getD k (0, []), by rw [List.getD_eq_getElem?_getD, List.getElem?_eq_getElem hlk]; exact List.getElem_mem hlk, rfl⟩)
            have htl := htx _ hmem
            rcases ht : ts.getD k (0, []) with ⟨ta, tx⟩
            rw [ht] at f2 f3 hsn htl
            dsimp only at f2 f3 htl
            have hs8 := f2
            have hs9 := f3
            have hnew : endV (p : Int) (-1) (allT (rs.take i) ++ rowT (a, c, ts.take (k + 1))) = if (c : Int) + ta = p then p + (tx.length : Int) else en := by
              rw [hsn, ← List.append_assoc, endV_app, ← hen2, endV_one]
            by_cases hpos : (c : Int) + (ta : Int) = (p : Int)
            · rw [if_pos hpos] at hnew
              have hse : ((c : Int) + (ta : Int) == (p : Int)) = true := by simpa using hpos
              have hs8 : (tkL (a : Int) (c : Int) ts).getD (k * 3 + 1) undef = .int .i64 (p : Int) := by rw [f2, hpos]
              (refine Wk.o ?_; (repeat revert hK K); refine W830ba ?_; (repeat intro K hK); refine ⟨?_⟩)
              exact whx_end (k + 1, p + (tx.length : Int)) ⟨by dsimp only; omega, hnew.symm⟩ (by (first | omega | (dsimp only; omega) | (simp only; omega))) rfl rfl (fun d => by first | ((simp (disch := omega) only [go_sem, lint]); done) | ((simp (disch := omega) only [go_sem, lint]); rfl))
            · rw [if_neg hpos] at hnew
              have hse : ((c : Int) + (ta : Int) == (p : Int)) = false := by simpa using hpos
              generalize hpp : (c : Int) + (ta : Int) = pp at *
              (refine Wk.o ?_; (repeat revert hK K); refine W830ba ?_; (repeat intro K hK); refine ⟨?_⟩)
              exact whx_end (k + 1, en) ⟨by dsimp only; omega, hnew.symm⟩ (by (first | omega | (dsimp only; omega) | (simp only; omega))) rfl rfl (fun d => by first | ((simp (disch := omega) only [go_sem, lint]); done) | ((simp (disch := omega) only [go_sem, lint]); rfl))
          · obtain rfl : k = ts.length := by omega
            rw [List.take_length, ← hat] at hen2
            (refine Wk.o ?_; (repeat revert hK K); refine W830ba ?_; (repeat intro K hK); refine ⟨?_⟩)
            exact whx_end (i + 1, en) ⟨by dsimp only; omega, hen2⟩ (by (first | omega | (dsimp only; omega) | (simp only; omega))) rfl rfl (fun d => by first | ((simp (disch := omega) only [go_sem, lint]); done) | ((simp (disch := omega) only [go_sem, lint]); rfl))
        · obtain rfl : i = rs.length := by omega
          rw [List.take_length, hend] at hen
          subst hen
          have hs7 : decide (((p : Int) + (len : Int)) < 0) = false := decide_eq_false (by omega)
          have hs8 : ((p : Int) + (len : Int)).toNat = p + len := by omega
          have hs9 : (⟨#[9]⟩ : ByteArray) = ba [9] := rfl
          have hsz : (l.take (p + len)).length = p + len := by rw [List.length_take]; omega
          rw [show l.take (p + len) ++ 9 :: b = l.take (p + len) ++ [9] ++ b by simp] at hQ2
          (refine Wk.o ?_; (repeat revert hK K); refine W830ba ?_; (repeat intro K hK); refine ⟨?_⟩)
          (simp only [bodyX]; refine ⟨_, by simp only [aresults, aresult, XS.as, Tryd.results6, aload, go_sem, Option.bind_some]; rfl, ?_⟩)
          exact ⟨ids_idB rfl, rfl, trivial⟩
end Go.Proofs.YthgmjboldboclaaDoor
