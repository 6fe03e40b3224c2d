import Derived.Test.YthgmjboldboclaaDoorMgBW
import Derived.Test.YthgmjboldboclaaDoorMgAN
import Derived.Test.YthgmjboldboclaaDoorMgBX
import Derived.Test.YthgmjboldboclaaDoorMgBE
namespace Go.Proofs.YthgmjboldboclaaDoor
open Go.RowKit Go.Lib
set_option linter.unusedSimpArgs false
structure WordB (w : List UInt8) : Prop where
  ne : w ≠ []
  ok : ∀ b ∈ w, isSp b = false ∧ b ≠ 10 ∧ b ≠ 99
theorem tw_all {r : List UInt8} (h : ∀ b ∈ r, isSp b = false) (rest : List UInt8) : (r ++ 32 :: rest).takeWhile noSp = r ∧ (r ++ 32 :: rest).dropWhile noSp = 32 :: rest := by
  induction r with
  | nil => exact ⟨rfl, rfl⟩
  | cons b r ih =>
    have hb : noSp b = true := by unfold noSp; rw [h b (by simp)]; rfl
    obtain ⟨h1, h2⟩ := ih fun c hc => h c (by simp [hc])
    simp only [List.cons_append, List.takeWhile_cons, List.dropWhile_cons, hb, if_true, h1, h2]
    exact ⟨trivial, trivial⟩
theorem tw_all0 {r : List UInt8} (h : ∀ b ∈ r, isSp b = false) : r.takeWhile noSp = r ∧ r.dropWhile noSp = [] := by
  induction r with
  | nil => exact ⟨rfl, rfl⟩
  | cons b r ih =>
    have hb : noSp b = true := by unfold noSp; rw [h b (by simp)]; rfl
    obtain ⟨h1, h2⟩ := ih fun c hc => h c (by simp [hc])
    simp only [List.takeWhile_cons, List.dropWhile_cons, hb, if_true, h1, h2]
    exact ⟨trivial, trivial⟩
theorem tk_wsp (k : Nat) {w : List UInt8} (hne : w ≠ []) (hw : ∀ b ∈ w, isSp b = false) (rest : List UInt8) : ∃ k2, tk k (w ++ 32 :: rest) = (k, w) :: tk k2 rest := by
  cases w with
  | nil => exact absurd rfl hne
  | cons c r =>
    obtain ⟨h1, h2⟩ := tw_all (r := r) (fun b hb => hw b (by simp [hb])) rest
    rw [List.cons_append, tk_word (hw c (by simp)), h1, h2, tk_sp (by decide)]
    exact ⟨_, rfl⟩
theorem tk_wend (k : Nat) {w : List UInt8} (hne : w ≠ []) (hw : ∀ b ∈ w, isSp b = false) : tk k w = [(k, w)] := by
  cases w with
  | nil => exact absurd rfl hne
  | cons c r =>
    obtain ⟨h1, h2⟩ := tw_all0 (r := r) (fun b hb => hw b (by simp [hb]))
    rw [tk_word (hw c (by simp)), h1, h2, tk_nil]
theorem dg_ok {b : UInt8} (h : isDg b = true ∨ b = 45) : isSp b = false ∧ b ≠ 10 ∧ b ≠ 99 := by
  rcases h with h | rfl
  · have h1 : 48 ≤ b.toNat ∧ b.toNat ≤ 57 := of_decide_eq_true h
    have hne : ∀ c : UInt8, c.toNat < 48 ∨ 57 < c.toNat → b ≠ c := fun c hc e => by subst e; omega
    refine ⟨?_, hne 10 (.inl (by decide)), hne 99 (.inr (by decide))⟩
    have a1 := hne 32 (.inl (by decide)); have a2 := hne 9 (.inl (by decide)); have a3 := hne 13 (.inl (by decide))
    unfold isSp
    rw [beq_eq_false_iff_ne.2 a1, beq_eq_false_iff_ne.2 a2, beq_eq_false_iff_ne.2 a3]; rfl
  · decide
theorem numOk_word {l : List UInt8} (h : numOk l = true) : WordB l := by
  simp only [numOk, Bool.and_eq_true, Bool.not_eq_true', List.isEmpty_eq_false_iff] at h
  obtain ⟨⟨⟨h1, h2⟩, h3⟩, h4⟩ := h
  rw [List.all_eq_true] at h4
  cases l with
  | nil => exact absurd rfl h1
  | cons c r =>
    refine ⟨by simp, fun b hb => dg_ok ?_⟩
    by_cases hc : c = 45
    · subst hc
      rw [magOf_minus] at h4
      rcases List.mem_cons.1 hb with rfl | hb
      · exact .inr rfl
      · exact .inl (h4 b hb)
    · rw [magOf_plain hc] at h4
      exact .inl (h4 b hb)
theorem itoa_word (x : Int) : WordB (itoa x) := numOk_word (itoa_num x).1
theorem zero_word : WordB [48] := ⟨by simp, fun b hb => by simp at hb; subst hb; decide⟩
theorem tk_lits : ∀ (c : List Int) (k : Nat), (tk k (c.flatMap litB ++ [48])).map (·.2) = c.map itoa ++ [[48]]
  | [], k => by rw [List.flatMap_nil, List.nil_append, tk_wend k zero_word.ne fun b hb => (zero_word.ok b hb).1]; rfl
  | x :: c, k => by
    have hw := itoa_word x
    have e : (x :: c).flatMap litB ++ [48] = itoa x ++ 32 :: (c.flatMap litB ++ [48]) := by rw [List.flatMap_cons]; unfold litB; simp
    obtain ⟨k2, h⟩ := tk_wsp k hw.ne (fun b hb => (hw.ok b hb).1) (c.flatMap litB ++ [48])
    rw [e, h, List.map_cons, tk_lits c k2]; rfl
theorem not_remark {b : UInt8} {r : List UInt8} (h : b ≠ 99) : remark (b :: r) = false := by
  unfold remark
  have h1 : ((b :: r) == [99]) = false := by simp [h]
  have h2 : [99, 32].isPrefixOf (b :: r) = false := by simp [List.isPrefixOf, Ne.symm h]
  rw [h1, h2]; rfl
theorem line_tk {m : List UInt8} (h : ∃ b r, m = b :: r ∧ b ≠ 99) : lineTk m = tk 0 m := by
  obtain ⟨b, r, rfl, h⟩ := h
  unfold lineTk; rw [not_remark h]; rfl
theorem lit_line (c : List Int) : (lineTk (c.flatMap litB ++ [48])).map (·.2) = c.map itoa ++ [[48]] := by
  rw [line_tk, tk_lits]
  cases c with
  | nil => exact ⟨48, [], rfl, by decide⟩
  | cons x c =>
    have hw := itoa_word x
    cases hi : itoa x with
    | nil => exact absurd hi hw.ne
    | cons b r =>
      refine ⟨b, r ++ [32] ++ c.flatMap litB ++ [48], ?_, (hw.ok b (by rw [hi]; simp)).2.2⟩
      rw [List.flatMap_cons]; unfold litB; rw [hi]; simp
theorem lnl_at {m : List UInt8} (h : ∀ b ∈ m, b ≠ 10) (rest : List UInt8) : lnLen (m ++ 10 :: rest) = m.length := by
  unfold lnLen
  congr 1
  induction m with
  | nil => rfl
  | cons b m ih =>
    have hb : noNl b = true := by unfold noNl; simp [h b (by simp)]
    rw [List.cons_append, List.takeWhile_cons, if_pos hb, ih fun c hc => h c (by simp [hc])]
theorem lns_line (ln k : Nat) {m : List UInt8} (h : ∀ b ∈ m, b ≠ 10) (rest : List UInt8) : lns ln k (m ++ 10 :: rest) = (ln, k, lineTk m) :: lns (ln + 1) (k + (m.length + 1)) rest := by
  have hl := lnl_at h rest
  obtain ⟨c, r, e⟩ : ∃ c r, m ++ 10 :: rest = c :: r := by cases m with | nil => exact ⟨_, _, rfl⟩ | cons c m => exact ⟨_, _, rfl⟩
  have ht : (m ++ 10 :: rest).take m.length = m := List.take_left
  have hd : (m ++ 10 :: rest).drop (m.length + 1) = rest := by rw [List.drop_append]; simp
  rw [e] at hl ht hd ⊢
  rw [lns, hl, ht, hd]
def txs (T : List Tok3) : List (List UInt8) := T.map (·.2.2)
theorem txs_line (ln k : Nat) {m : List UInt8} (h : ∀ b ∈ m, b ≠ 10) (rest : List UInt8) : ∃ k2, txs (allT (lns ln k (m ++ 10 :: rest))) = (lineTk m).map (·.2) ++ txs (allT (lns (ln + 1) k2 rest)) := by
  refine ⟨k + (m.length + 1), ?_⟩
  rw [lns_line ln k h rest, allT_cons]
  unfold txs
  rw [List.map_append, List.map_map]; rfl
theorem lits_nonl (c : List Int) : ∀ b ∈ c.flatMap litB ++ [48], b ≠ 10 := fun b hb => by
  rcases List.mem_append.1 hb with hb | hb
  · obtain ⟨x, _, hx⟩ := List.mem_flatMap.1 hb
    unfold litB at hx
    rcases List.mem_append.1 hx with hx | hx
    · exact ((itoa_word x).ok b hx).2.1
    · simp at hx; subst hx; decide
  · simp at hb; subst hb; decide
theorem txs_cls : ∀ (R : List (List Int)) (ln k : Nat), txs (allT (lns ln k (R.flatMap clB))) = R.flatMap fun c : List Int => c.map itoa ++ [[48]]
  | [], ln, k => by rw [List.flatMap_nil, lns_nil]; rfl
  | c :: R, ln, k => by
    have e : (c :: R).flatMap clB = (c.flatMap litB ++ [48]) ++ 10 :: R.flatMap clB := by rw [List.flatMap_cons]; unfold clB; simp
    obtain ⟨k2, h⟩ := txs_line ln k (lits_nonl c) (R.flatMap clB)
    rw [e, h, lit_line, txs_cls R (ln + 1) k2, List.flatMap_cons]
theorem head_line (v n : Int) : (lineTk ([112, 32, 99, 110, 102, 32] ++ itoa v ++ [32] ++ itoa n)).map (·.2) = [[112], [99, 110, 102], itoa v, itoa n] := by
  have hv := itoa_word v; have hn := itoa_word n
  have e : [112, 32, 99, 110, 102, 32] ++ itoa v ++ [32] ++ itoa n = [112] ++ 32 :: ([99, 110, 102] ++ 32 :: (itoa v ++ 32 :: itoa n)) := by simp
  have hlt : lineTk ([112] ++ 32 :: ([99, 110, 102] ++ 32 :: (itoa v ++ 32 :: itoa n))) = _ := line_tk ⟨112, 32 :: ([99, 110, 102] ++ 32 :: (itoa v ++ 32 :: itoa n)), rfl, by decide⟩
  rw [e, hlt]
  obtain ⟨k2, h2⟩ := tk_wsp 0 (w := [112]) (by simp) (fun b hb => by simp at hb; subst hb; decide) ([99, 110, 102] ++ 32 :: (itoa v ++ 32 :: itoa n))
  obtain ⟨k3, h3⟩ := tk_wsp k2 (w := [99, 110, 102]) (by simp) (fun b hb => by simp at hb; rcases hb with rfl | rfl | rfl <;> decide) (itoa v ++ 32 :: itoa n)
  obtain ⟨k4, h4⟩ := tk_wsp k3 hv.ne (fun b hb => (hv.ok b hb).1) (itoa n)
  rw [h2, h3, h4, tk_wend k4 hn.ne fun b hb => (hn.ok b hb).1]; rfl
theorem txs_pr (V : Int) (R : List (List Int)) : txs (toks (prB V R)) = [[112], [99, 110, 102], itoa V, itoa R.length] ++ R.flatMap fun c : List Int => c.map itoa ++ [[48]] := by
  have e : prB V R = ([112, 32, 99, 110, 102, 32] ++ itoa V ++ [32] ++ itoa R.length) ++ 10 :: R.flatMap clB := by unfold prB headB; simp
  have hm : ∀ b ∈ [112, 32, 99, 110, 102, 32] ++ itoa V ++ [32] ++ itoa R.length, b ≠ 10 := fun b hb => by
    rcases List.mem_append.1 hb with hb | hb
    · rcases List.mem_append.1 hb with hb | hb
      · rcases List.mem_append.1 hb with hb | hb
        · simp at hb; rcases hb with rfl | rfl | rfl | rfl | rfl | rfl <;> decide
        · exact ((itoa_word V).ok b hb).2.1
      · simp at hb; subst hb; decide
    · exact ((itoa_word _).ok b hb).2.1
  obtain ⟨k2, h⟩ := txs_line 1 0 hm (R.flatMap clB)
  unfold toks
  rw [e, h, head_line, txs_cls]
theorem numR_itoa {x lo hi : Int} (h : lo ≤ x ∧ x ≤ hi) (hf : -9223372036854775808 ≤ x ∧ x ≤ 9223372036854775807) : numR (itoa x) lo hi = (x, 0) := by
  obtain ⟨h1, h2⟩ := itoa_num x
  unfold numR
  rw [h1, h2, if_neg (by simp), if_pos ⟨hf.1, hf.2, h.1, h.2⟩]
theorem numR_zero {V : Int} (hV : 0 ≤ V) : numR [48] (-V) V = (0, 0) := by
  have h1 : numOk [48] = true := by decide
  have h2 : numV [48] = 0 := by decide
  unfold numR
  rw [h1, h2, if_neg (by simp), if_pos (by omega)]
theorem run_cl {V N z : Int} (hV : 0 ≤ V ∧ V ≤ 100000) : ∀ (c d : List Int) (T : List Tok3) (rest : List (List UInt8)) (xss : List (List Int)), txs T = c.map itoa ++ [48] :: rest → GoodC V (d ++ c) → (xss.length : Int) < N →
    ∃ T2, txs T2 = rest ∧ pRun V N z T xss d = pRun V N z T2 (xss ++ [d ++ c]) []
  | [], d, T, rest, xss, hT, hg, hN => by
    cases T with
    | nil => simp [txs] at hT
    | cons t ts =>
      simp only [txs, List.map_cons, List.map_nil, List.nil_append, List.cons.injEq] at hT
      refine ⟨ts, hT.2, ?_⟩
      have hz := numR_zero hV.1
      have hE : litE V d [48] = 0 := by unfold litE; rw [hz]; simp
      rw [pRun_cons, if_neg (by omega), hT.1, if_neg (by rw [hE]; simp), if_pos (by rw [hz]), List.append_nil]
  | x :: c, d, T, rest, xss, hT, hg, hN => by
    cases T with
    | nil => simp [txs] at hT
    | cons t ts =>
      simp only [txs, List.map_cons, List.cons_append, List.cons.injEq] at hT
      have hx := hg.lits x (by simp)
      have hn := numR_itoa (x := x) (lo := -V) (hi := V) hx.2 ⟨by omega, by omega⟩
      have hl := hg.len
      rw [List.length_append, List.length_cons] at hl
      have hnd := hg.nodup
      rw [List.nodup_append] at hnd
      have h1 : x ∉ d := fun h => hnd.2.2 x h x (by simp) rfl
      have h2 : -x ∉ d := fun h => hg.one x (by simp) (by simp [h])
      have hE : litE V d (itoa x) = 0 := by
        unfold litE
        rw [hn, if_neg (by simp), if_neg hx.1, if_neg (by omega), if_neg h1, if_neg h2]
      have hg2 : GoodC V ((d ++ [x]) ++ c) := by rw [List.append_assoc]; exact hg
      obtain ⟨T2, h3, h4⟩ := run_cl hV c (d ++ [x]) ts rest xss hT.2 hg2 hN
      refine ⟨T2, h3, ?_⟩
      rw [pRun_cons, if_neg (by omega), hT.1, if_neg (by rw [hE]; simp), hn, if_neg hx.1, h4, List.append_assoc]; rfl
theorem run_all {V N z : Int} (hV : 0 ≤ V ∧ V ≤ 100000) : ∀ (R : List (List Int)) (T : List Tok3) (xss : List (List Int)), txs T = (R.flatMap fun c : List Int => c.map itoa ++ [[48]]) → (∀ c ∈ R, GoodC V c) → (xss.length : Int) + R.length = N → pRun V N z T xss [] = (xss ++ R, z, 0)
  | [], T, xss, hT, _, hN => by
    have : T = [] := by simpa [txs] using hT
    subst this
    rw [pRun, if_neg (by simp at hN; omega), List.append_nil]
  | c :: R, T, xss, hT, hg, hN => by
    rw [List.flatMap_cons] at hT
    have hN2 := hN
    rw [List.length_cons] at hN2
    obtain ⟨T2, h1, h2⟩ := run_cl (N := N) (z := z) hV c [] T (R.flatMap fun c : List Int => c.map itoa ++ [[48]]) xss (by rw [hT]; simp) (hg c (by simp)) (by omega)
    rw [h2, List.nil_append, run_all hV R T2 (xss ++ [c]) h1 (fun d hd => hg d (by simp [hd])) (by rw [List.length_append]; simp; omega)]
    simp
theorem hdT_txs (T : List Tok3) (i : Nat) : hdT T i = (txs T).getD i [] := by
  unfold hdT txs
  rw [List.getD_eq_getElem?_getD, List.getD_eq_getElem?_getD, List.getElem?_map]
  cases T[i]? <;> rfl
theorem prs_pr {V : Int} {R : List (List Int)} (h : fErr V R = 0) : prs (prB V R) = (V, R, ((prB V R).length : Int), 0) := by
  obtain ⟨hV, hR, hg⟩ := good_of h
  have ht := txs_pr V R
  have hlen : 4 ≤ (toks (prB V R)).length := by
    have := congrArg List.length ht
    simp [txs] at this; omega
  have hx : ∀ i, hdT (toks (prB V R)) i = ([[112], [99, 110, 102], itoa V, itoa R.length] ++ R.flatMap fun c : List Int => c.map itoa ++ [[48]]).getD i [] := fun i => by rw [hdT_txs, ht]
  have nV := numR_itoa (x := V) (lo := 0) (hi := 100000) hV ⟨by omega, by omega⟩
  have nN := numR_itoa (x := (R.length : Int)) (lo := 0) (hi := 1000000) ⟨by omega, by omega⟩ ⟨by omega, by omega⟩
  have e0 : hdE (toks (prB V R)) 0 = 0 := by unfold hdE; rw [if_pos (by omega), hx]; rfl
  have e1 : hdE (toks (prB V R)) 1 = 0 := by unfold hdE; rw [if_pos (by omega), hx]; rfl
  have e2 : hdE (toks (prB V R)) 2 = 0 := by unfold hdE; rw [if_pos (by omega), hx]; show (numR (itoa V) 0 100000).2 = 0; rw [nV]
  have e3 : hdE (toks (prB V R)) 3 = 0 := by unfold hdE; rw [if_pos (by omega), hx]; show (numR (itoa R.length) 0 1000000).2 = 0; rw [nN]
  have hI : hdI (toks (prB V R)) = 4 := by simp [hdI, e0, e1, e2, e3]
  have hv : hdV (toks (prB V R)) = V := by unfold hdV; rw [hx]; show (numR (itoa V) 0 100000).1 = V; rw [nV]
  have hn : hdN (toks (prB V R)) = R.length := by unfold hdN; rw [hx]; show (numR (itoa R.length) 0 1000000).1 = R.length; rw [nN]
  have hd : txs ((toks (prB V R)).drop 4) = R.flatMap fun c : List Int => c.map itoa ++ [[48]] := by
    unfold txs; rw [List.map_drop]; unfold txs at ht; rw [ht]; rfl
  have hr := run_all (z := ((prB V R).length : Int)) (N := (R.length : Int)) hV R _ [] hd hg (by simp)
  unfold prs
  rw [pParse_run hI, hv, hn, hr, if_neg (by simp)]; rfl
theorem lits_sum {c : List Int} (h : ∀ x ∈ c, Fit x) : (clB c).length ≤ c.length * 22 + 2 := clB_len h (Nat.le_refl _)
theorem prB_tot {V : Int} {R : List (List Int)} (hV : Fit V) (hF : ∀ c ∈ R, ∀ x ∈ c, Fit x) (hR : R.length ≤ 1000000) : (prB V R).length ≤ 60 + tot R * 22 + R.length * 2 := by
  have hh := headB_len hV (c := (R.length : Int)) ⟨by omega, by omega⟩
  have hc : ∀ R : List (List Int), (∀ c ∈ R, ∀ x ∈ c, Fit x) → (R.flatMap clB).length ≤ tot R * 22 + R.length * 2 := fun R => by
    induction R with
    | nil => intro _; simp
    | cons c R ih =>
      intro h
      have := ih fun d hd => h d (by simp [hd])
      have := lits_sum (h c (by simp))
      have e : tot (c :: R) = c.length + tot R := by unfold tot; simp
      rw [List.flatMap_cons, List.length_append, List.length_cons, e]; omega
  have := hc R hF
  unfold prB; rw [List.length_append]; omega
end Go.Proofs.YthgmjboldboclaaDoor
namespace Go.Proofs.YthgmjboldboclaaDoor
open Go.RowKit Go.Lib
set_option linter.unusedVariables false
set_option linter.unusedSimpArgs false
theorem short_of {V : Int} {R : List (List Int)} (h : ∀ d ∈ R, GoodC V d) : ShortR R 100000 := fun d hd => Nat.le_trans (h d hd).len (by decide)
theorem fit_of {V : Int} {R : List (List Int)} (hV : 0 ≤ V ∧ V ≤ 100000) (h : ∀ d ∈ R, GoodC V d) : ∀ c ∈ R, ∀ x ∈ c, Fit x := fun c hc x hx => by
  have := (h c hc).lits x hx
  exact ⟨by omega, by omega⟩
theorem back_all {V : Int} {R : List (List Int)} (h : fErr V R = 0) (hl : (prB V R).length ≤ 1000000) :
    (PF Tryd.prog 12 [aForm V R] fun r H' => r = .tup [lt (.string (ba (prB V R))), lint 0] ∧ H' = []) ∧
    (PF Tryd.prog 8 [lt (.string (ba (prB V R)))] fun r H' => r = .tup [aForm V R, lint (prB V R).length, lint 0] ∧ H' = []) ∧
    (PF Tryd.prog 17 [aForm V R, aForm V R] fun r H' => r = lt (.bool true) ∧ H' = []) := by
  obtain ⟨hV, hR, hg⟩ := good_of h
  have hsh := short_of hg
  refine ⟨pf_dPrint V R _ ⟨by omega, by omega⟩ (fit_of hV hg) hR (fun d hd => Nat.le_trans (hsh d hd) (by decide)) hl (pf_chkOk V R hR hsh h), ?_, ?_⟩
  · have := pf_prs (prB V R) hl
    rw [prs_pr h] at this
    exact this
  · have := pf_Same V V R R hR hsh hR hsh
    rwa [show fSame V V R R = true by simp [fSame]] at this
theorem W4c2ea {A B : Prop} (h9 : B) (w : B → A := by (intro h9; (repeat intro K hK); refine ⟨?_⟩; (repeat (first | (first | (with_reducible first | refine AX_block ?_ | refine AX_skip ?_ | refine AX_exit ?_ | refine AX_ret ?_ | refine AX_ift ?_ | refine AX_iff ?_ | refine AX_seq_k (fun K hK => ?_) | refine ContX.use (by assumption) ?_) | simp only [thenX, inBlockX, if_true, if_false, reduceCtorEq]) | (first | ((first | (with_reducible refine XRes_op tyOK ?_ ?_) | ((with_reducible first | refine ADF_op tyOK ?_ ?_ ?_ | refine ADX_op tyOK ?_ ?_ ?_); (focus rfl)) | (with_reducible refine ADR_alloc1 tyOK ?_ ?_) | ((with_reducible refine ADR_free1 tyOK ?_ ?_ ?_); (focus rfl)) | ((with_reducible refine ADR_free0 tyOK ?_ ?_ ?_); (focus rfl)) | ((with_reducible refine ADR_read1 tyOK ?_ ?_ ?_); (focus rfl)) | (with_reducible refine ADR_chg1 tyOK ?_ ?_)); (focus (first | (with_reducible rfl) | ((simp (disch := omega) only [go_sem]); done))); simp (disch := omega) only [go_sem , hs1, hs2, hs3, hs4, hs5, Int.toNat_zero, Int.toNat_one, List.length_nil, ba_toList, beq_self_eq_true, ba_size, bne_self_eq_false]; (first | (with_reducible refine XRes_id ?_) | (with_reducible refine ADF_id ?_) | (with_reducible refine ADR_id1 ?_) | (with_reducible refine ADX_id ?_))) | ((first | (with_reducible refine XRes_skip ?_ ?_) | (with_reducible refine ADF_skip (b := true) ?_ ?_) | (with_reducible refine ADX_skip ?_ ?_) | ((with_reducible refine ADR_skip1 ?_ ?_ ?_); (focus rfl))); (focus (first | rfl | ((simp (disch := omega) only [go_sem]); done))); (simp only [putL, List.set_cons_succ, List.set_cons_zero]))) | ((first | (with_reducible refine XRes_nil ?_) | (with_reducible refine ADF_nil ?_) | (with_reducible refine ADR_nil ?_) | (with_reducible refine ADX_nil ?_)); (first | refine hK _ ?_ | refine hK _ _ ?_); clear hK K) | ((first | (with_reducible refine AX_reg0 fun K hK => ?_) | (refine AX_drawG1 tyOK (by kernel_rfl) (by rfl) (by kernel_rfl) fun K hK => ?_) | (refine AX_drawT tyOK (by kernel_rfl) (by decide +kernel) fun K hK => ?_) | (refine AX_drawM1 (by kernel_rfl) (by rfl) (by decide +kernel) fun K hK => ?_) | (refine AX_drawA tyOK (by kernel_rfl) (by decide +kernel) fun K hK => ?_)); (first | simp only [go_sem, preN, effOp, runF, alM, mapOp, alD2, kdOf2, Bool.not_false, Bool.not_true, reduceCtorEq] | simp only [go_sem, preN, effOp, runF, alM, mapOp, Bool.not_false, Bool.not_true, reduceCtorEq] | simp only [go_sem, preN, effOp, runF, alD2, kdOf2, Bool.not_false, Bool.not_true, reduceCtorEq] | simp only [go_sem, alD2, kdOf2, Bool.not_false, Bool.not_true, reduceCtorEq] | simp only [go_sem, preN, effOp, runF, Bool.not_false, Bool.not_true, reduceCtorEq] | simp only [go_sem])) | (first | (first | refine XTL (by rfl) pf_awake06 ?_ | refine ATL tyOK (by rfl) pf_awake06 ?_ | refine XTL (by rfl) hF ?_ | refine ATL tyOK (by rfl) hF ?_ | refine XTL (by rfl) hP1 ?_ | refine ATL tyOK (by rfl) hP1 ?_ | refine XTL (by rfl) hK1 ?_ | refine ATL tyOK (by rfl) hK1 ?_ | refine XTL (by rfl) hQ1 ?_ | refine ATL tyOK (by rfl) hQ1 ?_ | refine XTL (by rfl) hS1 ?_ | refine ATL tyOK (by rfl) hS1 ?_ | refine XTL (by rfl) hQ2 ?_ | refine ATL tyOK (by rfl) hQ2 ?_ | refine XTL (by rfl) hP2 ?_ | refine ATL tyOK (by rfl) hP2 ?_ | refine XTL (by rfl) hQ3 ?_ | refine ATL tyOK (by rfl) hQ3 ?_ | refine XTL (by rfl) hS2 ?_ | refine ATL tyOK (by rfl) hS2 ?_)))); refine Wk.o ?_; (repeat revert hK K); exact h9)) : A := w h9
set_option maxRecDepth 100000 in
set_option maxHeartbeats 4000000 in
theorem pf_DimacsBack (V : Int) (R : List (List Int)) (s : ByteArray) (hV : Fit V) (hRl : R.length ≤ maxLen) (hRs : ∀ d ∈ R, d.length ≤ maxLen) (hF0 : ∀ d ∈ R, ∀ x ∈ d, Fit x) : PF Tryd.prog 5 [aForm V R, lt (.string s)] fun r H' => r = lt (.bool true) ∧ H' = [] := by
  refine SF.forgetAll ?_
  have hs1 := trivial; have hs2 := trivial; have hs3 := trivial; have hs4 := trivial; have hs5 := trivial; have hF := trivial; have hP1 := trivial; have hK1 := trivial; have hQ1 := trivial; have hS1 := trivial; have hQ2 := trivial; have hP2 := trivial; have hQ3 := trivial; have hS2 := trivial
  obtain ⟨l, rfl⟩ : ∃ l, s = ba l := ⟨s.data.toList, (ba_of s).symm⟩
  have hF := pf_Few V R hRl hRs
  cases hw : fFew R with
  | false =>
    rw [hw] at hF
    unfold aForm iRows lint at *
    (refine SF_of_bodyX (aload tt) (aload_ok tyOK) Tryd.func5 rfl (by kernel_rfl) ?_; simp only [Tryd.ntmps5, List.length_cons, List.length_nil, Nat.reduceAdd, Nat.reduceSub, List.replicate_succ, List.replicate_zero, List.cons_append, List.nil_append])
    (refine Wk.o ?_; (repeat revert hK K); refine W4c2ea ?_; (repeat intro K hK); refine ⟨?_⟩)
    (simp only [bodyX]; refine ⟨_, by simp only [aresults, aresult, XS.as, Tryd.results5, aload, go_sem, Option.bind_some]; rfl, ?_⟩)
    exact ⟨ids_idB rfl, rfl, trivial⟩
  | true =>
    rw [hw] at hF
    by_cases hl : 3000 < l.length
    · have hs1 : decide ((3000 : Int) < (l.length : Int)) = true := decide_eq_true (by omega)
      unfold aForm iRows lint at *
      (refine SF_of_bodyX (aload tt) (aload_ok tyOK) Tryd.func5 rfl (by kernel_rfl) ?_; simp only [Tryd.ntmps5, List.length_cons, List.length_nil, Nat.reduceAdd, Nat.reduceSub, List.replicate_succ, List.replicate_zero, List.cons_append, List.nil_append])
      (refine Wk.o ?_; (repeat revert hK K); refine W4c2ea ?_; (repeat intro K hK); refine ⟨?_⟩)
      (simp only [bodyX]; refine ⟨_, by simp only [aresults, aresult, XS.as, Tryd.results5, aload, go_sem, Option.bind_some]; rfl, ?_⟩)
      exact ⟨ids_idB rfl, rfl, trivial⟩
    · have hs1 : decide ((3000 : Int) < (l.length : Int)) = false := decide_eq_false (by omega)
      unfold fFew at hw
      rw [Bool.and_eq_true, decide_eq_true_iff, List.all_eq_true] at hw
      obtain ⟨h1, h2⟩ := hw
      have h2 : ∀ d ∈ R, d.length ≤ 50 := fun d hd => by simpa using h2 d hd
      have hsh : ShortR R 100000 := fun d hd => Nat.le_trans (h2 d hd) (by decide)
      have hQ2 := pf_prs l (by omega)
      have hok := prs_ok l
      have hb3 := hok.bad
      have hb2 : (prs l).2.2.2 = 0 → _ := fun _ => back_all (V := (prs l).1) (R := (prs l).2.1) (fErr_good hok.vars (by have := hok.len; omega) hok.good) (by
        have h3 := prB_tot (V := (prs l).1) (R := (prs l).2.1) ⟨by have := hok.vars; omega, by have := hok.vars; omega⟩ (fit_of hok.vars hok.good) (by have := hok.len; omega)
        have := hok.len; have := hok.tot; omega)
      clear hok
      generalize prs l = P at *
      obtain ⟨V2, R2, at2, e2⟩ := P
      dsimp only at hQ2 hb3 hb2
      have hK1 := pf_Check V R (by omega) hsh
      by_cases he : fErr V R = 0
      · obtain ⟨hP1, hQ1, hS1⟩ := back_all he (prB_len hV hF0 h1 h2)
        rw [he] at hK1
        clear he
        generalize prB V R = pr at *
        generalize fAt V R = a1 at *
        by_cases he2 : e2 = 0
        · subst he2
          obtain ⟨hP2, hQ3, hS2⟩ := hb2 rfl
          generalize prB V2 R2 = pr2 at *
          have hs3 : ((0 : Int) != 0) = false := by decide
          unfold aForm iRows lint at *
          (refine SF_of_bodyX (aload tt) (aload_ok tyOK) Tryd.func5 rfl (by kernel_rfl) ?_; simp only [Tryd.ntmps5, List.length_cons, List.length_nil, Nat.reduceAdd, Nat.reduceSub, List.replicate_succ, List.replicate_zero, List.cons_append, List.nil_append])
          (refine Wk.o ?_; (repeat revert hK K); refine W4c2ea ?_; (repeat intro K hK); refine ⟨?_⟩)
          (simp only [bodyX]; refine ⟨_, by simp only [aresults, aresult, XS.as, Tryd.results5, aload, go_sem, Option.bind_some]; rfl, ?_⟩)
          exact ⟨ids_idB rfl, rfl, trivial⟩
        · obtain ⟨rfl, rfl⟩ := hb3 he2
          have hs3 : (e2 != 0) = true := by simpa using he2
          clear hb2
          unfold aForm iRows lint at *
          (refine SF_of_bodyX (aload tt) (aload_ok tyOK) Tryd.func5 rfl (by kernel_rfl) ?_; simp only [Tryd.ntmps5, List.length_cons, List.length_nil, Nat.reduceAdd, Nat.reduceSub, List.replicate_succ, List.replicate_zero, List.cons_append, List.nil_append])
          (refine Wk.o ?_; (repeat revert hK K); refine W4c2ea ?_; (repeat intro K hK); refine ⟨?_⟩)
          (simp only [bodyX]; refine ⟨_, by simp only [aresults, aresult, XS.as, Tryd.results5, aload, go_sem, Option.bind_some]; rfl, ?_⟩)
          exact ⟨ids_idB rfl, rfl, trivial⟩
      · have hP1 := pf_dPrintNo V R _ _ he hK1
        have hs2 : (fErr V R == 0) = false := by simpa using he
        generalize fErr V R = e at *
        generalize fAt V R = a1 at *
        by_cases he2 : e2 = 0
        · subst he2
          obtain ⟨hP2, hQ3, hS2⟩ := hb2 rfl
          generalize prB V2 R2 = pr2 at *
          have hs3 : ((0 : Int) != 0) = false := by decide
          unfold aForm iRows lint at *
          (refine SF_of_bodyX (aload tt) (aload_ok tyOK) Tryd.func5 rfl (by kernel_rfl) ?_; simp only [Tryd.ntmps5, List.length_cons, List.length_nil, Nat.reduceAdd, Nat.reduceSub, List.replicate_succ, List.replicate_zero, List.cons_append, List.nil_append])
          (refine Wk.o ?_; (repeat revert hK K); refine W4c2ea ?_; (repeat intro K hK); refine ⟨?_⟩)
          (simp only [bodyX]; refine ⟨_, by simp only [aresults, aresult, XS.as, Tryd.results5, aload, go_sem, Option.bind_some]; rfl, ?_⟩)
          exact ⟨ids_idB rfl, rfl, trivial⟩
        · obtain ⟨rfl, rfl⟩ := hb3 he2
          have hs3 : (e2 != 0) = true := by simpa using he2
          clear hb2
          unfold aForm iRows lint at *
          (refine SF_of_bodyX (aload tt) (aload_ok tyOK) Tryd.func5 rfl (by kernel_rfl) ?_; simp only [Tryd.ntmps5, List.length_cons, List.length_nil, Nat.reduceAdd, Nat.reduceSub, List.replicate_succ, List.replicate_zero, List.cons_append, List.nil_append])
          (refine Wk.o ?_; (repeat revert hK K); refine W4c2ea ?_; (repeat intro K hK); refine ⟨?_⟩)
          (simp only [bodyX]; refine ⟨_, by simp only [aresults, aresult, XS.as, Tryd.results5, aload, go_sem, Option.bind_some]; rfl, ?_⟩)
          exact ⟨ids_idB rfl, rfl, trivial⟩
end Go.Proofs.YthgmjboldboclaaDoor
namespace Go.Proofs.YthgmjboldboclaaDoor
open Go.RowKit
set_option linter.unusedVariables false
theorem ra_formB {W : World} [BaseAt fun b => W.heap[b]?] {vars : Int} {a : Option Addr} {len cap : Nat} {xss : List (List Int)} (h : Rows2 W a len xss) (h1 : len ≤ cap) (h2 : cap ≤ maxLen) : RA 0 (Gh.of W) (aForm vars xss) (.agg #[.int .i64 vars, .slice a len cap]) :=
  RA.agg [lint vars, .iv (iRows xss)] [.int .i64 vars, .slice a len cap] rfl (fun i x v e e' => by
    rcases i with _ | _ | i
    · simp at e e'; subst e e'; exact .iv _ _ (.lit _)
    · simp at e e'; subst e e'; exact .iv _ _ (ri_rows h h1 h2)
    · simp at e) rfl
theorem rows_shortB {W : World} {a : Option Addr} {len : Nat} {xss : List (List Int)} (h : Rows2 W a len xss) : ∀ xs ∈ xss, xs.length ≤ maxLen := by
  obtain ⟨h1, h2, h3⟩ := h
  intro xs hx
  obtain ⟨i, hi, rfl⟩ := List.getElem_of_mem hx
  obtain ⟨b, off, u, e, hc, a2, l2, c2, rfl, k1, k2, k3⟩ := h3 i (by omega)
  have := k3.1
  rw [List.getD_eq_getElem?_getD, List.getElem?_eq_getElem hi] at this
  simp only [Option.getD_some] at this
  omega
theorem fit_wfB {x : Int} (h : (Lit.int .i64 x).wf = true) : Fit x := by
  have e1 : IntKind.i64.min = -9223372036854775808 := by decide
  have e2 : IntKind.i64.max = 9223372036854775807 := by decide
  unfold Fit; simpa [Lit.wf, e1, e2] using h
theorem dimacsBack_walk (w : World) (hB : BaseAt fun b => w.heap[b]?) (V : Int) (wV : (Lit.int .i64 V).wf = true) (a : Option Addr) (len cap : Nat) (R : List (List Int)) (hr : Rows2 w a len R) (hf : FitsR R) (hcap : len ≤ cap ∧ cap ≤ maxLen ∧ (a = none → cap = 0)) (s : ByteArray) (hs : s.size ≤ maxLen) :
    Calls Tryd.prog 5 #[.agg #[.int .i64 V, .slice a len cap], .string s] w fun e w' => e = .returned (.bool true) ∧ Below w.heap.size w w' :=
  haveI := hB
  law_of (SF.mono (pf_DimacsBack V R s (fit_wfB wV) (by have := hr.1; have := hr.2.1; omega) (rows_shortB hr) (fun d hd x hx => hf d hd x hx)) fun r H' h => h.1) w _ (RL.cons (ra_formB hr hcap.1 hcap.2.1) (RL.cons (.iv _ _ (.lit _)) (RL.nil _ _)))
end Go.Proofs.YthgmjboldboclaaDoor
