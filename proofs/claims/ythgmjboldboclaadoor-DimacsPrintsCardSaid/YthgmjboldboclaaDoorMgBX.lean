import Derived.Test.YthgmjboldboclaaDoorMgBW
import Derived.Test.YthgmjboldboclaaDoorMgBE
import Derived.Test.YthgmjboldboclaaDoorMgAN
namespace Go.Proofs.YthgmjboldboclaaDoor
open Go.RowKit
set_option linter.unusedVariables false
theorem dimacsReads_walk (w : World) (hB : BaseAt fun b => w.heap[b]?) (s : ByteArray) (hs : s.size ≤ maxLen) :
    Calls Tryd.prog 3 #[.string s] w fun e w' => e = .returned (.bool true) ∧ Below w.heap.size w w' :=
  haveI := hB
  law_of (SF.mono (pf_DimacsReads s) fun r H' h => h.1) w _ (RL.cons (.iv _ _ (.lit _)) (RL.nil _ _))
end Go.Proofs.YthgmjboldboclaaDoor
namespace Go.Proofs.YthgmjboldboclaaDoor
open Go.RowKit
set_option linter.unusedVariables false
theorem ra_form6 {W : World} [BaseAt fun b => W.heap[b]?] {vars : Int} {a : Option Addr} {len cap : Nat} {xss : List (List Int)} (h : Rows2 W a len xss) (h1 : len ≤ cap) (h2 : cap ≤ maxLen) : RA 0 (Gh.of W) (aForm vars xss) (.agg #[.int .i64 vars, .slice a len cap]) :=
  RA.agg [lint vars, .iv (iRows xss)] [.int .i64 vars, .slice a len cap] rfl (fun i x v e e' => by
    rcases i with _ | _ | i
    · simp at e e'; subst e e'; exact .iv _ _ (.lit _)
    · simp at e e'; subst e e'; exact .iv _ _ (ri_rows h h1 h2)
    · simp at e) rfl
theorem rows_short6 {W : World} {a : Option Addr} {len : Nat} {xss : List (List Int)} (h : Rows2 W a len xss) : ∀ xs ∈ xss, xs.length ≤ maxLen := by
  obtain ⟨h1, h2, h3⟩ := h
  intro xs hx
  obtain ⟨i, hi, rfl⟩ := List.getElem_of_mem hx
  obtain ⟨b, off, u, e, hc, a2, l2, c2, rfl, k1, k2, k3⟩ := h3 i (by omega)
  have := k3.1
  rw [List.getD_eq_getElem?_getD, List.getElem?_eq_getElem hi] at this
  simp only [Option.getD_some] at this
  omega
theorem fit_wf {x : Int} (h : (Lit.int .i64 x).wf = true) : Fit x := by
  have e1 : IntKind.i64.min = -9223372036854775808 := by decide
  have e2 : IntKind.i64.max = 9223372036854775807 := by decide
  unfold Fit; simpa [Lit.wf, e1, e2] using h
theorem dimacsPrints_walk (w : World) (hB : BaseAt fun b => w.heap[b]?) (V : Int) (wV : (Lit.int .i64 V).wf = true) (a : Option Addr) (len cap : Nat) (R : List (List Int)) (hr : Rows2 w a len R) (hf : FitsR R) (hcap : len ≤ cap ∧ cap ≤ maxLen ∧ (a = none → cap = 0)) (v : Int) (wv : (Lit.int .i64 v).wf = true) (c : Int) (wc : (Lit.int .i64 c).wf = true) :
    Calls Tryd.prog 4 #[.agg #[.int .i64 V, .slice a len cap], .int .i64 v, .int .i64 c] w fun e w' => e = .returned (.bool true) ∧ Below w.heap.size w w' :=
  haveI := hB
  law_of (SF.mono (pf_DimacsPrints V R v c (fit_wf wV) (fit_wf wv) (fit_wf wc) (by have := hr.1; have := hr.2.1; omega) (rows_short6 hr) (fun d hd x hx => hf d hd x hx)) fun r H' h => h.1) w _ (RL.cons (ra_form6 hr hcap.1 hcap.2.1) (RL.cons (.iv _ _ (.lit _)) (RL.cons (.iv _ _ (.lit _)) (RL.nil _ _))))
end Go.Proofs.YthgmjboldboclaaDoor
namespace Go.Proofs.YthgmjboldboclaaDoor
open Go.RowKit Go.Lib
set_option linter.unusedSimpArgs false
structure WordB (w : List UInt8) : Prop where
  ne : w ≠ []
  ok : ∀ b ∈ w, isSp b = false ∧ b ≠ 10 ∧ b ≠ 99
theorem tw_all {r : List UInt8} (h : ∀ b ∈ r, isSp b = false) (rest : List UInt8) : (r ++ 32 :: rest).takeWhile noSp = r ∧ (r ++ 32 :: rest).dropWhile noSp = 32 :: rest := by
  induction r with
  | nil => exact ⟨rfl, rfl⟩
  | cons b r ih =>
    have hb : noSp b = true := by unfold noSp; rw [h b (by simp)]; rfl
    obtain ⟨h1, h2⟩ := ih fun c hc => h c (by simp [hc])
    simp only [List.cons_append, List.takeWhile_cons, List.dropWhile_cons, hb, if_true, h1, h2]
    exact ⟨trivial, trivial⟩
theorem tw_all0 {r : List UInt8} (h : ∀ b ∈ r, isSp b = false) : r.takeWhile noSp = r ∧ r.dropWhile noSp = [] := by
  induction r with
  | nil => exact ⟨rfl, rfl⟩
  | cons b r ih =>
    have hb : noSp b = true := by unfold noSp; rw [h b (by simp)]; rfl
    obtain ⟨h1, h2⟩ := ih fun c hc => h c (by simp [hc])
    simp only [List.takeWhile_cons, List.dropWhile_cons, hb, if_true, h1, h2]
    exact ⟨trivial, trivial⟩
theorem tk_wsp (k : Nat) {w : List UInt8} (hne : w ≠ []) (hw : ∀ b ∈ w, isSp b = false) (rest : List UInt8) : ∃ k2, tk k (w ++ 32 :: rest) = (k, w) :: tk k2 rest := by
  cases w with
  | nil => exact absurd rfl hne
  | cons c r =>
    obtain ⟨h1, h2⟩ := tw_all (r := r) (fun b hb => hw b (by simp [hb])) rest
    rw [List.cons_append, tk_word (hw c (by simp)), h1, h2, tk_sp (by decide)]
    exact ⟨_, rfl⟩
theorem tk_wend (k : Nat) {w : List UInt8} (hne : w ≠ []) (hw : ∀ b ∈ w, isSp b = false) : tk k w = [(k, w)] := by
  cases w with
  | nil => exact absurd rfl hne
  | cons c r =>
    obtain ⟨h1, h2⟩ := tw_all0 (r := r) (fun b hb => hw b (by simp [hb]))
    rw [tk_word (hw c (by simp)), h1, h2, tk_nil]
theorem dg_ok {b : UInt8} (h : isDg b = true ∨ b = 45) : isSp b = false ∧ b ≠ 10 ∧ b ≠ 99 := by
  rcases h with h | rfl
  · have h1 : 48 ≤ b.toNat ∧ b.toNat ≤ 57 := of_decide_eq_true h
    have hne : ∀ c : UInt8, c.toNat < 48 ∨ 57 < c.toNat → b ≠ c := fun c hc e => by subst e; omega
    refine ⟨?_, hne 10 (.inl (by decide)), hne 99 (.inr (by decide))⟩
    have a1 := hne 32 (.inl (by decide)); have a2 := hne 9 (.inl (by decide)); have a3 := hne 13 (.inl (by decide))
    unfold isSp
    rw [beq_eq_false_iff_ne.2 a1, beq_eq_false_iff_ne.2 a2, beq_eq_false_iff_ne.2 a3]; rfl
  · decide
theorem numOk_word {l : List UInt8} (h : numOk l = true) : WordB l := by
  simp only [numOk, Bool.and_eq_true, Bool.not_eq_true', List.isEmpty_eq_false_iff] at h
  obtain ⟨⟨⟨h1, h2⟩, h3⟩, h4⟩ := h
  rw [List.all_eq_true] at h4
  cases l with
  | nil => exact absurd rfl h1
  | cons c r =>
    refine ⟨by simp, fun b hb => dg_ok ?_⟩
    by_cases hc : c = 45
    · subst hc
      rw [magOf_minus] at h4
      rcases List.mem_cons.1 hb with rfl | hb
      · exact .inr rfl
      · exact .inl (h4 b hb)
    · rw [magOf_plain hc] at h4
      exact .inl (h4 b hb)
theorem itoa_word (x : Int) : WordB (itoa x) := numOk_word (itoa_num x).1
theorem zero_word : WordB [48] := ⟨by simp, fun b hb => by simp at hb; subst hb; decide⟩
theorem tk_lits : ∀ (c : List Int) (k : Nat), (tk k (c.flatMap litB ++ [48])).map (·.2) = c.map itoa ++ [[48]]
  | [], k => by rw [List.flatMap_nil, List.nil_append, tk_wend k zero_word.ne fun b hb => (zero_word.ok b hb).1]; rfl
  | x :: c, k => by
    have hw := itoa_word x
    have e : (x :: c).flatMap litB ++ [48] = itoa x ++ 32 :: (c.flatMap litB ++ [48]) := by rw [List.flatMap_cons]; unfold litB; simp
    obtain ⟨k2, h⟩ := tk_wsp k hw.ne (fun b hb => (hw.ok b hb).1) (c.flatMap litB ++ [48])
    rw [e, h, List.map_cons, tk_lits c k2]; rfl
theorem not_remark {b : UInt8} {r : List UInt8} (h : b ≠ 99) : remark (b :: r) = false := by
  unfold remark
  have h1 : ((b :: r) == [99]) = false := by simp [h]
  have h2 : [99, 32].isPrefixOf (b :: r) = false := by simp [List.isPrefixOf, Ne.symm h]
  rw [h1, h2]; rfl
theorem line_tk {m : List UInt8} (h : ∃ b r, m = b :: r ∧ b ≠ 99) : lineTk m = tk 0 m := by
  obtain ⟨b, r, rfl, h⟩ := h
  unfold lineTk; rw [not_remark h]; rfl
theorem lit_line (c : List Int) : (lineTk (c.flatMap litB ++ [48])).map (·.2) = c.map itoa ++ [[48]] := by
  rw [line_tk, tk_lits]
  cases c with
  | nil => exact ⟨48, [], rfl, by decide⟩
  | cons x c =>
    have hw := itoa_word x
    cases hi : itoa x with
    | nil => exact absurd hi hw.ne
    | cons b r =>
      refine ⟨b, r ++ [32] ++ c.flatMap litB ++ [48], ?_, (hw.ok b (by rw [hi]; simp)).2.2⟩
      rw [List.flatMap_cons]; unfold litB; rw [hi]; simp
theorem lnl_at {m : List UInt8} (h : ∀ b ∈ m, b ≠ 10) (rest : List UInt8) : lnLen (m ++ 10 :: rest) = m.length := by
  unfold lnLen
  congr 1
  induction m with
  | nil => rfl
  | cons b m ih =>
    have hb : noNl b = true := by unfold noNl; simp [h b (by simp)]
    rw [List.cons_append, List.takeWhile_cons, if_pos hb, ih fun c hc => h c (by simp [hc])]
theorem lns_line (ln k : Nat) {m : List UInt8} (h : ∀ b ∈ m, b ≠ 10) (rest : List UInt8) : lns ln k (m ++ 10 :: rest) = (ln, k, lineTk m) :: lns (ln + 1) (k + (m.length + 1)) rest := by
  have hl := lnl_at h rest
  obtain ⟨c, r, e⟩ : ∃ c r, m ++ 10 :: rest = c :: r := by cases m with | nil => exact ⟨_, _, rfl⟩ | cons c m => exact ⟨_, _, rfl⟩
  have ht : (m ++ 10 :: rest).take m.length = m := List.take_left
  have hd : (m ++ 10 :: rest).drop (m.length + 1) = rest := by rw [List.drop_append]; simp
  rw [e] at hl ht hd ⊢
  rw [lns, hl, ht, hd]
def txs (T : List Tok3) : List (List UInt8) := T.map (·.2.2)
theorem txs_line (ln k : Nat) {m : List UInt8} (h : ∀ b ∈ m, b ≠ 10) (rest : List UInt8) : ∃ k2, txs (allT (lns ln k (m ++ 10 :: rest))) = (lineTk m).map (·.2) ++ txs (allT (lns (ln + 1) k2 rest)) := by
  refine ⟨k + (m.length + 1), ?_⟩
  rw [lns_line ln k h rest, allT_cons]
  unfold txs
  rw [List.map_append, List.map_map]; rfl
theorem lits_nonl (c : List Int) : ∀ b ∈ c.flatMap litB ++ [48], b ≠ 10 := fun b hb => by
  rcases List.mem_append.1 hb with hb | hb
  · obtain ⟨x, _, hx⟩ := List.mem_flatMap.1 hb
    unfold litB at hx
    rcases List.mem_append.1 hx with hx | hx
    · exact ((itoa_word x).ok b hx).2.1
    · simp at hx; subst hx; decide
  · simp at hb; subst hb; decide
theorem txs_cls : ∀ (R : List (List Int)) (ln k : Nat), txs (allT (lns ln k (R.flatMap clB))) = R.flatMap fun c : List Int => c.map itoa ++ [[48]]
  | [], ln, k => by rw [List.flatMap_nil, lns_nil]; rfl
  | c :: R, ln, k => by
    have e : (c :: R).flatMap clB = (c.flatMap litB ++ [48]) ++ 10 :: R.flatMap clB := by rw [List.flatMap_cons]; unfold clB; simp
    obtain ⟨k2, h⟩ := txs_line ln k (lits_nonl c) (R.flatMap clB)
    rw [e, h, lit_line, txs_cls R (ln + 1) k2, List.flatMap_cons]
theorem head_line (v n : Int) : (lineTk ([112, 32, 99, 110, 102, 32] ++ itoa v ++ [32] ++ itoa n)).map (·.2) = [[112], [99, 110, 102], itoa v, itoa n] := by
  have hv := itoa_word v; have hn := itoa_word n
  have e : [112, 32, 99, 110, 102, 32] ++ itoa v ++ [32] ++ itoa n = [112] ++ 32 :: ([99, 110, 102] ++ 32 :: (itoa v ++ 32 :: itoa n)) := by simp
  have hlt : lineTk ([112] ++ 32 :: ([99, 110, 102] ++ 32 :: (itoa v ++ 32 :: itoa n))) = _ := line_tk ⟨112, 32 :: ([99, 110, 102] ++ 32 :: (itoa v ++ 32 :: itoa n)), rfl, by decide⟩
  rw [e, hlt]
  obtain ⟨k2, h2⟩ := tk_wsp 0 (w := [112]) (by simp) (fun b hb => by simp at hb; subst hb; decide) ([99, 110, 102] ++ 32 :: (itoa v ++ 32 :: itoa n))
  obtain ⟨k3, h3⟩ := tk_wsp k2 (w := [99, 110, 102]) (by simp) (fun b hb => by simp at hb; rcases hb with rfl | rfl | rfl <;> decide) (itoa v ++ 32 :: itoa n)
  obtain ⟨k4, h4⟩ := tk_wsp k3 hv.ne (fun b hb => (hv.ok b hb).1) (itoa n)
  rw [h2, h3, h4, tk_wend k4 hn.ne fun b hb => (hn.ok b hb).1]; rfl
theorem txs_pr (V : Int) (R : List (List Int)) : txs (toks (prB V R)) = [[112], [99, 110, 102], itoa V, itoa R.length] ++ R.flatMap fun c : List Int => c.map itoa ++ [[48]] := by
  have e : prB V R = ([112, 32, 99, 110, 102, 32] ++ itoa V ++ [32] ++ itoa R.length) ++ 10 :: R.flatMap clB := by unfold prB headB; simp
  have hm : ∀ b ∈ [112, 32, 99, 110, 102, 32] ++ itoa V ++ [32] ++ itoa R.length, b ≠ 10 := fun b hb => by
    rcases List.mem_append.1 hb with hb | hb
    · rcases List.mem_append.1 hb with hb | hb
      · rcases List.mem_append.1 hb with hb | hb
        · simp at hb; rcases hb with rfl | rfl | rfl | rfl | rfl | rfl <;> decide
        · exact ((itoa_word V).ok b hb).2.1
      · simp at hb; subst hb; decide
    · exact ((itoa_word _).ok b hb).2.1
  obtain ⟨k2, h⟩ := txs_line 1 0 hm (R.flatMap clB)
  unfold toks
  rw [e, h, head_line, txs_cls]
theorem numR_itoa {x lo hi : Int} (h : lo ≤ x ∧ x ≤ hi) (hf : -9223372036854775808 ≤ x ∧ x ≤ 9223372036854775807) : numR (itoa x) lo hi = (x, 0) := by
  obtain ⟨h1, h2⟩ := itoa_num x
  unfold numR
  rw [h1, h2, if_neg (by simp), if_pos ⟨hf.1, hf.2, h.1, h.2⟩]
theorem numR_zero {V : Int} (hV : 0 ≤ V) : numR [48] (-V) V = (0, 0) := by
  have h1 : numOk [48] = true := by decide
  have h2 : numV [48] = 0 := by decide
  unfold numR
  rw [h1, h2, if_neg (by simp), if_pos (by omega)]
theorem run_cl {V N z : Int} (hV : 0 ≤ V ∧ V ≤ 100000) : ∀ (c d : List Int) (T : List Tok3) (rest : List (List UInt8)) (xss : List (List Int)), txs T = c.map itoa ++ [48] :: rest → GoodC V (d ++ c) → (xss.length : Int) < N →
    ∃ T2, txs T2 = rest ∧ pRun V N z T xss d = pRun V N z T2 (xss ++ [d ++ c]) []
  | [], d, T, rest, xss, hT, hg, hN => by
    cases T with
    | nil => simp [txs] at hT
    | cons t ts =>
      simp only [txs, List.map_cons, List.map_nil, List.nil_append, List.cons.injEq] at hT
      refine ⟨ts, hT.2, ?_⟩
      have hz := numR_zero hV.1
      have hE : litE V d [48] = 0 := by unfold litE; rw [hz]; simp
      rw [pRun_cons, if_neg (by omega), hT.1, if_neg (by rw [hE]; simp), if_pos (by rw [hz]), List.append_nil]
  | x :: c, d, T, rest, xss, hT, hg, hN => by
    cases T with
    | nil => simp [txs] at hT
    | cons t ts =>
      simp only [txs, List.map_cons, List.cons_append, List.cons.injEq] at hT
      have hx := hg.lits x (by simp)
      have hn := numR_itoa (x := x) (lo := -V) (hi := V) hx.2 ⟨by omega, by omega⟩
      have hl := hg.len
      rw [List.length_append, List.length_cons] at hl
      have hnd := hg.nodup
      rw [List.nodup_append] at hnd
      have h1 : x ∉ d := fun h => hnd.2.2 x h x (by simp) rfl
      have h2 : -x ∉ d := fun h => hg.one x (by simp) (by simp [h])
      have hE : litE V d (itoa x) = 0 := by
        unfold litE
        rw [hn, if_neg (by simp), if_neg hx.1, if_neg (by omega), if_neg h1, if_neg h2]
      have hg2 : GoodC V ((d ++ [x]) ++ c) := by rw [List.append_assoc]; exact hg
      obtain ⟨T2, h3, h4⟩ := run_cl hV c (d ++ [x]) ts rest xss hT.2 hg2 hN
      refine ⟨T2, h3, ?_⟩
      rw [pRun_cons, if_neg (by omega), hT.1, if_neg (by rw [hE]; simp), hn, if_neg hx.1, h4, List.append_assoc]; rfl
theorem run_all {V N z : Int} (hV : 0 ≤ V ∧ V ≤ 100000) : ∀ (R : List (List Int)) (T : List Tok3) (xss : List (List Int)), txs T = (R.flatMap fun c : List Int => c.map itoa ++ [[48]]) → (∀ c ∈ R, GoodC V c) → (xss.length : Int) + R.length = N → pRun V N z T xss [] = (xss ++ R, z, 0)
  | [], T, xss, hT, _, hN => by
    have : T = [] := by simpa [txs] using hT
    subst this
    rw [pRun, if_neg (by simp at hN; omega), List.append_nil]
  | c :: R, T, xss, hT, hg, hN => by
    rw [List.flatMap_cons] at hT
    have hN2 := hN
    rw [List.length_cons] at hN2
    obtain ⟨T2, h1, h2⟩ := run_cl (N := N) (z := z) hV c [] T (R.flatMap fun c : List Int => c.map itoa ++ [[48]]) xss (by rw [hT]; simp) (hg c (by simp)) (by omega)
    rw [h2, List.nil_append, run_all hV R T2 (xss ++ [c]) h1 (fun d hd => hg d (by simp [hd])) (by rw [List.length_append]; simp; omega)]
    simp
theorem hdT_txs (T : List Tok3) (i : Nat) : hdT T i = (txs T).getD i [] := by
  unfold hdT txs
  rw [List.getD_eq_getElem?_getD, List.getD_eq_getElem?_getD, List.getElem?_map]
  cases T[i]? <;> rfl
theorem prs_pr {V : Int} {R : List (List Int)} (h : fErr V R = 0) : prs (prB V R) = (V, R, ((prB V R).length : Int), 0) := by
  obtain ⟨hV, hR, hg⟩ := good_of h
  have ht := txs_pr V R
  have hlen : 4 ≤ (toks (prB V R)).length := by
    have := congrArg List.length ht
    simp [txs] at this; omega
  have hx : ∀ i, hdT (toks (prB V R)) i = ([[112], [99, 110, 102], itoa V, itoa R.length] ++ R.flatMap fun c : List Int => c.map itoa ++ [[48]]).getD i [] := fun i => by rw [hdT_txs, ht]
  have nV := numR_itoa (x := V) (lo := 0) (hi := 100000) hV ⟨by omega, by omega⟩
  have nN := numR_itoa (x := (R.length : Int)) (lo := 0) (hi := 1000000) ⟨by omega, by omega⟩ ⟨by omega, by omega⟩
  have e0 : hdE (toks (prB V R)) 0 = 0 := by unfold hdE; rw [if_pos (by omega), hx]; rfl
  have e1 : hdE (toks (prB V R)) 1 = 0 := by unfold hdE; rw [if_pos (by omega), hx]; rfl
  have e2 : hdE (toks (prB V R)) 2 = 0 := by unfold hdE; rw [if_pos (by omega), hx]; show (numR (itoa V) 0 100000).2 = 0; rw [nV]
  have e3 : hdE (toks (prB V R)) 3 = 0 := by unfold hdE; rw [if_pos (by omega), hx]; show (numR (itoa R.length) 0 1000000).2 = 0; rw [nN]
  have hI : hdI (toks (prB V R)) = 4 := by simp [hdI, e0, e1, e2, e3]
  have hv : hdV (toks (prB V R)) = V := by unfold hdV; rw [hx]; show (numR (itoa V) 0 100000).1 = V; rw [nV]
  have hn : hdN (toks (prB V R)) = R.length := by unfold hdN; rw [hx]; show (numR (itoa R.length) 0 1000000).1 = R.length; rw [nN]
  have hd : txs ((toks (prB V R)).drop 4) = R.flatMap fun c : List Int => c.map itoa ++ [[48]] := by
    unfold txs; rw [List.map_drop]; unfold txs at ht; rw [ht]; rfl
  have hr := run_all (z := ((prB V R).length : Int)) (N := (R.length : Int)) hV R _ [] hd hg (by simp)
  unfold prs
  rw [pParse_run hI, hv, hn, hr, if_neg (by simp)]; rfl
theorem lits_sum {c : List Int} (h : ∀ x ∈ c, Fit x) : (clB c).length ≤ c.length * 22 + 2 := clB_len h (Nat.le_refl _)
theorem prB_tot {V : Int} {R : List (List Int)} (hV : Fit V) (hF : ∀ c ∈ R, ∀ x ∈ c, Fit x) (hR : R.length ≤ 1000000) : (prB V R).length ≤ 60 + tot R * 22 + R.length * 2 := by
  have hh := headB_len hV (c := (R.length : Int)) ⟨by omega, by omega⟩
  have hc : ∀ R : List (List Int), (∀ c ∈ R, ∀ x ∈ c, Fit x) → (R.flatMap clB).length ≤ tot R * 22 + R.length * 2 := fun R => by
    induction R with
    | nil => intro _; simp
    | cons c R ih =>
      intro h
      have := ih fun d hd => h d (by simp [hd])
      have := lits_sum (h c (by simp))
      have e : tot (c :: R) = c.length + tot R := by unfold tot; simp
      rw [List.flatMap_cons, List.length_append, List.length_cons, e]; omega
  have := hc R hF
  unfold prB; rw [List.length_append]; omega
end Go.Proofs.YthgmjboldboclaaDoor
