import Derived.Test.YtdaenbgjafalcaaDoorMgBO
import Derived.Test.YtdaenbgjafalcaaDoorMgAQ
import Derived.Test.YtdaenbgjafalcaaDoorMgBN
import Derived.Shelf.Strings.OnBuilder
import Derived.Test.YtdaenbgjafalcaaDoorMgAW
namespace Go.Proofs.YtdaenbgjafalcaaDoor
open Go.RowKit Go.Lib
set_option linter.unusedVariables false
set_option linter.unusedSimpArgs false
def eCA (xs : List Ev3) : Int := if 10000 < xs.length then 0 else (fb (eErr xs) xs.length : Int)
def eCE (xs : List Ev3) : Int := if 10000 < xs.length then 3 else if fb (eErr xs) xs.length < xs.length then eErr xs (fb (eErr xs) xs.length) else 0
theorem eC_is (xs : List Ev3) : EChk xs (eCA xs) (eCE xs) := by
  unfold EChk eCA eCE
  by_cases h : 10000 < xs.length
  · rw [if_pos h, if_pos h]; exact FChk.big' h
  · rw [if_neg h, if_neg h]
    by_cases h1 : fb (eErr xs) xs.length < xs.length
    · rw [if_pos h1]
      exact FChk.at (by omega) h1 (fun j hj => fb_before hj) rfl (fb_bad h1)
    · rw [if_neg h1]
      have h2 := fb_le (eErr xs) xs.length
      have e : fb (eErr xs) xs.length = xs.length := by omega
      rw [e]
      exact FChk.all (by omega) (fb_eq.1 e)
theorem pf_eChk (xs : List Ev3) (hx : xs.length ≤ 100000) : PF Tryd.prog 33 [.iv (iEvs xs)] fun r H' => r = .tup [lt (.int .i64 (eCA xs)), lt (.int .i64 (eCE xs))] ∧ H' = [] :=
  SF.mono (pf_eCheck xs hx) fun r H' ⟨⟨a, c, h1, h2⟩, h3⟩ => by
    obtain ⟨e1, e2⟩ := h1.uniq (eC_is xs)
    subst e1 e2; exact ⟨h2, h3⟩
theorem pf_rChk (xs : List Ev3) (hx : xs.length ≤ 100000) : PF Tryd.prog 36 [.iv (iEvs xs)] fun r H' => r = .tup [lt (.int .i64 (eCA xs)), lt (.int .i64 (eCE xs))] ∧ H' = [] :=
  SF.mono (pf_rCheck xs hx) fun r H' ⟨⟨a, c, h1, h2⟩, h3⟩ => by
    obtain ⟨e1, e2⟩ := h1.uniq (eC_is xs)
    subst e1 e2; exact ⟨h2, h3⟩
theorem eCE_zero {xs : List Ev3} : eCE xs = 0 ↔ xs.length ≤ 10000 ∧ ∀ k, k < xs.length → eErr xs k = 0 := by
  unfold eCE
  by_cases h : 10000 < xs.length
  · rw [if_pos h]; exact ⟨(fun h => by cases h), fun h2 => by omega⟩
  · rw [if_neg h]
    by_cases h1 : fb (eErr xs) xs.length < xs.length
    · rw [if_pos h1]
      exact ⟨fun h2 => absurd h2 (fb_bad h1), fun h2 => h2.2 _ h1⟩
    · rw [if_neg h1]
      have h2 := fb_le (eErr xs) xs.length
      exact ⟨fun _ => ⟨by omega, fb_eq.1 (by omega)⟩, fun _ => rfl⟩
def hChk (o : Ob) (es : List Ev3) : Int := if obE o ≠ 0 then obE o else if eCE es ≠ 0 then eCE es else if o.K < eKin es es.length then 31 else 0
theorem hChk_zero {o : Ob} {es : List Ev3} : hChk o es = 0 ↔ obE o = 0 ∧ EvsOK o.K es := by
  unfold hChk
  by_cases h1 : obE o = 0
  · rw [if_neg (by simpa using h1)]
    by_cases h2 : eCE es = 0
    · rw [if_neg (by simpa using h2)]
      obtain ⟨a1, a2⟩ := eCE_zero.1 h2
      by_cases h3 : o.K < eKin es es.length
      · rw [if_pos h3]; exact ⟨(fun h => by cases h), fun h => absurd h.2.kin (by omega)⟩
      · rw [if_neg h3]; exact ⟨fun _ => ⟨h1, a1, a2, by omega⟩, fun _ => rfl⟩
    · rw [if_pos h2]; exact ⟨fun h => absurd h h2, fun h => absurd (eCE_zero.2 ⟨h.2.len, h.2.err⟩) h2⟩
  · rw [if_pos h1]; exact ⟨fun h => absurd h h1, fun h => absurd h.1 h1⟩
abbrev csA (o : Ob) (es : List Ev3) : AV := .agg [lt (.int .i64 o.S), lt (.int .i64 o.K), lt (.int .i64 o.I), .iv (iRws o.R), .iv (iEvs es)]
theorem W714da {A B : Prop} (h9 : B) (w : B → A := by (intro h9; (repeat intro K hK); refine ⟨?_⟩; (repeat (first | (first | (with_reducible first | refine AX_block ?_ | refine AX_skip ?_ | refine AX_exit ?_ | refine AX_ret ?_ | refine AX_ift ?_ | refine AX_iff ?_ | refine AX_seq_k (fun K hK => ?_) | refine ContX.use (by assumption) ?_) | simp only [thenX, inBlockX, if_true, if_false, reduceCtorEq]) | (first | ((with_reducible first | refine XOP tyOK ?_ | refine AOP tyOK ?_); simp (disch := omega) only [go_sem , hs1, hs2, hs3, hs4, hs5]; (with_reducible first | refine XRes_id ?_ | refine ADF_id ?_)) | (with_reducible first | refine XSK ?_ | refine ASK ?_)) | ((first | (with_reducible refine XRes_nil ?_) | (with_reducible refine ADF_nil ?_)); (first | refine hK _ ?_ | refine hK _ _ ?_); clear hK K) | ((first | (with_reducible refine AX_reg0 fun K hK => ?_) | (refine AX_drawG1 tyOK (by kernel_rfl) (by rfl) (by kernel_rfl) fun K hK => ?_)); simp only [go_sem]) | (first | (first | refine XTL (by rfl) hO ?_ | refine ATL tyOK (by rfl) hO ?_ | refine XTL (by rfl) hE ?_ | refine ATL tyOK (by rfl) hE ?_ | refine XTL (by rfl) hKn ?_ | refine ATL tyOK (by rfl) hKn ?_)))); refine Wk.o ?_; (repeat revert hK K); exact h9)) : A := w h9
set_option maxRecDepth 100000 in
set_option maxHeartbeats 4000000 in
theorem pf_hCheck (o : Ob) (es : List Ev3) (hr : o.R.length ≤ 100000) (ho : o.Ok) (he : es.length ≤ 100000) (hn : ∀ i, -9223372036854775808 ≤ (evAt es i).n) : PF Tryd.prog 14 [csA o es] fun r H' => r = lt (.int .i64 (hChk o es)) ∧ H' = [] := by
  refine SF.forgetAll ?_
  have hs1 := trivial; have hs2 := trivial; have hs3 := trivial; have hs4 := trivial; have hs5 := trivial; have hO := trivial; have hE := trivial; have hKn := trivial
  have hO := pf_obCheck o hr ho
  have hE := pf_eChk es he
  have hKn := pf_eKinds es he hn
  unfold hChk
  generalize obE o = e1 at *
  generalize obAt o = a1 at *
  generalize eCE es = e2 at *
  generalize eCA es = a2 at *
  generalize eKin es es.length = kk at *
  obtain ⟨S, Kn, I, R⟩ := o
  unfold obA at hO
  unfold csA iEvs iFlat
  unfold iEvs iFlat at hE hKn
  dsimp only at hO ⊢
  by_cases h1 : e1 = 0
  · subst h1
    rw [if_neg (by simp)]
    by_cases h2 : e2 = 0
    · subst h2
      rw [if_neg (by simp)]
      by_cases h3 : Kn < kk
      · rw [if_pos h3]
        have hs1 : decide (Kn < kk) = true := decide_eq_true h3
        (refine SF_of_bodyX (aload tt) (aload_ok tyOK) Tryd.func14 rfl (by kernel_rfl) ?_; simp only [Tryd.ntmps14, List.length_cons, List.length_nil, Nat.reduceAdd, Nat.reduceSub, List.replicate_succ, List.replicate_zero, List.cons_append, List.nil_append])
        (refine Wk.o ?_; (repeat revert hK K); refine W714da ?_; (repeat intro K hK); refine ⟨?_⟩)
        (simp only [bodyX]; refine ⟨_, by simp only [aresults, aresult, XS.as, Tryd.results14, aload, go_sem, Option.bind_some]; rfl, ?_⟩)
        exact ⟨ids_idB rfl, rfl, trivial⟩
      · rw [if_neg h3]
        have hs1 : decide (Kn < kk) = false := decide_eq_false h3
        (refine SF_of_bodyX (aload tt) (aload_ok tyOK) Tryd.func14 rfl (by kernel_rfl) ?_; simp only [Tryd.ntmps14, List.length_cons, List.length_nil, Nat.reduceAdd, Nat.reduceSub, List.replicate_succ, List.replicate_zero, List.cons_append, List.nil_append])
        (refine Wk.o ?_; (repeat revert hK K); refine W714da ?_; (repeat intro K hK); refine ⟨?_⟩)
        (simp only [bodyX]; refine ⟨_, by simp only [aresults, aresult, XS.as, Tryd.results14, aload, go_sem, Option.bind_some]; rfl, ?_⟩)
        exact ⟨ids_idB rfl, rfl, trivial⟩
    · rw [if_pos h2]
      have hs1 : (e2 != 0) = true := by simpa using h2
      (refine SF_of_bodyX (aload tt) (aload_ok tyOK) Tryd.func14 rfl (by kernel_rfl) ?_; simp only [Tryd.ntmps14, List.length_cons, List.length_nil, Nat.reduceAdd, Nat.reduceSub, List.replicate_succ, List.replicate_zero, List.cons_append, List.nil_append])
      (refine Wk.o ?_; (repeat revert hK K); refine W714da ?_; (repeat intro K hK); refine ⟨?_⟩)
      (simp only [bodyX]; refine ⟨_, by simp only [aresults, aresult, XS.as, Tryd.results14, aload, go_sem, Option.bind_some]; rfl, ?_⟩)
      exact ⟨ids_idB rfl, rfl, trivial⟩
  · rw [if_pos h1]
    have hs1 : (e1 != 0) = true := by simpa using h1
    (refine SF_of_bodyX (aload tt) (aload_ok tyOK) Tryd.func14 rfl (by kernel_rfl) ?_; simp only [Tryd.ntmps14, List.length_cons, List.length_nil, Nat.reduceAdd, Nat.reduceSub, List.replicate_succ, List.replicate_zero, List.cons_append, List.nil_append])
    (refine Wk.o ?_; (repeat revert hK K); refine W714da ?_; (repeat intro K hK); refine ⟨?_⟩)
    (simp only [bodyX]; refine ⟨_, by simp only [aresults, aresult, XS.as, Tryd.results14, aload, go_sem, Option.bind_some]; rfl, ?_⟩)
    exact ⟨ids_idB rfl, rfl, trivial⟩
set_option maxRecDepth 100000 in
set_option maxHeartbeats 4000000 in
theorem pf_rhCheck (o : Ob) (es : List Ev3) (hr : o.R.length ≤ 100000) (ho : o.Ok) (he : es.length ≤ 100000) (hn : ∀ i, -9223372036854775808 ≤ (evAt es i).n) : PF Tryd.prog 15 [obA o, .iv (iEvs es)] fun r H' => r = lt (.int .i64 (hChk o es)) ∧ H' = [] := by
  refine SF.forgetAll ?_
  have hs1 := trivial; have hs2 := trivial; have hs3 := trivial; have hs4 := trivial; have hs5 := trivial; have hO := trivial; have hE := trivial; have hKn := trivial
  have hO := pf_rObCheck o hr ho
  have hE := pf_rChk es he
  have hKn := pf_rKinds es he hn
  unfold hChk
  generalize obE o = e1 at *
  generalize obAt o = a1 at *
  generalize eCE es = e2 at *
  generalize eCA es = a2 at *
  generalize eKin es es.length = kk at *
  obtain ⟨S, Kn, I, R⟩ := o
  unfold obA at *
  unfold iEvs iFlat at *
  dsimp only at hO ⊢
  by_cases h1 : e1 = 0
  · subst h1
    rw [if_neg (by simp)]
    by_cases h2 : e2 = 0
    · subst h2
      rw [if_neg (by simp)]
      by_cases h3 : Kn < kk
      · rw [if_pos h3]
        have hs1 : decide (Kn < kk) = true := decide_eq_true h3
        (refine SF_of_bodyX (aload tt) (aload_ok tyOK) Tryd.func15 rfl (by kernel_rfl) ?_; simp only [Tryd.ntmps15, List.length_cons, List.length_nil, Nat.reduceAdd, Nat.reduceSub, List.replicate_succ, List.replicate_zero, List.cons_append, List.nil_append])
        (refine Wk.o ?_; (repeat revert hK K); refine W714da ?_; (repeat intro K hK); refine ⟨?_⟩)
        (simp only [bodyX]; refine ⟨_, by simp only [aresults, aresult, XS.as, Tryd.results15, aload, go_sem, Option.bind_some]; rfl, ?_⟩)
        exact ⟨ids_idB rfl, rfl, trivial⟩
      · rw [if_neg h3]
        have hs1 : decide (Kn < kk) = false := decide_eq_false h3
        (refine SF_of_bodyX (aload tt) (aload_ok tyOK) Tryd.func15 rfl (by kernel_rfl) ?_; simp only [Tryd.ntmps15, List.length_cons, List.length_nil, Nat.reduceAdd, Nat.reduceSub, List.replicate_succ, List.replicate_zero, List.cons_append, List.nil_append])
        (refine Wk.o ?_; (repeat revert hK K); refine W714da ?_; (repeat intro K hK); refine ⟨?_⟩)
        (simp only [bodyX]; refine ⟨_, by simp only [aresults, aresult, XS.as, Tryd.results15, aload, go_sem, Option.bind_some]; rfl, ?_⟩)
        exact ⟨ids_idB rfl, rfl, trivial⟩
    · rw [if_pos h2]
      have hs1 : (e2 == 0) = false := by simpa using h2
      (refine SF_of_bodyX (aload tt) (aload_ok tyOK) Tryd.func15 rfl (by kernel_rfl) ?_; simp only [Tryd.ntmps15, List.length_cons, List.length_nil, Nat.reduceAdd, Nat.reduceSub, List.replicate_succ, List.replicate_zero, List.cons_append, List.nil_append])
      (refine Wk.o ?_; (repeat revert hK K); refine W714da ?_; (repeat intro K hK); refine ⟨?_⟩)
      (simp only [bodyX]; refine ⟨_, by simp only [aresults, aresult, XS.as, Tryd.results15, aload, go_sem, Option.bind_some]; rfl, ?_⟩)
      exact ⟨ids_idB rfl, rfl, trivial⟩
  · rw [if_pos h1]
    have hs1 : (e1 != 0) = true := by simpa using h1
    (refine SF_of_bodyX (aload tt) (aload_ok tyOK) Tryd.func15 rfl (by kernel_rfl) ?_; simp only [Tryd.ntmps15, List.length_cons, List.length_nil, Nat.reduceAdd, Nat.reduceSub, List.replicate_succ, List.replicate_zero, List.cons_append, List.nil_append])
    (refine Wk.o ?_; (repeat revert hK K); refine W714da ?_; (repeat intro K hK); refine ⟨?_⟩)
    (simp only [bodyX]; refine ⟨_, by simp only [aresults, aresult, XS.as, Tryd.results15, aload, go_sem, Option.bind_some]; rfl, ?_⟩)
    exact ⟨ids_idB rfl, rfl, trivial⟩
end Go.Proofs.YtdaenbgjafalcaaDoor
namespace Go.Proofs.YtdaenbgjafalcaaDoor
open Go.RowKit Go.Lib
theorem lns_lineR {w : List UInt8} (ns : List Int) (ln k : Nat) (rest : List UInt8) (hn : w ≠ []) (hr : ∀ r, remark (w ++ r) = false) (hw : ∀ b ∈ w, isSp b = false ∧ b ≠ 10) : ∃ T k2, (lns ln k (lineB w ns ++ rest)).map rowT = T :: (lns (ln + 1) k2 rest).map rowT ∧ txL T = w :: ns.map itoa := by
  have e : lineB w ns ++ rest = (w ++ ns.flatMap numB) ++ 10 :: rest := by unfold lineB; simp
  have hm : ∀ b ∈ w ++ ns.flatMap numB, b ≠ 10 := fun b hb => by
    rcases List.mem_append.1 hb with hb | hb
    · exact (hw b hb).2
    · obtain ⟨x, _, hx⟩ := List.mem_flatMap.1 hb
      unfold numB at hx
      rcases List.mem_cons.1 hx with rfl | hx
      · decide
      · exact ((itoa_word x).ok b hx).2.1
  refine ⟨rowT (ln, k, lineTk (w ++ ns.flatMap numB)), k + ((w ++ ns.flatMap numB).length + 1), ?_, ?_⟩
  · rw [e, lns_line ln k hm rest, List.map_cons]
  · have hlt : lineTk (w ++ ns.flatMap numB) = tk 0 (w ++ ns.flatMap numB) := by unfold lineTk; rw [hr]; rfl
    rw [txL_row, hlt, tk_nums ns 0 hn fun b hb => (hw b hb).1]
theorem rowsGo_backR {z : Int} (rest : List UInt8) : ∀ (R A : List Rw) (P : List Int) (ln k : Nat), (∀ r ∈ R, RwSm r) → ∃ P' ln' k', rowsGo z R.length ((lns ln k (R.flatMap rowB4 ++ rest)).map rowT) A P = (A ++ R, P', (lns ln' k' rest).map rowT, z, 0)
  | [], A, P, ln, k, _ => ⟨P, ln, k, by rw [List.flatMap_nil, List.nil_append, List.append_nil]; rfl⟩
  | r :: R, A, P, ln, k, h => by
    obtain ⟨g1, g2, g3, g4⟩ := h r (by simp)
    obtain ⟨T, k2, h1, h2⟩ := lns_lineB (c := 114) (w := [111, 119]) [r.s, r.k, r.n, r.r] ln k (R.flatMap rowB4 ++ rest) (by decide) wRow_ok
    obtain ⟨n1, n2⟩ := nums_itoa (z := z) h2 (fun x hx => by
      simp only [List.mem_cons, List.not_mem_nil, or_false] at hx
      rcases hx with rfl | rfl | rfl | rfl
      · exact g1
      · exact g2
      · exact g3
      · exact g4)
    have e : (r :: R).flatMap rowB4 ++ rest = lineB (114 :: [111, 119]) [r.s, r.k, r.n, r.r] ++ (R.flatMap rowB4 ++ rest) := by rw [List.flatMap_cons, List.append_assoc]; rfl
    have hq : nums (nxt (T :: (lns (ln + 1) k2 (R.flatMap rowB4 ++ rest)).map rowT)).1 wRow lo4 hi4 z = ([r.s, r.k, r.n, r.r], z, 0) := by rw [nxt_cons n1]; exact n2
    rw [e, h1, List.length_cons, rowsGo_ok (by rw [hq]), hq, nxt_cons n1]
    obtain ⟨P', ln', k', hp⟩ := rowsGo_backR (z := z) rest R (A ++ [rwOf [r.s, r.k, r.n, r.r]]) (P ++ [(T.getD 0 tok0).2.1]) (ln + 1) k2 fun q hq => h q (by simp [hq])
    refine ⟨P', ln', k', hp.trans ?_⟩
    rw [List.append_assoc]; rfl
theorem takeP_back {o : Ob} (he : obE o = 0) (hs : ObSm o) (rest : List UInt8) (z : Int) : ∃ ln k, takeP (lnsT (obB o ++ rest)) z = (o, (lns ln k rest).map rowT, z, 0) := by
  obtain ⟨S, Kn, I, R⟩ := o
  have hR : ∀ r ∈ R, RwSm r := fun r hr => by
    obtain ⟨i, hi, e⟩ := List.getElem_of_mem hr
    have := hs.row i hi
    rw [rwAt_get hi, e] at this
    exact this
  have hl : ((R.length : Nat) : Int) ≤ 1000000 := by have : R.length ≤ 3000 := hs.len; omega
  obtain ⟨T, k2, h1, h2⟩ := lns_lineB (c := 111) (w := [98, 106, 101, 99, 116]) [S, Kn, I, R.length] 1 0 (R.flatMap rowB4 ++ rest) (by decide) wObj_ok
  have e : lnsT (obB ⟨S, Kn, I, R⟩ ++ rest) = T :: (lns 2 k2 (R.flatMap rowB4 ++ rest)).map rowT := by
    have : obB ⟨S, Kn, I, R⟩ ++ rest = lineB (111 :: [98, 106, 101, 99, 116]) [S, Kn, I, R.length] ++ (R.flatMap rowB4 ++ rest) := by unfold obB; rw [List.append_assoc]; rfl
    rw [this]; exact h1
  rw [e]
  obtain ⟨n1, n2⟩ := nums_itoa (z := z) h2 (fun x hx => by
      simp only [List.mem_cons, List.not_mem_nil, or_false] at hx
      rcases hx with rfl | rfl | rfl | rfl
      · exact hs.S
      · exact hs.K
      · exact hs.I
      · exact ⟨by omega, hl⟩)
  obtain ⟨P', ln', k', hp⟩ := rowsGo_backR (z := z) rest R [] [] 2 k2 hR
  generalize hL : (lns 2 k2 (R.flatMap rowB4 ++ rest)).map rowT = L at *
  have hq : tq (T :: L) z = ([S, Kn, I, (R.length : Int)], z, 0) := by unfold tq; rw [nxt_cons n1]; exact n2
  have hg : tg (T :: L) z = (R, P', (lns ln' k' rest).map rowT, z, 0) := by
    unfold tg; rw [hq, nxt_cons n1]; exact hp
  have ho : tob (T :: L) z = ⟨S, Kn, I, R⟩ := by unfold tob; rw [hq, hg]; rfl
  have ht := takeP_o (L := T :: L) (z := z) (by rw [hq]) (by rw [hg])
  rw [ho, if_neg (by rw [he]; decide), if_neg (by rw [he]; simp), hg] at ht
  exact ⟨ln', k', ht⟩
def evWd (x : Ev3) : List UInt8 := if x.w = 2 then wRet else wCall
def evB (x : Ev3) : List UInt8 := lineB (evWd x) [x.p, x.n]
def caseB (o : Ob) (es : List Ev3) : List UInt8 := obB o ++ es.flatMap evB
theorem wCall_ok : ∀ b ∈ wCall, isSp b = false ∧ b ≠ 10 := by decide
theorem wRet_ok : ∀ b ∈ wRet, isSp b = false ∧ b ≠ 10 := by decide
theorem wCall_rem (r : List UInt8) : remark (wCall ++ r) = false := by simp [remark, wCall, List.isPrefixOf]
theorem wRet_rem (r : List UInt8) : remark (wRet ++ r) = false := not_remark (by decide)
theorem evWd_ok (x : Ev3) : evWd x ≠ [] ∧ (∀ r, remark (evWd x ++ r) = false) ∧ (∀ b ∈ evWd x, isSp b = false ∧ b ≠ 10) ∧ (evWd x).length ≤ 100 := by
  unfold evWd
  split
  · exact ⟨by decide, wRet_rem, wRet_ok, by decide⟩
  · exact ⟨by decide, wCall_rem, wCall_ok, by decide⟩
theorem nums_two {T : List Tok3} {w : List UInt8} {p n c d z : Int} (h : txL T = w :: [p, n].map itoa) (hp : 1 ≤ p ∧ p ≤ c) (hn : 0 ≤ n ∧ n ≤ d) (hc : c ≤ 1000000) (hd : d ≤ 1000000) : T.length ≠ 0 ∧ (T.getD 0 tok0).2.2 = w ∧ nums T w [1, 0] [c, d] z = ([p, n], z, 0) := by
  match T, h with
  | [t, u, v], h =>
    unfold txL at h
    simp only [List.map_cons, List.map_nil, List.cons.injEq, and_true] at h
    obtain ⟨h1, h2, h3⟩ := h
    refine ⟨by simp, h1, ?_⟩
    have e1 : numR u.2.2 1 c = (p, 0) := by rw [h2]; exact numR_itoa hp ⟨by omega, by omega⟩
    have e2 : numR v.2.2 0 d = (n, 0) := by rw [h3]; exact numR_itoa hn ⟨by omega, by omega⟩
    unfold nums
    rw [if_neg (by simp), if_neg (by simpa using h1)]
    show nGo _ z [u, v] [(1, c), (0, d)] [] = _
    simp [nGo, e1, e2]
  | [], h => cases h
  | [_], h => unfold txL at h; simp at h
  | [_, _], h => unfold txL at h; simp at h
  | _ :: _ :: _ :: _ :: _, h => unfold txL at h; simp at h
theorem EvsOK.one {K : Int} (hK : K ≤ 64) {es : List Ev3} (h : EvsOK K es) {k : Nat} (hk : k < es.length) : ((evAt es k).w = 1 ∨ (evAt es k).w = 2) ∧ (1 ≤ (evAt es k).p ∧ (evAt es k).p ≤ 1000) ∧ ((evAt es k).w = 1 → 0 ≤ (evAt es k).n ∧ (evAt es k).n ≤ K - 1) ∧ ((evAt es k).w = 2 → 0 ≤ (evAt es k).n ∧ (evAt es k).n ≤ 1000000) ∧ ((eLast es k (evAt es k).p = 1) ↔ (evAt es k).w = 2) := by
  obtain ⟨h1, h2⟩ := eErr_zero (h.err k hk)
  obtain ⟨g1, g2, g3, g4, g5⟩ := eMay_zero h1
  refine ⟨g1, ⟨g2, g3⟩, fun hw => ?_, g5, h2⟩
  have h3 := h.kin
  have hmono : ∀ j, k + 1 ≤ j → eKin es (k + 1) ≤ eKin es j := fun j hj => by
    induction j with
    | zero => omega
    | succ j ih =>
      rcases Nat.lt_or_ge k j with h5 | h5
      · have := ih (by omega)
        rw [eKin_succ es j]
        split
        · omega
        · exact this
      · obtain rfl : j = k := by omega
        exact Int.le_refl _
  have h4 := hmono es.length (by omega)
  rw [eKin_succ, if_pos hw] at h4
  have := g4 hw
  omega
theorem eLast_take {es : List Ev3} {p : Int} {n : Nat} : ∀ {k : Nat}, k ≤ n → n ≤ es.length → eLast (es.take n) k p = eLast es k p
  | 0, _, _ => rfl
  | k + 1, h, h2 => by
    have e : evAt (es.take n) k = evAt es k := by
      unfold evAt; rw [List.getD_eq_getElem?_getD, List.getD_eq_getElem?_getD, List.getElem?_take, if_pos (by omega)]
    rw [eLast, eLast, e, eLast_take (by omega) h2]
theorem evsGo_back {K z : Int} (hK : 1 ≤ K ∧ K ≤ 64) {es : List Ev3} (h : EvsOK K es) : ∀ (m n : Nat) (ln k : Nat), n + m = es.length → evsGo K z ((lns ln k ((es.drop n).flatMap evB)).map rowT) (es.take n) = (es, z, 0)
  | 0, n, ln, k, hn => by
    have : n = es.length := by omega
    subst this
    rw [List.drop_length, List.flatMap_nil, lns_nil, List.take_length]; rfl
  | m + 1, n, ln, k, hn => by
    have hlt : n < es.length := by omega
    obtain ⟨g1, g2, g3, g4, g5⟩ := h.one hK.2 hlt
    obtain ⟨f1, f2, f3, _⟩ := evWd_ok (evAt es n)
    have e : (es.drop n).flatMap evB = lineB (evWd (evAt es n)) [(evAt es n).p, (evAt es n).n] ++ (es.drop (n + 1)).flatMap evB := by
      rw [List.drop_eq_getElem_cons hlt, List.flatMap_cons]
      have : es[n] = evAt es n := by unfold evAt; rw [List.getD_eq_getElem?_getD, List.getElem?_eq_getElem hlt]; rfl
      rw [this]; rfl
    obtain ⟨T, k2, h1, h2⟩ := lns_lineR [(evAt es n).p, (evAt es n).n] ln k ((es.drop (n + 1)).flatMap evB) f1 f2 f3
    have hx : evAt es n = ⟨(evAt es n).w, (evAt es n).p, (evAt es n).n⟩ := rfl
    have hone : T.length ≠ 0 ∧ evOne K z (es.take n) T = (evAt es n, z, 0) := by
      have hlast := eLast_take (es := es) (p := (evAt es n).p) (n := n) (k := n) (Nat.le_refl _) (by omega)
      have htl : (es.take n).length = n := by rw [List.length_take]; omega
      have hlen := h.len
      rcases g1 with hw | hw
      · have hwd : evWd (evAt es n) = wCall := by unfold evWd; rw [if_neg (by omega)]
        rw [hwd] at h2
        obtain ⟨n1, n2, n3⟩ := nums_two (z := z) (c := 1000) (d := K - 1) h2 g2 (g3 hw) (by omega) (by omega)
        have hev : evN K z T = ([(evAt es n).p, (evAt es n).n], z, 0) := by unfold evN evHi; rw [n2, if_pos rfl]; exact n3
        refine ⟨n1, ?_⟩
        unfold evOne
        rw [if_neg (by rw [n2]; simp), hev, if_neg (by simp), htl]
        have hW : evW T = 1 := by unfold evW; rw [if_pos n2]
        simp only [List.getD_cons_zero, List.getD_cons_succ]
        rw [if_neg (by rw [hlast, hW, g5]; omega), if_neg (by omega), hW, ← hw]
      · have hwd : evWd (evAt es n) = wRet := by unfold evWd; rw [if_pos hw]
        rw [hwd] at h2
        obtain ⟨n1, n2, n3⟩ := nums_two (z := z) (c := 1000) (d := 1000000) h2 g2 (g4 hw) (by omega) (by omega)
        have hne : ¬ wRet = wCall := by decide
        have hev : evN K z T = ([(evAt es n).p, (evAt es n).n], z, 0) := by unfold evN evHi; rw [n2, if_neg hne]; exact n3
        refine ⟨n1, ?_⟩
        unfold evOne
        rw [if_neg (by rw [n2]; simp), hev, if_neg (by simp), htl]
        have hW : evW T = 2 := by unfold evW; rw [if_neg (by rw [n2]; exact hne)]
        simp only [List.getD_cons_zero, List.getD_cons_succ]
        rw [if_neg (by rw [hlast, hW, g5]; omega), if_neg (by omega), hW, ← hw]
    have ht : es.take n ++ [evAt es n] = es.take (n + 1) := by
      rw [List.take_succ_eq_append_getElem hlt]
      congr 2
      unfold evAt; rw [List.getD_eq_getElem?_getD, List.getElem?_eq_getElem hlt]; rfl
    rw [e, h1, evsGo_ok hone.1 (by rw [hone.2]), hone.2, ht]
    exact evsGo_back hK h m (n + 1) (ln + 1) k2 (by omega)
theorem hpr_back {o : Ob} {es : List Ev3} (h : hChk o es = 0) (hs : ObSm o) : hpr (caseB o es) = (o, es, ((caseB o es).length : Int), 0) := by
  obtain ⟨h1, h2⟩ := hChk_zero.1 h
  have hK : 1 ≤ o.K ∧ o.K ≤ 64 := by have := (obE_zero.1 h1).1; unfold obHead at this; omega
  unfold hpr
  generalize ((caseB o es).length : Int) = z
  obtain ⟨ln, k, ht⟩ := takeP_back h1 hs (es.flatMap evB) z
  have hb := evsGo_back (z := z) hK h2 es.length 0 ln k (by omega)
  rw [List.drop_zero, List.take_zero] at hb
  have ht : takeP (lnsT (caseB o es)) z = (o, (lns ln k (es.flatMap evB)).map rowT, z, 0) := ht
  rw [hps_o (by rw [ht]) (by rw [ht]; dsimp only; rw [hb]), ht]
  dsimp only
  rw [hb]
theorem rowsGo_rest {z : Int} : ∀ (m : Nat) (L : List (List Tok3)) (R : List Rw) (P : List Int), (rowsGo z m L R P).2.2.2.2 = 0 → (rowsGo z m L R P).2.2.1.length + m ≤ L.length
  | 0, L, R, P, _ => Nat.le_refl _
  | m + 1, L, R, P, h => by
    by_cases he : (nums (nxt L).1 wRow lo4 hi4 z).2.2 = 0
    · rw [rowsGo_ok he] at h ⊢
      have h0 := nxt_lt L (nums_ok he).1
      have h1 := rowsGo_rest m _ _ _ h
      omega
    · rw [rowsGo_bad he] at h; exact absurd h he
theorem takeP_rest {L : List (List Tok3)} {z : Int} (h : (takeP L z).2.2.2 = 0) : (takeP L z).1.R.length + (takeP L z).2.1.length + 1 ≤ L.length := by
  by_cases he : (tq L z).2.2 = 0
  · by_cases hg : (tg L z).2.2.2.2 = 0
    · have ho := takeP_o he hg
      by_cases c1 : obE (tob L z) = 2
      · rw [if_pos c1] at ho; rw [ho] at h; cases h
      · by_cases c2 : obE (tob L z) = 0
        · rw [if_neg c1, if_neg (by simpa using c2)] at ho
          rw [ho]
          have hn := nxt_lt L (nums_ok he).1
          have hg' : (rowsGo z ((tq L z).1.getD 3 0).toNat (nxt L).2 [] []).2.2.2.2 = 0 := hg
          have g1 := rowsGo_rest _ _ _ _ hg'
          have g3 := (rowsGo_said _ _ _ _ hg').2
          show (rowsGo z ((tq L z).1.getD 3 0).toNat (nxt L).2 [] []).1.length + (rowsGo z ((tq L z).1.getD 3 0).toNat (nxt L).2 [] []).2.2.1.length + 1 ≤ L.length
          rw [List.length_nil] at g3
          omega
        · rw [if_neg c1, if_pos c2] at ho; rw [ho] at h; exact absurd h c2
    · rw [takeP_g he hg] at h; exact absurd h hg
  · rw [takeP_q he] at h; exact absurd h he
theorem evB_len {K : Int} (hK : K ≤ 64) {es : List Ev3} (h : EvsOK K es) {x : Ev3} (hx : x ∈ es) : (evB x).length ≤ 200 := by
  obtain ⟨i, hi, rfl⟩ := List.mem_iff_getElem.1 hx
  have e : evAt es i = es[i] := by unfold evAt; rw [List.getD_eq_getElem?_getD, List.getElem?_eq_getElem hi]; rfl
  obtain ⟨g1, g2, g3, g4, _⟩ := h.one hK hi
  rw [e] at g1 g2 g3 g4
  refine lineB_len (evWd_ok _).2.2.2 (fun y hy => ?_) (by decide : 2 ≤ 4)
  simp only [List.mem_cons, List.not_mem_nil, or_false] at hy
  rcases hy with rfl | rfl
  · exact ⟨by omega, by omega⟩
  · rcases g1 with hw | hw
    · have := g3 hw; exact ⟨by omega, by omega⟩
    · have := g4 hw; exact ⟨by omega, by omega⟩
theorem evs_txt {K : Int} (hK : K ≤ 64) {es : List Ev3} (h : EvsOK K es) : ∀ k, k ≤ es.length → ((es.take k).flatMap evB).length ≤ k * 200
  | 0, _ => by simp
  | k + 1, hk => by
    have h1 := evs_txt hK h k (by omega)
    have h2 := evB_len hK h (x := es.getD k ev0) (by rw [List.getD_eq_getElem?_getD, List.getElem?_eq_getElem (by omega)]; exact List.getElem_mem _)
    rw [flat_step evB ev0 (by omega), List.length_append, Nat.add_mul]
    omega
structure CsSm (o : Ob) (es : List Ev3) : Prop where
  chk : hChk o es = 0
  len : o.R.length + es.length ≤ 3000
theorem CsSm.ob {o : Ob} {es : List Ev3} (h : CsSm o es) : ObSm o := ob_sm (hChk_zero.1 h.chk).1 (by have := h.len; omega)
theorem CsSm.evs {o : Ob} {es : List Ev3} (h : CsSm o es) : EvsOK o.K es := (hChk_zero.1 h.chk).2
theorem CsSm.kin {o : Ob} {es : List Ev3} (h : CsSm o es) : 1 ≤ o.K ∧ o.K ≤ 64 := by have := (obE_zero.1 (hChk_zero.1 h.chk).1).1; unfold obHead at this; omega
theorem CsSm.tot {o : Ob} {es : List Ev3} (h : CsSm o es) : (obB o).length ≤ 200 + o.R.length * 200 ∧ (caseB o es).length ≤ 700000 := by
  have h1 := h.ob.headLen
  have h2 := h.ob.txt o.R.length (Nat.le_refl _)
  have h3 := evs_txt h.kin.2 h.evs es.length (Nat.le_refl _)
  have h4 := h.len
  rw [List.take_length] at h2 h3
  have h5 : (obB o).length = (headB4 o).length + (o.R.flatMap rowB4).length := by unfold obB; rw [List.length_append]
  have h6 : (caseB o es).length = (obB o).length + (es.flatMap evB).length := by unfold caseB; rw [List.length_append]
  omega
theorem lns_rows4R (rest : List UInt8) : ∀ (R : List Rw) (ln k : Nat), ∃ ln' k', ((lns ln k (R.flatMap rowB4 ++ rest)).map rowT).length = R.length + ((lns ln' k' rest).map rowT).length
  | [], ln, k => ⟨ln, k, by rw [List.flatMap_nil, List.nil_append, List.length_nil, Nat.zero_add]⟩
  | r :: R, ln, k => by
    obtain ⟨T, k2, h1, _⟩ := lns_lineB (c := 114) (w := [111, 119]) [r.s, r.k, r.n, r.r] ln k (R.flatMap rowB4 ++ rest) (by decide) wRow_ok
    have e : (r :: R).flatMap rowB4 ++ rest = lineB (114 :: [111, 119]) [r.s, r.k, r.n, r.r] ++ (R.flatMap rowB4 ++ rest) := by rw [List.flatMap_cons, List.append_assoc]; rfl
    obtain ⟨ln', k', h2⟩ := lns_rows4R rest R (ln + 1) k2
    exact ⟨ln', k', by rw [e, h1, List.length_cons, h2, List.length_cons]; omega⟩
theorem lns_evs : ∀ (es : List Ev3) (ln k : Nat), ((lns ln k (es.flatMap evB)).map rowT).length = es.length
  | [], ln, k => by rw [List.flatMap_nil, lns_nil]; rfl
  | x :: es, ln, k => by
    obtain ⟨f1, f2, f3, _⟩ := evWd_ok x
    obtain ⟨T, k2, h1, _⟩ := lns_lineR [x.p, x.n] ln k (es.flatMap evB) f1 f2 f3
    have e : (x :: es).flatMap evB = lineB (evWd x) [x.p, x.n] ++ es.flatMap evB := List.flatMap_cons
    rw [e, h1, List.length_cons, lns_evs es, List.length_cons]
theorem lnsT_case {o : Ob} {es : List Ev3} (h : CsSm o es) : LsOK (lnsT (caseB o es)) := by
  have ht := h.tot.2
  have hl := h.len
  obtain ⟨S, Kn, I, R⟩ := o
  obtain ⟨T, k2, h1, _⟩ := lns_lineB (c := 111) (w := [98, 106, 101, 99, 116]) [S, Kn, I, R.length] 1 0 (R.flatMap rowB4 ++ es.flatMap evB) (by decide) wObj_ok
  refine lnsT_okG (by omega) ?_
  have e0 : caseB ⟨S, Kn, I, R⟩ es = lineB (111 :: [98, 106, 101, 99, 116]) [S, Kn, I, R.length] ++ (R.flatMap rowB4 ++ es.flatMap evB) := by unfold caseB obB; rw [List.append_assoc]; rfl
  rw [e0]
  obtain ⟨ln', k', h2⟩ := lns_rows4R (es.flatMap evB) R 2 k2
  have e : ((lns 1 0 (lineB (111 :: [98, 106, 101, 99, 116]) [S, Kn, I, R.length] ++ (R.flatMap rowB4 ++ es.flatMap evB))).map rowT).length = _ := congrArg List.length h1
  rw [List.length_cons, h2, lns_evs, List.length_map] at e
  dsimp only at hl
  omega
end Go.Proofs.YtdaenbgjafalcaaDoor
namespace Go.Proofs.YtdaenbgjafalcaaDoor
open Go.RowKit Go.Shelf Go.Lib Go.Sort
def joinT_ren : Go.Shelf.Ren := ⟨fun | 156 => 53 | 165 => 69 | 166 => 26 | 169 => 29 | 240 => 52 | 241 => 76 | 276 => 68 | 277 => 81 | n => n, fun | 31 => 112 | 9 => 9 | 3 => 3 | 4 => 4 | 0 => 0 | 20 => 20 | 72 => 71 | 76 => 74 | 70 => 68 | 37 => 69 | 75 => 73 | 127 => 114 | 164 => 125 | 5 => 5 | 80 => 78 | n => n, fun | n => n⟩
theorem joinT : Go.Proofs.Lays.n156 Tryd.prog joinT_ren := {
  mixed := by kernel_rfl
  f156 := Tryd.func53.trans (congrArg some (by kernel_rfl))
  f165 := Tryd.func69.trans (congrArg some (by kernel_rfl))
  f166 := Tryd.func26.trans (congrArg some (by kernel_rfl))
  f169 := Tryd.func29.trans (congrArg some (by kernel_rfl))
  f240 := Tryd.func52.trans (congrArg some (by kernel_rfl))
  f241 := Tryd.func76.trans (congrArg some (by kernel_rfl))
  f276 := Tryd.func68.trans (congrArg some (by kernel_rfl))
  f277 := Tryd.func81.trans (congrArg some (by kernel_rfl))
  t0 := Tryd.underlying0
  a0 := Tryd.isAgg0
  z0 := Tryd.sizeOf0
  v0 := Tryd.zeroValue0
  t3 := Tryd.underlying3
  a3 := Tryd.isAgg3
  z3 := Tryd.sizeOf3
  v3 := Tryd.zeroValue3
  t4 := Tryd.underlying4
  a4 := Tryd.isAgg4
  z4 := Tryd.sizeOf4
  v4 := Tryd.zeroValue4
  t9 := Tryd.underlying9
  a9 := Tryd.isAgg9
  z9 := Tryd.sizeOf9
  v9 := Tryd.zeroValue9
  t20 := Tryd.underlying20
  a20 := Tryd.isAgg20
  z20 := Tryd.sizeOf20
  v20 := Tryd.zeroValue20
  t31 := Tryd.underlying112
  a31 := Tryd.isAgg112
  z31 := Tryd.sizeOf112
  v31 := Tryd.zeroValue112
  t37 := Tryd.underlying69
  a37 := Tryd.isAgg69
  z37 := Tryd.sizeOf69
  v37 := Tryd.zeroValue69
  t70 := Tryd.underlying68
  a70 := Tryd.isAgg68
  z70 := Tryd.sizeOf68
  v70 := Tryd.zeroValue68
  t72 := Tryd.underlying71
  a72 := Tryd.isAgg71
  z72 := Tryd.sizeOf71
  v72 := Tryd.zeroValue71
  t75 := Tryd.underlying73
  a75 := Tryd.isAgg73
  z75 := Tryd.sizeOf73
  v75 := Tryd.zeroValue73
  t76 := Tryd.underlying74
  a76 := Tryd.isAgg74
  z76 := Tryd.sizeOf74
  v76 := Tryd.zeroValue74
  t127 := Tryd.underlying114
  a127 := Tryd.isAgg114
  z127 := Tryd.sizeOf114
  v127 := Tryd.zeroValue114
  t164 := Tryd.underlying125
  a164 := Tryd.isAgg125
  z164 := Tryd.sizeOf125
  v164 := Tryd.zeroValue125 }
theorem joinX : Builder.Extra Tryd.prog joinT_ren := ⟨⟨by kernel_rfl, by kernel_rfl⟩, Tryd.underlying5, Tryd.isAgg5, Tryd.sizeOf5, Tryd.zeroValue5, by kernel_rfl, by kernel_rfl, by kernel_rfl, by decide⟩
def iTxs (xs : List (List UInt8)) : IV := .sl (fun j => .lit (.string (ba (xs.getD j [])))) xs.length 1
theorem pf_Join (xs : List (List UInt8)) (sep : List UInt8) (hx : xs.length ≤ 1000000) (hl : (Lib.join xs sep).length ≤ 1000000000) : PF Tryd.prog 53 [.iv (iTxs xs), lt (.string (ba sep))] fun r H' => r = lt (.string (ba (Lib.join xs sep))) ∧ H' = [] :=
  PF_of_walk ⟨_, Tryd.func53, by kernel_rfl, rfl⟩ fun G w vs hi hr => by
    obtain ⟨v1, us, rfl, r1, hr⟩ := hr.uncons
    obtain ⟨v2, us, rfl, r2, hr⟩ := hr.uncons
    rw [hr.unnil, r2.lit_inv]
    have hm : (xs.map ba).map (·.data.toList) = xs := by rw [List.map_map]; simp [Function.comp_def, ba]
    have hnone : xs.length = 0 → ∀ (a : Option Addr) (cap : Nat), Calls Tryd.prog 53 #[.slice a 0 cap, .string (ba sep)] w fun e w' => e = .returned (.string (ba (Lib.join xs sep))) ∧ Below w.heap.size w w' := fun h0 a cap => by
      obtain rfl := List.length_eq_zero_iff.1 h0
      refine (show Calls Tryd.prog 53 #[.slice a 0 cap, .string (ba sep)] w _ from Any.strings_Join_none joinT joinX a cap (ba sep) w).mono ?_
      rintro e w' ⟨rfl, rfl⟩
      exact ⟨rfl, Below.refl _ _⟩
    have key : ∃ a cap, v1 = .slice a xs.length cap ∧ Calls Tryd.prog 53 #[.slice a xs.length cap, .string (ba sep)] w fun e w' => e = .returned (.string (ba (Lib.join xs sep))) ∧ Below w.heap.size w w' := by
      unfold iTxs at r1
      cases r1 with
      | iv _ _ h =>
        generalize hn : xs.length = n at *
        cases h with
        | nil _ _ cap _ => exact ⟨none, cap, rfl, hnone rfl _ _⟩
        | empty _ _ a cap _ => exact ⟨some a, cap, rfl, hnone rfl _ _⟩
        | sl _ _ _ b off cap cs t fr us h1 h2 h3 h4 h5 =>
          have hb := hi.fz b _ h1
          refine ⟨_, cap, rfl, ?_⟩
          have h := Any.strings_Join joinT joinX b off cap (xs.map ba) (ba sep) w (fun j x hj => by
            rw [List.getElem?_map] at hj
            obtain ⟨y, hy, rfl⟩ := Option.map_eq_some_iff.1 hj
            have hjn : j < n := by rw [← hn]; exact (List.getElem?_eq_some_iff.1 hy).1
            have e1 := h2 j (by omega)
            have e2 : RI G.fz (.lit (.string (ba (xs.getD j [])))) (us j) := h3 j (by omega)
            have e3 : us j = .string (ba y) := by
              generalize us j = u at *
              rw [List.getD_eq_getElem?_getD, hy] at e2
              cases e2; rfl
            rw [e3] at e1
            simp [World.cell?, hb, e1]) (lt_of_heap hb) (by simp; omega) (by simp; omega) (by rw [hm]; show (Lib.join xs sep).length ≤ _; omega)
          rw [hm, List.length_map, hn] at h
          exact h
    obtain ⟨a, cap, rfl, h⟩ := key
    exact h
end Go.Proofs.YtdaenbgjafalcaaDoor
