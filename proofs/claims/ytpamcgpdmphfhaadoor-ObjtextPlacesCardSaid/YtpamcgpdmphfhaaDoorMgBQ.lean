import Derived.Test.YtpamcgpdmphfhaaDoorMgBM
import Derived.Test.YtpamcgpdmphfhaaDoorMgBP
import Derived.Test.YtpamcgpdmphfhaaDoorMgAV
namespace Go.Proofs.YtpamcgpdmphfhaaDoor
open Go.RowKit
set_option linter.unusedVariables false
theorem wf_j24 {x : Int} (h : (Lit.int .i64 x).wf = true) : -9223372036854775808 ≤ x ∧ x ≤ 9223372036854775807 := bounds_i64 h
theorem ra_ints2 {W : World} [BaseAt fun b => W.heap[b]?] {a b : Option Addr} {len cap len2 cap2 : Nat} {A B : List Int} (h : IntRow W a len A) (h1 : len ≤ cap) (h2 : cap ≤ maxLen) (g : IntRow W b len2 B) (g1 : len2 ≤ cap2) (g2 : cap2 ≤ maxLen) : RA 0 (Gh.of W) (.agg [.iv (iInts A), .iv (iInts B)]) (.agg #[.slice a len cap, .slice b len2 cap2]) :=
  RA.agg [.iv (iInts A), .iv (iInts B)] [.slice a len cap, .slice b len2 cap2] rfl (fun i x v e e' => by
    rcases i with _ | _ | i
    · simp at e e'; subst e e'; exact .iv _ _ (ri_ints h h1 h2)
    · simp at e e'; subst e e'; exact .iv _ _ (ri_ints g g1 g2)
    · simp at e) rfl
theorem objtextLines_walk (w : World) (hB : BaseAt fun b => w.heap[b]?) (s : ByteArray) (hl : s.size ≤ maxLen)
    (a1 : Option Addr) (len1 cap1 : Nat) (A : List Int) (hr1 : IntRow w a1 len1 A) (hf1 : Fits A) (hc1 : len1 ≤ cap1 ∧ cap1 ≤ maxLen ∧ (a1 = none → cap1 = 0))
    (a2 : Option Addr) (len2 cap2 : Nat) (B : List Int) (hr2 : IntRow w a2 len2 B) (hf2 : Fits B) (hc2 : len2 ≤ cap2 ∧ cap2 ≤ maxLen ∧ (a2 = none → cap2 = 0))
    (x y z : Int) (wx : (Lit.int .i64 x).wf = true) (wy : (Lit.int .i64 y).wf = true) (wz : (Lit.int .i64 z).wf = true) (a : Option Addr) (len cap : Nat) (hs : StructRow w 4 a len cap) :
    Calls Tryd.prog 4 #[.string s, .agg #[.slice a1 len1 cap1, .slice a2 len2 cap2], .agg #[.int .i64 x, .int .i64 y, .int .i64 z, .slice a len cap]] w fun e w' => e = .returned (.bool true) ∧ Below w.heap.size w w' := by
  haveI := hB
  obtain ⟨xs, e1, _, r1⟩ := hs.rwsA
  have b1 := hs.2.1
  have c1 := hs.1
  have b2 := hc1.2.1; have b3 := hc2.2.1
  have d2 := hc1.1; have d3 := hc2.1
  have l2 := hr1.1; have l3 := hr2.1
  unfold maxLen at b1 b2 b3
  exact law_of (SF.mono (pf_ObjtextLines s A B ⟨x, y, z, xs⟩ ⟨wf_j24 wx, wf_j24 wy, wf_j24 wz⟩ (by show xs.length ≤ _; omega) (by omega) (by omega) pf_awake24) fun r H' h => h.1) w _ (RL.three (.iv _ _ (.lit _)) (ra_ints2 hr1 hc1.1 hc1.2.1 hr2 hc2.1 hc2.2.1) (RL.obj r1))
end Go.Proofs.YtpamcgpdmphfhaaDoor
namespace Go.Proofs.YtpamcgpdmphfhaaDoor
open Go.RowKit Go.Lib
def HitT (e a : Int) (t : Tok3) : Prop := (e ≠ 4 ∧ t.2.1 = a) ∨ (e = 4 ∧ t.2.1 + ((t.2.2.length : Nat) : Int) = a)
def EdgeT (L : List (List Tok3)) (z a e : Int) : Prop := (e = 4 ∧ a = z) ∨ ∃ T ∈ L, ∃ t ∈ T, HitT e a t
theorem EdgeT.sub {L L' : List (List Tok3)} {z a e : Int} (h : EdgeT L z a e) (hs : ∀ T ∈ L, T ∈ L') : EdgeT L' z a e := by
  rcases h with h | ⟨T, hT, h⟩
  · exact .inl h
  · exact .inr ⟨T, hs T hT, h⟩
theorem getT_mem {T : List Tok3} {k : Nat} (h : k < T.length) : T.getD k tok0 ∈ T := by
  rw [List.getD_eq_getElem?_getD, List.getElem?_eq_getElem h]; exact List.getElem_mem h
theorem numR_ne4 (l : List UInt8) (lo hi : Int) : (numR l lo hi).2 ≠ 4 := by
  unfold numR
  split
  · exact (by decide : (5 : Int) ≠ 4)
  · split
    · exact (by decide : (0 : Int) ≠ 4)
    · exact (by decide : (7 : Int) ≠ 4)
theorem nGo_edge {T0 : List Tok3} {le z : Int} (hle : ∃ t ∈ T0, t.2.1 + ((t.2.2.length : Nat) : Int) = le) : ∀ (T : List Tok3) (bs : List (Int × Int)) (acc : List Int), (∀ t ∈ T, t ∈ T0) → (nGo le z T bs acc).2.2 ≠ 0 → ∃ t ∈ T0, HitT (nGo le z T bs acc).2.2 (nGo le z T bs acc).2.1 t
  | [], [], acc, _, h => by simp [nGo] at h
  | t :: _, [], _, hs, h => ⟨t, hs t (by simp), .inl ⟨by simp [nGo], by simp [nGo]⟩⟩
  | [], _ :: _, _, _, h => by
    obtain ⟨t, ht, h1⟩ := hle
    exact ⟨t, ht, .inr ⟨by simp [nGo], by simpa [nGo] using h1⟩⟩
  | t :: T, b :: bs, acc, hs, h => by
    rw [nGo] at h ⊢
    by_cases h1 : (numR t.2.2 b.1 b.2).2 ≠ 0
    · rw [if_pos h1]
      exact ⟨t, hs t (by simp), .inl ⟨numR_ne4 _ _ _, rfl⟩⟩
    · rw [if_neg h1] at h ⊢
      exact nGo_edge hle T bs _ (fun x hx => hs x (by simp [hx])) h
theorem nums_edge {T : List Tok3} {w : List UInt8} {lo hi : List Int} {z : Int} (h : (nums T w lo hi z).2.2 ≠ 0) : ((nums T w lo hi z).2.2 = 4 ∧ (nums T w lo hi z).2.1 = z) ∨ ∃ t ∈ T, HitT (nums T w lo hi z).2.2 (nums T w lo hi z).2.1 t := by
  unfold nums at h ⊢
  by_cases h0 : T.length = 0
  · rw [if_pos h0]; exact .inl ⟨rfl, rfl⟩
  · rw [if_neg h0] at h ⊢
    by_cases h1 : (T.getD 0 tok0).2.2 ≠ w
    · rw [if_pos h1]
      exact .inr ⟨_, getT_mem (by omega : 0 < T.length), .inl ⟨(by decide : (8 : Int) ≠ 4), rfl⟩⟩
    · rw [if_neg h1] at h ⊢
      exact .inr (nGo_edge ⟨_, getT_mem (by omega : T.length - 1 < T.length), rfl⟩ _ _ _ (fun t ht => List.mem_of_mem_drop ht) h)
theorem nxt_mem : ∀ {L : List (List Tok3)}, ((nxt L).1.length ≠ 0 → (nxt L).1 ∈ L) ∧ ∀ T ∈ (nxt L).2, T ∈ L
  | [] => ⟨fun h => absurd rfl h, fun T h => by cases h⟩
  | x :: L => by
    unfold nxt
    split
    · exact ⟨fun h => List.mem_cons_of_mem _ (nxt_mem.1 h), fun T h => List.mem_cons_of_mem _ (nxt_mem.2 T h)⟩
    · exact ⟨fun _ => by simp, fun T h => List.mem_cons_of_mem _ h⟩
theorem numsN_edge {L : List (List Tok3)} {w : List UInt8} {lo hi : List Int} {z : Int} (h : (nums (nxt L).1 w lo hi z).2.2 ≠ 0) : EdgeT L z (nums (nxt L).1 w lo hi z).2.1 (nums (nxt L).1 w lo hi z).2.2 := by
  rcases nums_edge h with h1 | ⟨t, ht, h1⟩
  · exact .inl h1
  · exact .inr ⟨_, nxt_mem.1 (fun h0 => by rw [List.length_eq_zero_iff.1 h0] at ht; cases ht), t, ht, h1⟩
def Begins (L : List (List Tok3)) (p : Int) : Prop := ∃ T ∈ L, ∃ t ∈ T, t.2.1 = p
theorem Begins.edge {L : List (List Tok3)} {p z e : Int} (h : Begins L p) (he : e ≠ 4) : EdgeT L z p e := by
  obtain ⟨T, hT, t, ht, h1⟩ := h
  exact .inr ⟨T, hT, t, ht, .inl ⟨he, h1⟩⟩
theorem nxt_begins {L : List (List Tok3)} (h : (nxt L).1.length ≠ 0) : Begins L ((nxt L).1.getD 0 tok0).2.1 := ⟨_, nxt_mem.1 h, _, getT_mem (by omega), rfl⟩
theorem rowsGo_edge {L0 : List (List Tok3)} {z : Int} : ∀ (m : Nat) (L : List (List Tok3)) (R : List Rw) (P : List Int), (∀ T ∈ L, T ∈ L0) → (∀ p ∈ P, Begins L0 p) →
    ((rowsGo z m L R P).2.2.2.2 ≠ 0 → EdgeT L0 z (rowsGo z m L R P).2.2.2.1 (rowsGo z m L R P).2.2.2.2) ∧ ((rowsGo z m L R P).2.2.2.2 = 0 → (∀ p ∈ (rowsGo z m L R P).2.1, Begins L0 p) ∧ (rowsGo z m L R P).2.1.length = P.length + m ∧ ∀ T ∈ (rowsGo z m L R P).2.2.1, T ∈ L0)
  | 0, L, R, P, hs, hP => ⟨fun h => absurd rfl h, fun _ => ⟨hP, rfl, hs⟩⟩
  | m + 1, L, R, P, hs, hP => by
    by_cases he : (nums (nxt L).1 wRow lo4 hi4 z).2.2 = 0
    · rw [rowsGo_ok he]
      obtain ⟨h1, h2⟩ := rowsGo_edge (L0 := L0) (z := z) m (nxt L).2 (R ++ [rwOf (nums (nxt L).1 wRow lo4 hi4 z).1]) (P ++ [((nxt L).1.getD 0 tok0).2.1]) (fun T hT => hs T (nxt_mem.2 T hT)) (fun p hp => by
        rcases List.mem_append.1 hp with hp | hp
        · exact hP p hp
        · rw [List.mem_singleton] at hp; subst hp
          obtain ⟨T, hT, h⟩ := nxt_begins (nums_ok he).1
          exact ⟨T, hs T hT, h⟩)
      refine ⟨h1, fun h => ?_⟩
      obtain ⟨h3, h4, h5⟩ := h2 h
      exact ⟨h3, by rw [h4, List.length_append, List.length_singleton]; omega, h5⟩
    · rw [rowsGo_bad he]
      exact ⟨fun _ => (numsN_edge he).sub hs, fun h => absurd h he⟩
theorem obErr_ne4 (o : Ob) (i : Nat) : obErr o i ≠ 4 := by
  unfold obErr
  split
  · decide
  · split
    · decide
    · split
      · decide
      · split <;> decide
theorem obE_ne4 (o : Ob) : obE o ≠ 4 := by
  unfold obE
  split
  · split
    · exact obErr_ne4 _ _
    · decide
  · decide
theorem takeP_edge {L : List (List Tok3)} {z : Int} : ((takeP L z).2.2.2 ≠ 0 → EdgeT L z (takeP L z).2.2.1 (takeP L z).2.2.2) ∧ ∀ T ∈ (takeP L z).2.1, T ∈ L := by
  by_cases he : (tq L z).2.2 = 0
  · obtain ⟨g1, g2⟩ := rowsGo_edge (L0 := L) (z := z) ((tq L z).1.getD 3 0).toNat (nxt L).2 [] [] nxt_mem.2 (by simp)
    by_cases hg : (tg L z).2.2.2.2 = 0
    · rw [takeP_o he hg]
      obtain ⟨g3, g4, g5⟩ := g2 hg
      have hlen := (rowsGo_said _ _ _ _ (show (rowsGo z ((tq L z).1.getD 3 0).toNat (nxt L).2 [] []).2.2.2.2 = 0 from hg)).2
      by_cases c1 : obE (tob L z) = 2
      · rw [if_pos c1]
        exact ⟨fun _ => (nxt_begins (nums_ok he).1).edge (by show (2 : Int) ≠ 4; decide), fun T h => by cases h⟩
      · rw [if_neg c1]
        by_cases c2 : obE (tob L z) ≠ 0
        · rw [if_pos c2]
          refine ⟨fun _ => Begins.edge ?_ (obE_ne4 _), fun T h => by cases h⟩
          obtain ⟨a1, a2⟩ := ob_at c2 c1
          have a3 : (tob L z).R.length = (tg L z).2.1.length := by
            show (rowsGo z ((tq L z).1.getD 3 0).toNat (nxt L).2 [] []).1.length = (rowsGo z ((tq L z).1.getD 3 0).toNat (nxt L).2 [] []).2.1.length
            rw [hlen, g4]; rfl
          refine g3 _ ?_
          show (tg L z).2.1.getD (obAt (tob L z)).toNat 0 ∈ (tg L z).2.1
          rw [List.getD_eq_getElem?_getD, List.getElem?_eq_getElem (by omega)]; exact List.getElem_mem _
        · rw [if_neg c2]
          exact ⟨fun h => absurd rfl h, g5⟩
    · rw [takeP_g he hg]
      exact ⟨fun _ => g1 hg, fun T h => by cases h⟩
  · rw [takeP_q he]
    exact ⟨fun _ => numsN_edge he, fun T h => by cases h⟩
theorem opr_edge (l : List UInt8) : ((opr l).2.2 = 0 → (opr l).2.1 = l.length) ∧ ((opr l).2.2 ≠ 0 → EdgeT (lnsT l) l.length (opr l).2.1 (opr l).2.2) := by
  unfold opr
  obtain ⟨h1, h2⟩ := takeP_edge (L := lnsT l) (z := (l.length : Int))
  by_cases h : (takeP (lnsT l) l.length).2.2.2 = 0
  · rw [oprs_ok h]
    by_cases hn : (nxt (takeP (lnsT l) l.length).2.1).1.length ≠ 0
    · rw [if_pos hn]
      obtain ⟨T, hT, h⟩ := nxt_begins hn
      exact ⟨(fun h => by cases h), fun _ => Begins.edge ⟨T, h2 T hT, h⟩ (by decide : (6 : Int) ≠ 4)⟩
    · rw [if_neg hn]
      exact ⟨fun _ => rfl, fun h => absurd rfl h⟩
  · rw [oprs_bad h]
    exact ⟨fun h0 => absurd h0 h, fun _ => h1 h⟩
end Go.Proofs.YtpamcgpdmphfhaaDoor
namespace Go.Proofs.YtpamcgpdmphfhaaDoor
open Go.RowKit Go.Lib
set_option linter.unusedVariables false
set_option linter.unusedSimpArgs false
theorem Wbac6a {A B : Prop} (h9 : B) (w : B → A := by (intro h9; (repeat intro K hK); refine ⟨?_⟩; (repeat (first | (first | (with_reducible first | refine AX_block ?_ | refine AX_skip ?_ | refine AX_exit ?_ | refine AX_ret ?_ | refine AX_ift ?_ | refine AX_iff ?_ | refine AX_seq_k (fun K hK => ?_) | refine ContX.use (by assumption) ?_) | simp only [thenX, inBlockX, if_true, if_false, reduceCtorEq]) | (first | ((first | (with_reducible refine XRes_op tyOK ?_ ?_) | ((with_reducible first | refine ADF_op tyOK ?_ ?_ ?_ | refine ADX_op tyOK ?_ ?_ ?_); (focus rfl)) | (with_reducible refine ADR_alloc1 tyOK ?_ ?_) | ((with_reducible refine ADR_free1 tyOK ?_ ?_ ?_); (focus rfl)) | ((with_reducible refine ADR_free0 tyOK ?_ ?_ ?_); (focus rfl)) | ((with_reducible refine ADR_read1 tyOK ?_ ?_ ?_); (focus rfl)) | (with_reducible refine ADR_chg1 tyOK ?_ ?_)); (focus (first | (with_reducible rfl) | ((simp (disch := omega) only [go_sem]); done))); simp (disch := omega) only [go_sem , hs1, hs2, hs3, hs4, hs5, hs6, hs7, hs8, hs9, hsa, hsb, hsc, hsd, Int.toNat_zero, Int.toNat_one, Int.reduceToNat, Nat.reduceMul, Nat.reduceAdd, Nat.zero_add, Int.toNat_natCast, List.length_nil, beq_self_eq_true, ba_size, bne_self_eq_false]; (first | (with_reducible refine XRes_id ?_) | (with_reducible refine ADF_id ?_) | (with_reducible refine ADR_id1 ?_) | (with_reducible refine ADX_id ?_))) | ((first | (with_reducible refine XRes_skip ?_ ?_) | (with_reducible refine ADF_skip (b := true) ?_ ?_) | (with_reducible refine ADX_skip ?_ ?_) | ((with_reducible refine ADR_skip1 ?_ ?_ ?_); (focus rfl))); (focus (first | rfl | ((simp (disch := omega) only [go_sem]); done))); (simp only [putL, List.set_cons_succ, List.set_cons_zero]))) | ((first | (with_reducible refine XRes_nil ?_) | (with_reducible refine ADF_nil ?_) | (with_reducible refine ADR_nil ?_) | (with_reducible refine ADX_nil ?_)); (first | refine hK _ ?_ | refine hK _ _ ?_); clear hK K) | ((first | (with_reducible refine AX_reg0 fun K hK => ?_) | (refine AX_drawG1 tyOK (by kernel_rfl) (by rfl) (by kernel_rfl) fun K hK => ?_) | (refine AX_drawT tyOK (by kernel_rfl) (by decide +kernel) fun K hK => ?_) | (refine AX_drawM1 (by kernel_rfl) (by rfl) (by decide +kernel) fun K hK => ?_) | (refine AX_drawA tyOK (by kernel_rfl) (by decide +kernel) fun K hK => ?_)); (first | simp only [go_sem, preN, effOp, runF, alM, mapOp, alD2, kdOf2, Bool.not_false, Bool.not_true, reduceCtorEq] | simp only [go_sem, preN, effOp, runF, alM, mapOp, Bool.not_false, Bool.not_true, reduceCtorEq] | simp only [go_sem, preN, effOp, runF, alD2, kdOf2, Bool.not_false, Bool.not_true, reduceCtorEq] | simp only [go_sem, alD2, kdOf2, Bool.not_false, Bool.not_true, reduceCtorEq] | simp only [go_sem, preN, effOp, runF, Bool.not_false, Bool.not_true, reduceCtorEq] | simp only [go_sem])) | (first | (first | refine XTL (by rfl) hAw ?_ | refine ATL tyOK (by rfl) hAw ?_ | refine XTL (by rfl) hP ?_ | refine ATL tyOK (by rfl) hP ?_ | refine XTL (by rfl) hL ?_ | refine ATL tyOK (by rfl) hL ?_)))); refine Wk.o ?_; (repeat revert hK K); exact h9)) : A := w h9
set_option maxRecDepth 100000 in
set_option maxHeartbeats 4000000 in
theorem pf_ObjtextPlaces (s : ByteArray) (hAw : PF Tryd.prog 7 [] fun r H' => r = lt (.bool true) ∧ H' = []) : PF Tryd.prog 6 [lt (.string s)] fun r H' => r = lt (.bool true) ∧ H' = [] := by
  refine SF.forgetAll ?_
  have hs1 := trivial; have hs2 := trivial; have hs3 := trivial; have hs4 := trivial; have hs5 := trivial; have hs6 := trivial; have hs7 := trivial; have hs8 := trivial; have hs9 := trivial; have hsa := trivial; have hsb := trivial; have hsc := trivial; have hsd := trivial; have hP := trivial; have hL := trivial
  obtain ⟨l, rfl⟩ : ∃ l, s = ba l := ⟨s.data.toList, (ba_of s).symm⟩
  by_cases hl : 3000 < l.length
  · have hs1 : decide ((3000 : Int) < (l.length : Int)) = true := decide_eq_true (by omega)
    (refine SF_of_bodyX (aload tt) (aload_ok tyOK) Tryd.func6 rfl (by kernel_rfl) ?_; simp only [Tryd.ntmps6, List.length_cons, List.length_nil, Nat.reduceAdd, Nat.reduceSub, List.replicate_succ, List.replicate_zero, List.cons_append, List.nil_append])
    (refine Wk.o ?_; (repeat revert hK K); refine Wbac6a ?_; (repeat intro K hK); refine ⟨?_⟩)
    (simp only [bodyX]; refine ⟨_, by simp only [aresults, aresult, XS.as, Tryd.results6, aload, go_sem, Option.bind_some]; rfl, ?_⟩)
    exact ⟨ids_idB rfl, rfl, trivial⟩
  · have hs1 : decide ((3000 : Int) < (l.length : Int)) = false := decide_eq_false (by omega)
    have hP := pf_oParse l (by omega)
    obtain ⟨hE0, hE1⟩ := opr_edge l
    have hL := pf_LinesT l (by omega)
    have hok := lnsT_ok (l := l) (by omega)
    generalize opr l = P at *
    generalize lnsT l = L at *
    obtain ⟨⟨S2, K2, I2, R2⟩, at1, e1⟩ := P
    unfold obA at hP
    dsimp only at hP hE0 hE1
    by_cases he : e1 = 0
    · subst he
      have ha := hE0 rfl
      subst ha
      clear hE1
      (refine SF_of_bodyX (aload tt) (aload_ok tyOK) Tryd.func6 rfl (by kernel_rfl) ?_; simp only [Tryd.ntmps6, List.length_cons, List.length_nil, Nat.reduceAdd, Nat.reduceSub, List.replicate_succ, List.replicate_zero, List.cons_append, List.nil_append])
      (refine Wk.o ?_; (repeat revert hK K); refine Wbac6a ?_; (repeat intro K hK); refine ⟨?_⟩)
      (simp only [bodyX]; refine ⟨_, by simp only [aresults, aresult, XS.as, Tryd.results6, aload, go_sem, Option.bind_some]; rfl, ?_⟩)
      exact ⟨ids_idB rfl, rfl, trivial⟩
    · have hs2 : (e1 == 0) = false := by simpa using he
      by_cases ha : at1 = (l.length : Int)
      · subst ha
        (refine SF_of_bodyX (aload tt) (aload_ok tyOK) Tryd.func6 rfl (by kernel_rfl) ?_; simp only [Tryd.ntmps6, List.length_cons, List.length_nil, Nat.reduceAdd, Nat.reduceSub, List.replicate_succ, List.replicate_zero, List.cons_append, List.nil_append])
        (refine Wk.o ?_; (repeat revert hK K); refine Wbac6a ?_; (repeat intro K hK); refine ⟨?_⟩)
        (simp only [bodyX]; refine ⟨_, by simp only [aresults, aresult, XS.as, Tryd.results6, aload, go_sem, Option.bind_some]; rfl, ?_⟩)
        exact ⟨ids_idB rfl, rfl, trivial⟩
      · have hs3 : (at1 == (l.length : Int)) = false := by simpa using ha
        have hE := (hE1 he).resolve_left fun h => ha h.2
        have hlen := hok.len
        clear hE0 hE1
        have hs4 : iLs L = .sl (fun j => iTokL (L.getD j [])) L.length 1 := rfl
        (refine SF_of_bodyX (aload tt) (aload_ok tyOK) Tryd.func6 rfl (by kernel_rfl) ?_; simp only [Tryd.ntmps6, List.length_cons, List.length_nil, Nat.reduceAdd, Nat.reduceSub, List.replicate_succ, List.replicate_zero, List.cons_append, List.nil_append])
        (refine Wk.o ?_; (repeat revert hK K); refine Wbac6a ?_; (repeat intro K hK); refine ⟨?_⟩)
        (refine AWH (σ := Nat) [37, 38, 39, 40, 8, 43, 44, 45, 46, 47, 48, 49, 52, 53, 54, 55, 56, 57, 58, 9, 59, 60, 61, 62, 63, 64, 65, 66, 67, 68, 69, 70, 71, 72, 73, 74, 75, 76, 77, 78, 79, 80, 81, 2, 50, 51, 41, 42] (fun i => [(7, lint i)]) (fun i => [some ⟨25, [lt (.int .i64 S2), lt (.int .i64 K2), lt (.int .i64 I2), .iv (iRws R2)]⟩]) (fun i => []) (fun i => i ≤ L.length ∧ ∀ j, j < i → ∀ t ∈ L.getD j [], ¬ HitT e1 at1 t) (fun i => L.length - i) 0 (by first | exact ⟨Nat.zero_le _, fun j h => absurd h (by omega)⟩) ?_; rintro i d fr hfr ⟨hi, hno⟩; simp only [updS, deadS, List.set_cons_succ, List.set_cons_zero, lint] at hfr; subst hfr; (try dsimp only))
        by_cases hlt : i < L.length
        · have hs5 : decide ((i : Int) < (L.length : Int)) = true := decide_eq_true (by omega)
          have hT := hok.get i
          generalize hTT : L.getD i [] = T at *
          have hTl := hT.len
          have hs6 : iTokL (L.getD i []) = .sl (fun j => .lit ((tokL T).getD j undef)) T.length 3 := by rw [hTT]; rfl
          (refine Wk.o ?_; (repeat revert hK K); refine Wbac6a ?_; (repeat intro K hK); refine ⟨?_⟩)
          (refine AWH (σ := Nat) [43, 44, 45, 46, 47, 48, 49, 52, 53, 54, 55, 56, 57, 58, 9, 59, 60, 61, 62, 63, 64, 65, 66, 67, 68, 69, 70, 71, 72, 73, 74, 75, 76, 77, 78, 79, 80, 81, 2, 50, 51] (fun k => [(8, lint k)]) (fun k => [some ⟨25, [lt (.int .i64 S2), lt (.int .i64 K2), lt (.int .i64 I2), .iv (iRws R2)]⟩]) (fun k => []) (fun k => k ≤ T.length ∧ ∀ j, j < k → ¬ HitT e1 at1 (T.getD j tok0)) (fun k => T.length - k) 0 (by first | exact ⟨Nat.zero_le _, fun j h => absurd h (by omega)⟩) ?_; rintro k d fr hfr ⟨hk, hnk⟩; simp only [updS, deadS, List.set_cons_succ, List.set_cons_zero, lint] at hfr; subst hfr; (try dsimp only))
          by_cases hlk : k < T.length
          · have hs7 : decide ((k : Int) < (T.length : Int)) = true := decide_eq_true (by omega)
            obtain ⟨f1, f2, f3⟩ := tokL_atL (T := T) (k := k) hlk
            have hpp := hT.pos k
            have htx := hT.txt k
            have hI : ¬ HitT e1 at1 (T.getD k tok0) → k + 1 ≤ T.length ∧ ∀ j, j < k + 1 → ¬ HitT e1 at1 (T.getD j tok0) := fun hn => ⟨hlk, fun j hj => by
              rcases Nat.lt_or_ge j k with h | h
              · exact hnk j h
              · obtain rfl : j = k := by omega
                exact hn⟩
            unfold HitT at hI
            have hs8 := f1; have hs9 := f2; have hsa := f3
            clear f1 f2 f3
            generalize (T.getD k tok0).1 = tl at *
            generalize (T.getD k tok0).2.1 = p at *
            generalize (T.getD k tok0).2.2 = tx at *
            by_cases h4 : e1 = 4
            · subst h4
              by_cases hp : p = at1
              · have hsb : (p == at1) = true := by simpa using hp
                by_cases hq : p + (tx.length : Int) = at1
                · have hsc : (p + (tx.length : Int) == at1) = true := by simpa using hq
                  (refine Wk.o ?_; (repeat revert hK K); refine Wbac6a ?_; (repeat intro K hK); refine ⟨?_⟩)
                  (simp only [bodyX]; refine ⟨_, by simp only [aresults, aresult, XS.as, Tryd.results6, aload, go_sem, Option.bind_some]; rfl, ?_⟩)
                  exact ⟨ids_idB rfl, rfl, trivial⟩
                · have hsc : (p + (tx.length : Int) == at1) = false := by simpa using hq
                  have hI2 := hI (by rintro (⟨h, _⟩ | ⟨_, h⟩); exact h rfl; exact hq h)
                  (refine Wk.o ?_; (repeat revert hK K); refine Wbac6a ?_; (repeat intro K hK); refine ⟨?_⟩)
                  exact whx_ren [0] (k + 1) hI2 (by (first | omega | (dsimp only; omega) | (simp only; omega))) rfl (by decide) (by decide) (by (simp (disch := omega) only [go_sem, lint , hs1, hs2, hs3, hs4, hs5, hs6, hs7, hs8, hs9, hsa, hsb, hsc, hsd, Int.toNat_zero, Int.toNat_one, Int.reduceToNat, Nat.reduceMul, Nat.reduceAdd, Nat.zero_add, Int.toNat_natCast, List.length_nil, beq_self_eq_true, ba_size, bne_self_eq_false])) (by (simp (disch := omega) only [go_sem, lint , hs1, hs2, hs3, hs4, hs5, hs6, hs7, hs8, hs9, hsa, hsb, hsc, hsd, Int.toNat_zero, Int.toNat_one, Int.reduceToNat, Nat.reduceMul, Nat.reduceAdd, Nat.zero_add, Int.toNat_natCast, List.length_nil, beq_self_eq_true, ba_size, bne_self_eq_false])) (by (simp (disch := omega) only [go_sem, lint , hs1, hs2, hs3, hs4, hs5, hs6, hs7, hs8, hs9, hsa, hsb, hsc, hsd, Int.toNat_zero, Int.toNat_one, Int.reduceToNat, Nat.reduceMul, Nat.reduceAdd, Nat.zero_add, Int.toNat_natCast, List.length_nil, beq_self_eq_true, ba_size, bne_self_eq_false])) (fun d => by first | ((simp (disch := omega) only [go_sem, lint , hs1, hs2, hs3, hs4, hs5, hs6, hs7, hs8, hs9, hsa, hsb, hsc, hsd, Int.toNat_zero, Int.toNat_one, Int.reduceToNat, Nat.reduceMul, Nat.reduceAdd, Nat.zero_add, Int.toNat_natCast, List.length_nil, beq_self_eq_true, ba_size, bne_self_eq_false]); done) | ((simp (disch := omega) only [go_sem, lint , hs1, hs2, hs3, hs4, hs5, hs6, hs7, hs8, hs9, hsa, hsb, hsc, hsd, Int.toNat_zero, Int.toNat_one, Int.reduceToNat, Nat.reduceMul, Nat.reduceAdd, Nat.zero_add, Int.toNat_natCast, List.length_nil, beq_self_eq_true, ba_size, bne_self_eq_false]); rfl))
              · have hsb : (p == at1) = false := by simpa using hp
                by_cases hq : p + (tx.length : Int) = at1
                · have hsc : (p + (tx.length : Int) == at1) = true := by simpa using hq
                  (refine Wk.o ?_; (repeat revert hK K); refine Wbac6a ?_; (repeat intro K hK); refine ⟨?_⟩)
                  (simp only [bodyX]; refine ⟨_, by simp only [aresults, aresult, XS.as, Tryd.results6, aload, go_sem, Option.bind_some]; rfl, ?_⟩)
                  exact ⟨ids_idB rfl, rfl, trivial⟩
                · have hsc : (p + (tx.length : Int) == at1) = false := by simpa using hq
                  have hI2 := hI (by rintro (⟨h, _⟩ | ⟨_, h⟩); exact h rfl; exact hq h)
                  (refine Wk.o ?_; (repeat revert hK K); refine Wbac6a ?_; (repeat intro K hK); refine ⟨?_⟩)
                  exact whx_ren [0] (k + 1) hI2 (by (first | omega | (dsimp only; omega) | (simp only; omega))) rfl (by decide) (by decide) (by (simp (disch := omega) only [go_sem, lint , hs1, hs2, hs3, hs4, hs5, hs6, hs7, hs8, hs9, hsa, hsb, hsc, hsd, Int.toNat_zero, Int.toNat_one, Int.reduceToNat, Nat.reduceMul, Nat.reduceAdd, Nat.zero_add, Int.toNat_natCast, List.length_nil, beq_self_eq_true, ba_size, bne_self_eq_false])) (by (simp (disch := omega) only [go_sem, lint , hs1, hs2, hs3, hs4, hs5, hs6, hs7, hs8, hs9, hsa, hsb, hsc, hsd, Int.toNat_zero, Int.toNat_one, Int.reduceToNat, Nat.reduceMul, Nat.reduceAdd, Nat.zero_add, Int.toNat_natCast, List.length_nil, beq_self_eq_true, ba_size, bne_self_eq_false])) (by (simp (disch := omega) only [go_sem, lint , hs1, hs2, hs3, hs4, hs5, hs6, hs7, hs8, hs9, hsa, hsb, hsc, hsd, Int.toNat_zero, Int.toNat_one, Int.reduceToNat, Nat.reduceMul, Nat.reduceAdd, Nat.zero_add, Int.toNat_natCast, List.length_nil, beq_self_eq_true, ba_size, bne_self_eq_false])) (fun d => by first | ((simp (disch := omega) only [go_sem, lint , hs1, hs2, hs3, hs4, hs5, hs6, hs7, hs8, hs9, hsa, hsb, hsc, hsd, Int.toNat_zero, Int.toNat_one, Int.reduceToNat, Nat.reduceMul, Nat.reduceAdd, Nat.zero_add, Int.toNat_natCast, List.length_nil, beq_self_eq_true, ba_size, bne_self_eq_false]); done) | ((simp (disch := omega) only [go_sem, lint , hs1, hs2, hs3, hs4, hs5, hs6, hs7, hs8, hs9, hsa, hsb, hsc, hsd, Int.toNat_zero, Int.toNat_one, Int.reduceToNat, Nat.reduceMul, Nat.reduceAdd, Nat.zero_add, Int.toNat_natCast, List.length_nil, beq_self_eq_true, ba_size, bne_self_eq_false]); rfl))
            · have hsd : (e1 != 4) = true := by simpa using h4
              have hsc2 : (e1 == 4) = false := by simpa using h4
              by_cases hp : p = at1
              · have hsb : (p == at1) = true := by simpa using hp
                (refine Wk.o ?_; (repeat revert hK K); refine Wbac6a ?_; (repeat intro K hK); refine ⟨?_⟩)
                (simp only [bodyX]; refine ⟨_, by simp only [aresults, aresult, XS.as, Tryd.results6, aload, go_sem, Option.bind_some]; rfl, ?_⟩)
                exact ⟨ids_idB rfl, rfl, trivial⟩
              · have hsb : (p == at1) = false := by simpa using hp
                have hI2 := hI (by rintro (⟨_, h⟩ | ⟨h, _⟩); exact hp h; exact h4 h)
                by_cases hq : p + (tx.length : Int) = at1
                · have hsc : (p + (tx.length : Int) == at1) = true := by simpa using hq
                  have hs5 := hsc2
                  (refine Wk.o ?_; (repeat revert hK K); refine Wbac6a ?_; (repeat intro K hK); refine ⟨?_⟩)
                  exact whx_ren [0] (k + 1) hI2 (by (first | omega | (dsimp only; omega) | (simp only; omega))) rfl (by decide) (by decide) (by (simp (disch := omega) only [go_sem, lint , hs1, hs2, hs3, hs4, hs5, hs6, hs7, hs8, hs9, hsa, hsb, hsc, hsd, Int.toNat_zero, Int.toNat_one, Int.reduceToNat, Nat.reduceMul, Nat.reduceAdd, Nat.zero_add, Int.toNat_natCast, List.length_nil, beq_self_eq_true, ba_size, bne_self_eq_false])) (by (simp (disch := omega) only [go_sem, lint , hs1, hs2, hs3, hs4, hs5, hs6, hs7, hs8, hs9, hsa, hsb, hsc, hsd, Int.toNat_zero, Int.toNat_one, Int.reduceToNat, Nat.reduceMul, Nat.reduceAdd, Nat.zero_add, Int.toNat_natCast, List.length_nil, beq_self_eq_true, ba_size, bne_self_eq_false])) (by (simp (disch := omega) only [go_sem, lint , hs1, hs2, hs3, hs4, hs5, hs6, hs7, hs8, hs9, hsa, hsb, hsc, hsd, Int.toNat_zero, Int.toNat_one, Int.reduceToNat, Nat.reduceMul, Nat.reduceAdd, Nat.zero_add, Int.toNat_natCast, List.length_nil, beq_self_eq_true, ba_size, bne_self_eq_false])) (fun d => by first | ((simp (disch := omega) only [go_sem, lint , hs1, hs2, hs3, hs4, hs5, hs6, hs7, hs8, hs9, hsa, hsb, hsc, hsd, Int.toNat_zero, Int.toNat_one, Int.reduceToNat, Nat.reduceMul, Nat.reduceAdd, Nat.zero_add, Int.toNat_natCast, List.length_nil, beq_self_eq_true, ba_size, bne_self_eq_false]); done) | ((simp (disch := omega) only [go_sem, lint , hs1, hs2, hs3, hs4, hs5, hs6, hs7, hs8, hs9, hsa, hsb, hsc, hsd, Int.toNat_zero, Int.toNat_one, Int.reduceToNat, Nat.reduceMul, Nat.reduceAdd, Nat.zero_add, Int.toNat_natCast, List.length_nil, beq_self_eq_true, ba_size, bne_self_eq_false]); rfl))
                · have hsc : (p + (tx.length : Int) == at1) = false := by simpa using hq
                  (refine Wk.o ?_; (repeat revert hK K); refine Wbac6a ?_; (repeat intro K hK); refine ⟨?_⟩)
                  exact whx_ren [0] (k + 1) hI2 (by (first | omega | (dsimp only; omega) | (simp only; omega))) rfl (by decide) (by decide) (by (simp (disch := omega) only [go_sem, lint , hs1, hs2, hs3, hs4, hs5, hs6, hs7, hs8, hs9, hsa, hsb, hsc, hsd, Int.toNat_zero, Int.toNat_one, Int.reduceToNat, Nat.reduceMul, Nat.reduceAdd, Nat.zero_add, Int.toNat_natCast, List.length_nil, beq_self_eq_true, ba_size, bne_self_eq_false])) (by (simp (disch := omega) only [go_sem, lint , hs1, hs2, hs3, hs4, hs5, hs6, hs7, hs8, hs9, hsa, hsb, hsc, hsd, Int.toNat_zero, Int.toNat_one, Int.reduceToNat, Nat.reduceMul, Nat.reduceAdd, Nat.zero_add, Int.toNat_natCast, List.length_nil, beq_self_eq_true, ba_size, bne_self_eq_false])) (by (simp (disch := omega) only [go_sem, lint , hs1, hs2, hs3, hs4, hs5, hs6, hs7, hs8, hs9, hsa, hsb, hsc, hsd, Int.toNat_zero, Int.toNat_one, Int.reduceToNat, Nat.reduceMul, Nat.reduceAdd, Nat.zero_add, Int.toNat_natCast, List.length_nil, beq_self_eq_true, ba_size, bne_self_eq_false])) (fun d => by first | ((simp (disch := omega) only [go_sem, lint , hs1, hs2, hs3, hs4, hs5, hs6, hs7, hs8, hs9, hsa, hsb, hsc, hsd, Int.toNat_zero, Int.toNat_one, Int.reduceToNat, Nat.reduceMul, Nat.reduceAdd, Nat.zero_add, Int.toNat_natCast, List.length_nil, beq_self_eq_true, ba_size, bne_self_eq_false]); done) | ((simp (disch := omega) only [go_sem, lint , hs1, hs2, hs3, hs4, hs5, hs6, hs7, hs8, hs9, hsa, hsb, hsc, hsd, Int.toNat_zero, Int.toNat_one, Int.reduceToNat, Nat.reduceMul, Nat.reduceAdd, Nat.zero_add, Int.toNat_natCast, List.length_nil, beq_self_eq_true, ba_size, bne_self_eq_false]); rfl))
          · obtain rfl : k = T.length := by omega
            have hI2 : i + 1 ≤ L.length ∧ ∀ j, j < i + 1 → ∀ t ∈ L.getD j [], ¬ HitT e1 at1 t := ⟨hlt, fun j hj => by
              rcases Nat.lt_or_ge j i with h | h
              · exact hno j h
              · obtain rfl : j = i := by omega
                rw [hTT]
                intro t ht
                obtain ⟨q, hq, rfl⟩ := List.mem_iff_getElem.1 ht
                have := hnk q hq
                rwa [List.getD_eq_getElem?_getD, List.getElem?_eq_getElem hq] at this⟩
            (refine Wk.o ?_; (repeat revert hK K); refine Wbac6a ?_; (repeat intro K hK); refine ⟨?_⟩)
            exact whx_end (i + 1) hI2 (by (first | omega | (dsimp only; omega) | (simp only; omega))) rfl rfl (fun d => by first | ((simp (disch := omega) only [go_sem, lint , hs1, hs2, hs3, hs4, hs5, hs6, hs7, hs8, hs9, hsa, hsb, hsc, hsd, Int.toNat_zero, Int.toNat_one, Int.reduceToNat, Nat.reduceMul, Nat.reduceAdd, Nat.zero_add, Int.toNat_natCast, List.length_nil, beq_self_eq_true, ba_size, bne_self_eq_false]); done) | ((simp (disch := omega) only [go_sem, lint , hs1, hs2, hs3, hs4, hs5, hs6, hs7, hs8, hs9, hsa, hsb, hsc, hsd, Int.toNat_zero, Int.toNat_one, Int.reduceToNat, Nat.reduceMul, Nat.reduceAdd, Nat.zero_add, Int.toNat_natCast, List.length_nil, beq_self_eq_true, ba_size, bne_self_eq_false]); rfl))
        · exfalso
          obtain ⟨T, hT, t, ht, hh⟩ := hE
          obtain ⟨q, hq, rfl⟩ := List.mem_iff_getElem.1 hT
          refine hno q (by omega) t ?_ hh
          rw [List.getD_eq_getElem?_getD, List.getElem?_eq_getElem hq]
          exact ht
end Go.Proofs.YtpamcgpdmphfhaaDoor
