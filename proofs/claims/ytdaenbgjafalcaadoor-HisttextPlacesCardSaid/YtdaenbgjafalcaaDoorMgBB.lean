import Derived.Test.YtdaenbgjafalcaaDoorMgBA
import Derived.Test.YtdaenbgjafalcaaDoorMgAQ
import Derived.Test.YtdaenbgjafalcaaDoorMgAI
import Derived.Test.YtdaenbgjafalcaaDoorMgAV
import Derived.Test.YtdaenbgjafalcaaDoorMgAP
namespace Go.Proofs.YtdaenbgjafalcaaDoor
open Go.RowKit Go.Shelf Go.Lib Go.Sort
set_option linter.unusedVariables false
set_option linter.unusedSimpArgs false
theorem PF_of_walkE {P : Program} {f : FuncId} {args : List AV} {Q : AV → Prop} (hc : Callable P f) (h : ∀ (G : Gh) w vs, Inv G [] w → RL 0 G args vs → Calls P f vs.toArray w fun e w' => (∃ v r, e = .returned v ∧ RA 0 G r v ∧ Q r) ∧ Below w.heap.size w w') : PF P f args fun r' H' => Q r' ∧ H' = [] :=
  ⟨hc, fun G w vs hi hr => (h G w vs hi hr).mono fun e w' ⟨⟨v, r, h1, hv, hq⟩, h2⟩ => ⟨v, r, G, [], h1, Gh.le.refl _ _, Nat.le_refl _, ⟨h2.os.trans hi.os, h2.tape.trans hi.tape, h2.output.trans hi.output, fun b x e => (h2.block b (lt_of_heap (hi.fz b x e))).trans (hi.fz b x e), fun b x e => (h2.block b (lt_of_heap (hi.kp b x e))).trans (hi.kp b x e), fun o ho => hi.dom o ho, fun o x e => by simp at e, fun o x e => by simp at e, fun o o' x x' e => by simp at e⟩, hv, hq, rfl⟩⟩
theorem ra_tup2 {G : Gh} {a b : Value} : RA 0 G (.tup [lt a, lt b]) (.tuple #[a, b]) := .tup [_, _] [_, _] rfl (RL.cons (.iv _ _ (.lit _)) (RL.cons (.iv _ _ (.lit _)) (RL.nil _ _))).2
theorem pf_AtoiOk {l : List UInt8} (hl : l.length ≤ 1000000) (h : numOk l = true) (hb : -9223372036854775808 ≤ numV l ∧ numV l ≤ 9223372036854775807) : PF Tryd.prog 75 [lt (.string (ba l))] fun r H' => r = .tup [lt (.int .i64 (numV l)), lt .nilIface] ∧ H' = [] :=
  PF_of_walkE ⟨_, Tryd.func75, by kernel_rfl, rfl⟩ fun G w vs hi hr => by
    obtain ⟨v1, us, rfl, r1, hr⟩ := hr.uncons
    rw [hr.unnil, r1.lit_inv]
    have e1 : Lib.atoiAll (ba l).data.toList = .ok (numV l) := by rw [ba_list, atoi_num h, if_pos hb]
    have h := Any.strconv_Atoi_ok atoiL (ba l) (by rw [ba_size]; omega) (numV l) e1 w
    refine (show Calls Tryd.prog 75 #[.string (ba l)] w _ from h).mono ?_
    rintro e w' ⟨rfl, hw⟩
    refine ⟨⟨_, _, rfl, ra_tup2, rfl⟩, ?_⟩
    rcases hw with rfl | ⟨t, rfl⟩
    · exact Below.refl _ _
    · exact Lib.bytesWorld_below _ _ _
theorem base_err {G : Gh} {H : AHeap} {w : World} (hi : Inv G H w) : ∃ te pe, w.cell? ⟨3, 0, none⟩ = some (.iface te pe) := by
  obtain ⟨x, hx, te, pe, t, fr, rfl⟩ := G.bs _ (List.Mem.tail _ (List.Mem.head _))
  have hh : w.heap[3]? = _ := hi.fz _ _ hx
  exact ⟨te, pe, by rw [cell_of_heap hh]; rfl⟩
theorem pf_AtoiNo {l : List UInt8} (hl : l.length ≤ 1000000) (h : numOk l = true) (hb : ¬ (-9223372036854775808 ≤ numV l ∧ numV l ≤ 9223372036854775807)) : PF Tryd.prog 75 [lt (.string (ba l))] fun r H' => (∃ n v, r = .tup [lt (.int .i64 n), lt v] ∧ isNilV v = some false) ∧ H' = [] :=
  PF_of_walkE ⟨_, Tryd.func75, by kernel_rfl, rfl⟩ fun G w vs hi hr => by
    obtain ⟨v1, us, rfl, r1, hr⟩ := hr.uncons
    rw [hr.unnil, r1.lit_inv]
    have e1 : Lib.atoiAll (ba l).data.toList = .range := by rw [ba_list, atoi_num h, if_neg hb]
    obtain ⟨te, pe, hc⟩ := base_err hi
    have h := Any.strconv_Atoi_range atoiL (ba l) (by rw [ba_size]; omega) e1 (.iface te pe) w hc (.inr ⟨te, pe, rfl⟩)
    refine (show Calls Tryd.prog 75 #[.string (ba l)] w _ from h).mono ?_
    rintro e w' ⟨N, rfl, h1, h2, h3⟩
    exact ⟨⟨_, _, rfl, ra_tup2, _, _, rfl, rfl⟩, h3⟩
set_option maxRecDepth 100000 in
set_option maxHeartbeats 4000000 in
theorem pf_Number (l : List UInt8) (lo hi : Int) (hl : l.length ≤ 1000000) : PF Tryd.prog 64 [lt (.string (ba l)), lt (.int .i64 lo), lt (.int .i64 hi)] fun r H' => r = .tup [lt (.int .i64 (numR l lo hi).1), lt (.int .i64 (numR l lo hi).2)] ∧ H' = [] := by
  refine SF.forgetAll ?_
  have hs1 := trivial; have hs2 := trivial; have hs3 := trivial; have hs4 := trivial; have hs5 := trivial; have hC := trivial; have hI := trivial; have hS := trivial; have hV := trivial
  have hC := pf_numeral l hl
  cases h1 : numOk l with
  | false =>
    rw [h1] at hC
    have hz : numR l lo hi = (0, 5) := by unfold numR; rw [if_pos h1]
    rw [hz]
    (refine SF_of_bodyX (aload tt) (aload_ok tyOK) Tryd.func64 rfl (by kernel_rfl) ?_; simp only [Tryd.ntmps64, List.length_cons, List.length_nil, Nat.reduceAdd, Nat.reduceSub, List.replicate_succ, List.replicate_zero, List.cons_append, List.nil_append])
    (repeat (first | (first | (with_reducible first | refine AX_block ?_ | refine AX_skip ?_ | refine AX_exit ?_ | refine AX_ret ?_ | refine AX_ift ?_ | refine AX_iff ?_ | refine AX_seq_k (fun K hK => ?_) | refine ContX.use (by assumption) ?_) | simp only [thenX, inBlockX, if_true, if_false, reduceCtorEq]) | (first | ((with_reducible refine XOP tyOK ?_); simp (disch := omega) only [go_sem , hs1, hs2, hs3, hs4, hs5, eqRes]; (with_reducible refine XRes_id ?_)) | (with_reducible refine XSK ?_)) | ((with_reducible refine XRes_nil ?_); refine hK _ ?_; clear hK K) | ((with_reducible refine AX_reg0 fun K hK => ?_); simp only [go_sem]) | (first | (refine XRes_nilI rfl (by first | exact .inl rfl | exact .inr rfl) rfl hV (by kernel_rfl) ?_; (simp only [putL, List.set_cons_succ, List.set_cons_zero])) | (first | refine XTL (by rfl) hC ?_ | refine XTL (by rfl) hI ?_) | ((refine XRes_fn (by rfl) hS ?_); (rintro r H' ⟨⟨n, v, rfl, hV⟩, rfl⟩); (simp only [putL, List.set_cons_succ, List.set_cons_zero])))))
    (simp only [bodyX]; refine ⟨_, by simp only [aresults, aresult, XS.as, Tryd.results64, aload, go_sem, Option.bind_some]; rfl, ?_⟩)
    exact ⟨ids_idB rfl, rfl, trivial⟩
  | true =>
    rw [h1] at hC
    have hz : numR l lo hi = if -9223372036854775808 ≤ numV l ∧ numV l ≤ 9223372036854775807 ∧ lo ≤ numV l ∧ numV l ≤ hi then (numV l, 0) else (0, 7) := by unfold numR; rw [if_neg (by simp [h1])]
    by_cases h2 : -9223372036854775808 ≤ numV l ∧ numV l ≤ 9223372036854775807
    · have hI := pf_AtoiOk hl h1 h2
      have hV : isNilV .nilIface = some true := rfl
      generalize numV l = n at *
      by_cases h3 : n < lo
      · have e2 : numR l lo hi = (0, 7) := by rw [hz, if_neg (fun h => by omega)]
        rw [e2]
        (refine SF_of_bodyX (aload tt) (aload_ok tyOK) Tryd.func64 rfl (by kernel_rfl) ?_; simp only [Tryd.ntmps64, List.length_cons, List.length_nil, Nat.reduceAdd, Nat.reduceSub, List.replicate_succ, List.replicate_zero, List.cons_append, List.nil_append])
        (repeat (first | (first | (with_reducible first | refine AX_block ?_ | refine AX_skip ?_ | refine AX_exit ?_ | refine AX_ret ?_ | refine AX_ift ?_ | refine AX_iff ?_ | refine AX_seq_k (fun K hK => ?_) | refine ContX.use (by assumption) ?_) | simp only [thenX, inBlockX, if_true, if_false, reduceCtorEq]) | (first | ((with_reducible refine XOP tyOK ?_); simp (disch := omega) only [go_sem , hs1, hs2, hs3, hs4, hs5, eqRes]; (with_reducible refine XRes_id ?_)) | (with_reducible refine XSK ?_)) | ((with_reducible refine XRes_nil ?_); refine hK _ ?_; clear hK K) | ((with_reducible refine AX_reg0 fun K hK => ?_); simp only [go_sem]) | (first | (refine XRes_nilI rfl (by first | exact .inl rfl | exact .inr rfl) rfl hV (by kernel_rfl) ?_; (simp only [putL, List.set_cons_succ, List.set_cons_zero])) | (first | refine XTL (by rfl) hC ?_ | refine XTL (by rfl) hI ?_) | ((refine XRes_fn (by rfl) hS ?_); (rintro r H' ⟨⟨n, v, rfl, hV⟩, rfl⟩); (simp only [putL, List.set_cons_succ, List.set_cons_zero])))))
        (simp only [bodyX]; refine ⟨_, by simp only [aresults, aresult, XS.as, Tryd.results64, aload, go_sem, Option.bind_some]; rfl, ?_⟩)
        exact ⟨ids_idB rfl, rfl, trivial⟩
      · by_cases h4 : hi < n
        · have e2 : numR l lo hi = (0, 7) := by rw [hz, if_neg (fun h => by omega)]
          rw [e2]
          (refine SF_of_bodyX (aload tt) (aload_ok tyOK) Tryd.func64 rfl (by kernel_rfl) ?_; simp only [Tryd.ntmps64, List.length_cons, List.length_nil, Nat.reduceAdd, Nat.reduceSub, List.replicate_succ, List.replicate_zero, List.cons_append, List.nil_append])
          (repeat (first | (first | (with_reducible first | refine AX_block ?_ | refine AX_skip ?_ | refine AX_exit ?_ | refine AX_ret ?_ | refine AX_ift ?_ | refine AX_iff ?_ | refine AX_seq_k (fun K hK => ?_) | refine ContX.use (by assumption) ?_) | simp only [thenX, inBlockX, if_true, if_false, reduceCtorEq]) | (first | ((with_reducible refine XOP tyOK ?_); simp (disch := omega) only [go_sem , hs1, hs2, hs3, hs4, hs5, eqRes]; (with_reducible refine XRes_id ?_)) | (with_reducible refine XSK ?_)) | ((with_reducible refine XRes_nil ?_); refine hK _ ?_; clear hK K) | ((with_reducible refine AX_reg0 fun K hK => ?_); simp only [go_sem]) | (first | (refine XRes_nilI rfl (by first | exact .inl rfl | exact .inr rfl) rfl hV (by kernel_rfl) ?_; (simp only [putL, List.set_cons_succ, List.set_cons_zero])) | (first | refine XTL (by rfl) hC ?_ | refine XTL (by rfl) hI ?_) | ((refine XRes_fn (by rfl) hS ?_); (rintro r H' ⟨⟨n, v, rfl, hV⟩, rfl⟩); (simp only [putL, List.set_cons_succ, List.set_cons_zero])))))
          (simp only [bodyX]; refine ⟨_, by simp only [aresults, aresult, XS.as, Tryd.results64, aload, go_sem, Option.bind_some]; rfl, ?_⟩)
          exact ⟨ids_idB rfl, rfl, trivial⟩
        · have e2 : numR l lo hi = (n, 0) := by rw [hz, if_pos (by omega)]
          rw [e2]
          (refine SF_of_bodyX (aload tt) (aload_ok tyOK) Tryd.func64 rfl (by kernel_rfl) ?_; simp only [Tryd.ntmps64, List.length_cons, List.length_nil, Nat.reduceAdd, Nat.reduceSub, List.replicate_succ, List.replicate_zero, List.cons_append, List.nil_append])
          (repeat (first | (first | (with_reducible first | refine AX_block ?_ | refine AX_skip ?_ | refine AX_exit ?_ | refine AX_ret ?_ | refine AX_ift ?_ | refine AX_iff ?_ | refine AX_seq_k (fun K hK => ?_) | refine ContX.use (by assumption) ?_) | simp only [thenX, inBlockX, if_true, if_false, reduceCtorEq]) | (first | ((with_reducible refine XOP tyOK ?_); simp (disch := omega) only [go_sem , hs1, hs2, hs3, hs4, hs5, eqRes]; (with_reducible refine XRes_id ?_)) | (with_reducible refine XSK ?_)) | ((with_reducible refine XRes_nil ?_); refine hK _ ?_; clear hK K) | ((with_reducible refine AX_reg0 fun K hK => ?_); simp only [go_sem]) | (first | (refine XRes_nilI rfl (by first | exact .inl rfl | exact .inr rfl) rfl hV (by kernel_rfl) ?_; (simp only [putL, List.set_cons_succ, List.set_cons_zero])) | (first | refine XTL (by rfl) hC ?_ | refine XTL (by rfl) hI ?_) | ((refine XRes_fn (by rfl) hS ?_); (rintro r H' ⟨⟨n, v, rfl, hV⟩, rfl⟩); (simp only [putL, List.set_cons_succ, List.set_cons_zero])))))
          (simp only [bodyX]; refine ⟨_, by simp only [aresults, aresult, XS.as, Tryd.results64, aload, go_sem, Option.bind_some]; rfl, ?_⟩)
          exact ⟨ids_idB rfl, rfl, trivial⟩
    · have hS := pf_AtoiNo hl h1 h2
      have e2 : numR l lo hi = (0, 7) := by rw [hz, if_neg (fun h => h2 ⟨h.1, h.2.1⟩)]
      rw [e2]
      (refine SF_of_bodyX (aload tt) (aload_ok tyOK) Tryd.func64 rfl (by kernel_rfl) ?_; simp only [Tryd.ntmps64, List.length_cons, List.length_nil, Nat.reduceAdd, Nat.reduceSub, List.replicate_succ, List.replicate_zero, List.cons_append, List.nil_append])
      (repeat (first | (first | (with_reducible first | refine AX_block ?_ | refine AX_skip ?_ | refine AX_exit ?_ | refine AX_ret ?_ | refine AX_ift ?_ | refine AX_iff ?_ | refine AX_seq_k (fun K hK => ?_) | refine ContX.use (by assumption) ?_) | simp only [thenX, inBlockX, if_true, if_false, reduceCtorEq]) | (first | ((with_reducible refine XOP tyOK ?_); simp (disch := omega) only [go_sem , hs1, hs2, hs3, hs4, hs5, eqRes]; (with_reducible refine XRes_id ?_)) | (with_reducible refine XSK ?_)) | ((with_reducible refine XRes_nil ?_); refine hK _ ?_; clear hK K) | ((with_reducible refine AX_reg0 fun K hK => ?_); simp only [go_sem]) | (first | (refine XRes_nilI rfl (by first | exact .inl rfl | exact .inr rfl) rfl hV (by kernel_rfl) ?_; (simp only [putL, List.set_cons_succ, List.set_cons_zero])) | (first | refine XTL (by rfl) hC ?_ | refine XTL (by rfl) hI ?_) | ((refine XRes_fn (by rfl) hS ?_); (rintro r H' ⟨⟨n, v, rfl, hV⟩, rfl⟩); (simp only [putL, List.set_cons_succ, List.set_cons_zero])))))
      (simp only [bodyX]; refine ⟨_, by simp only [aresults, aresult, XS.as, Tryd.results64, aload, go_sem, Option.bind_some]; rfl, ?_⟩)
      exact ⟨ids_idB rfl, rfl, trivial⟩
end Go.Proofs.YtdaenbgjafalcaaDoor
namespace Go.Proofs.YtdaenbgjafalcaaDoor
open Go.RowKit Go.Lib
set_option linter.unusedSimpArgs false
def lastEnd (T : List Tok3) : Int := (T.getD (T.length - 1) tok0).2.1 + (((T.getD (T.length - 1) tok0).2.2.length : Nat) : Int)
def nGo (le z : Int) : List Tok3 → List (Int × Int) → List Int → List Int × Int × Int
  | [], [], acc => (acc, z, 0)
  | t :: _, [], _ => ([], t.2.1, 6)
  | [], _ :: _, _ => ([], le, 4)
  | t :: T, b :: bs, acc => if (numR t.2.2 b.1 b.2).2 ≠ 0 then ([], t.2.1, (numR t.2.2 b.1 b.2).2) else nGo le z T bs (acc ++ [(numR t.2.2 b.1 b.2).1])
def nums (T : List Tok3) (w : List UInt8) (lo hi : List Int) (z : Int) : List Int × Int × Int :=
  if T.length = 0 then ([], z, 4) else if (T.getD 0 tok0).2.2 ≠ w then ([], (T.getD 0 tok0).2.1, 8) else nGo (lastEnd T) z (T.drop 1) (lo.zip hi) []
theorem nGo_len {le z : Int} : ∀ {T : List Tok3} {bs : List (Int × Int)} {acc : List Int}, (nGo le z T bs acc).2.2 = 0 → (nGo le z T bs acc).1.length = acc.length + bs.length ∧ (nGo le z T bs acc).2.1 = z
  | [], [], acc, h => ⟨by simp [nGo], rfl⟩
  | t :: _, [], _, h => by simp [nGo] at h
  | [], _ :: _, _, h => by simp [nGo] at h
  | t :: T, b :: bs, acc, h => by
    rw [nGo] at h ⊢
    split at h
    · rename_i h1; exact absurd h h1
    · rename_i h1
      rw [if_neg h1]
      obtain ⟨h2, h3⟩ := nGo_len h
      refine ⟨?_, h3⟩
      rw [h2]; simp; omega
def iTokL (T : List Tok3) : IV := .sl (fun j => .lit ((tokL T).getD j undef)) T.length 3
def iLs (L : List (List Tok3)) : IV := .sl (fun j => iTokL (L.getD j [])) L.length 1
theorem tokL_row (a c : Nat) (ts : List (Nat × List UInt8)) : tokL (rowT (a, c, ts)) = tkL a c ts := by
  unfold tokL rowT tkL
  rw [List.flatMap_map]
theorem rowT_length (a c : Nat) (ts : List (Nat × List UInt8)) : (rowT (a, c, ts)).length = ts.length := by unfold rowT; simp
theorem iTokL_row (a c : Nat) (ts : List (Nat × List UInt8)) : iTk a c ts = iTokL (rowT (a, c, ts)) := by
  unfold iTk iTokL
  rw [tokL_row, rowT_length]
theorem iLn_ls (rs : List (Nat × Nat × List (Nat × List UInt8))) : iLn rs = iLs (rs.map rowT) := by
  unfold iLn iLs
  rw [List.length_map]
  congr 1
  funext j
  by_cases hj : j < rs.length
  · rw [List.getD_eq_getElem?_getD, List.getD_eq_getElem?_getD, List.getElem?_map, List.getElem?_eq_getElem hj]
    exact iTokL_row _ _ _
  · rw [List.getD_eq_getElem?_getD, List.getD_eq_getElem?_getD, List.getElem?_map, List.getElem?_eq_none (by omega)]
    exact iTokL_row _ _ _
theorem dropG {α : Type} (L : List α) (k j : Nat) (d : α) : (L.drop k).getD j d = L.getD (k + j) d := by
  rw [List.getD_eq_getElem?_getD, List.getD_eq_getElem?_getD, List.getElem?_drop]
theorem tokL_drop (T : List Tok3) : ∀ k : Nat, tokL (T.drop k) = (tokL T).drop (k * 3) := by
  induction T with
  | nil => intro k; simp [tokL]
  | cons t T ih =>
    intro k
    cases k with
    | zero => simp
    | succ k =>
      have e : tokL (t :: T) = [.int .i64 t.1, .int .i64 t.2.1, .string (ba t.2.2)] ++ tokL T := by unfold tokL; rw [List.flatMap_cons]
      rw [List.drop_succ_cons, ih, e, List.drop_append]
      have : (k + 1) * 3 = k * 3 + 3 := by omega
      rw [this]
      simp
theorem tok_tail (T : List Tok3) (k : Nat) : (fun j => IV.lit ((tokL T).getD (k * 3 + j) undef)) = fun j => IV.lit ((tokL (T.drop k)).getD j undef) := by
  funext j; rw [tokL_drop, dropG]
theorem ls_tail (L : List (List Tok3)) (k : Nat) : (fun j => iTokL (L.getD (k + j) [])) = fun j => iTokL ((L.drop k).getD j []) := by
  funext j; rw [dropG]
def nxt : List (List Tok3) → List Tok3 × List (List Tok3)
  | [] => ([], [])
  | x :: L => if x.length = 0 then nxt L else (x, L)
def said (L : List (List Tok3)) : List (List Tok3) := L.filter fun x => decide (x.length ≠ 0)
theorem nxt_said : ∀ L : List (List Tok3), (said L).getD 0 [] = (nxt L).1 ∧ said (nxt L).2 = (said L).drop 1
  | [] => ⟨rfl, rfl⟩
  | x :: L => by
    unfold nxt said
    by_cases h : x.length = 0
    · rw [if_pos h, List.filter_cons, if_neg (by simp [h])]; exact nxt_said L
    · rw [if_neg h, List.filter_cons, if_pos (by simp [h])]; exact ⟨rfl, rfl⟩
theorem nxt_len : ∀ L : List (List Tok3), (nxt L).2.length ≤ L.length
  | [] => Nat.le_refl _
  | x :: L => by
    unfold nxt
    split
    · have := nxt_len L; rw [List.length_cons]; omega
    · show L.length ≤ (x :: L).length
      rw [List.length_cons]; omega
def wObj : List UInt8 := [111, 98, 106, 101, 99, 116]
def wRow : List UInt8 := [114, 111, 119]
def lo4 : List Int := [0, 0, 0, 0]
def hi4 : List Int := [1000000, 1000000, 1000000, 1000000]
def rwOf (n : List Int) : Rw := ⟨n.getD 0 0, n.getD 1 0, n.getD 2 0, n.getD 3 0⟩
def rowsGo (z : Int) : Nat → List (List Tok3) → List Rw → List Int → List Rw × List Int × List (List Tok3) × Int × Int
  | 0, L, R, P => (R, P, L, z, 0)
  | n + 1, L, R, P => if (nums (nxt L).1 wRow lo4 hi4 z).2.2 ≠ 0 then ([], [], [], (nums (nxt L).1 wRow lo4 hi4 z).2.1, (nums (nxt L).1 wRow lo4 hi4 z).2.2)
      else rowsGo z n (nxt L).2 (R ++ [rwOf (nums (nxt L).1 wRow lo4 hi4 z).1]) (P ++ [((nxt L).1.getD 0 tok0).2.1])
def ob0 : Ob := ⟨0, 0, 0, []⟩
def takeP (L : List (List Tok3)) (z : Int) : Ob × List (List Tok3) × Int × Int :=
  let q := nums (nxt L).1 wObj lo4 hi4 z
  if q.2.2 ≠ 0 then (ob0, [], q.2.1, q.2.2) else
  let g := rowsGo z (q.1.getD 3 0).toNat (nxt L).2 [] []
  if g.2.2.2.2 ≠ 0 then (ob0, [], g.2.2.2.1, g.2.2.2.2) else
  let o : Ob := ⟨q.1.getD 0 0, q.1.getD 1 0, q.1.getD 2 0, g.1⟩
  if obE o = 2 then (ob0, [], ((nxt L).1.getD 0 tok0).2.1, 2) else
  if obE o ≠ 0 then (ob0, [], g.2.1.getD (obAt o).toNat 0, obE o) else (o, g.2.2.1, z, 0)
def oprs (L : List (List Tok3)) (z : Int) : Ob × Int × Int :=
  let q := takeP L z
  if q.2.2.2 ≠ 0 then (ob0, q.2.2.1, q.2.2.2) else if (nxt q.2.1).1.length ≠ 0 then (ob0, ((nxt q.2.1).1.getD 0 tok0).2.1, 6) else (q.1, z, 0)
end Go.Proofs.YtdaenbgjafalcaaDoor
namespace Go.Proofs.YtdaenbgjafalcaaDoor
open Go.RowKit
abbrev opA (x : Op5) : AV := .agg [lt (.int .i64 x.p), lt (.int .i64 x.k), lt (.int .i64 x.s), lt (.int .i64 x.e), lt (.int .i64 x.r)]
def oFl (x : Op5) : List Int := [x.p, x.k, x.s, x.e, x.r]
def flatO (xs : List Op5) : List Int := xs.flatMap oFl
def iOps (xs : List Op5) : IV := iFlat (flatO xs) xs.length 5
end Go.Proofs.YtdaenbgjafalcaaDoor
