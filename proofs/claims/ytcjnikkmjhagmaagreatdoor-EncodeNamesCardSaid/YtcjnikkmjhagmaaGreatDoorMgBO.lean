import Derived.Test.YtcjnikkmjhagmaaGreatDoorMgAQ
import Derived.Test.YtcjnikkmjhagmaaGreatDoorMgBL
import Derived.Test.YtcjnikkmjhagmaaGreatDoorMgBN
import Derived.Test.YtcjnikkmjhagmaaGreatDoorMgBJ
import Derived.Test.YtcjnikkmjhagmaaGreatDoorMgBH
namespace Go.Proofs.YtcjnikkmjhagmaaGreatDoor
open Go.RowKit
theorem vc_ms {n m : Int} (g : Nat → Int × Int × Int) (N : Nat) (hn : ∀ i, i < N → nName n m (g i).1 (g i).2.1 (g i).2.2) (hd : ∀ i j, i < N → j < N → g i = g j → i = j) :
    ∀ c ∈ msAll ((List.range N).map fun i => nVar n m (g i).1 (g i).2.1 (g i).2.2), VC (nVars n m) c := by
  intro c hc
  unfold msAll msUp at hc
  obtain ⟨i, hi, hc⟩ := List.mem_flatMap.1 hc
  unfold msRow at hc
  obtain ⟨t, ht, rfl⟩ := List.mem_map.1 hc
  have hi := List.mem_range.1 hi
  have ht := List.mem_range.1 ht
  have hl : ((List.range N).map fun i => nVar n m (g i).1 (g i).2.1 (g i).2.2).length = N := by simp
  rw [hl] at hi ht
  have at_ : ∀ k, k < N → ((List.range N).map fun i => nVar n m (g i).1 (g i).2.1 (g i).2.2).getD k 0 = nVar n m (g k).1 (g k).2.1 (g k).2.2 := fun k hk => by
    rw [List.getD_eq_getElem?_getD, List.getElem?_map, List.getElem?_range hk]; rfl
  rw [at_ i hi, at_ (i + 1 + t) (by omega)]
  exact vc_two (hn i hi) (hn _ (by omega)) fun e => by have := hd i (i + 1 + t) hi (by omega) e; omega
theorem plCl_vc {n m : Int} : ∀ c ∈ plCl n m, VC (nVars n m) c := by
  unfold plCl
  split
  · next hok =>
    obtain ⟨N, M, rfl, rfl, hN, hM⟩ := nOk_nat hok
    rw [Int.toNat_natCast]
    have r1 : ∀ q : Nat, q < N → ∀ i, i < N → nName N M 1 q i := fun q hq i hi => nName_1 hok (by omega) (by omega) (by omega) (by omega)
    intro c hc
    rcases List.mem_append.1 hc with hc | hc
    · unfold plU1 at hc
      obtain ⟨q, hq, hc⟩ := List.mem_flatMap.1 hc
      have hq := List.mem_range.1 hq
      rcases List.mem_cons.1 hc with rfl | hc
      · exact vc_row (fun i => (1, q, i)) N (by omega) (r1 q hq) fun i j _ _ e => by simp at e; omega
      · exact vc_ms (fun i => (1, q, i)) N (r1 q hq) (fun i j _ _ e => by simp at e; omega) c hc
    · unfold plU2 at hc
      obtain ⟨q, hq, hc⟩ := List.mem_flatMap.1 hc
      have hq := List.mem_range.1 hq
      exact vc_ms (fun i => (1, i, q)) N (fun i hi => r1 i hi q hq) (fun i j _ _ e => by simp at e; omega) c hc
  · intro c hc; cases hc
theorem stL_vc {n m init : Int} : ∀ c ∈ stL n m init, VC (nVars n m) c := by
  unfold stL
  split
  · next h =>
    obtain ⟨hok, h1, h2⟩ := h
    obtain ⟨N, M, rfl, rfl, hN, hM⟩ := nOk_nat hok
    rw [Int.toNat_natCast, Int.toNat_natCast]
    intro c hc
    rcases List.mem_cons.1 hc with rfl | hc
    · exact vc_one (x := (3, 0, init)) (nName_3 hok (by show (0 : Int) ≤ 0; omega) (by show (0 : Int) ≤ N; omega) h1 h2)
    · unfold stUp at hc
      obtain ⟨q, hq, hc⟩ := List.mem_flatMap.1 hc
      have hq := List.mem_range.1 hq
      have r3 : ∀ i, i < M → nName N M 3 q i := fun i hi => nName_3 hok (by omega) (by omega) (by omega) (by omega)
      unfold stP at hc
      rcases List.mem_cons.1 hc with rfl | hc
      · exact vc_row (fun i => (3, q, i)) M (by omega) r3 fun i j _ _ e => by simp at e; omega
      · exact vc_ms (fun i => (3, q, i)) M r3 (fun i j _ _ e => by simp at e; omega) c hc
  · intro c hc; cases hc
theorem tmL_vc {n m : Int} {us : List Int} {K : Nat} : ∀ c ∈ tmL n m us K, VC (nVars n m) c := by
  unfold tmL
  split
  · next hok =>
    obtain ⟨N, M, rfl, rfl, hN, hM⟩ := nOk_nat hok
    rw [Int.toNat_natCast]
    intro c hc
    unfold tmU at hc
    obtain ⟨p, hp, hc⟩ := List.mem_flatMap.1 hc
    unfold tmI at hc
    split at hc
    · next hg =>
      obtain ⟨⟨g1, g2⟩, ⟨g3, g4⟩, g5⟩ := hg
      unfold tmP at hc
      obtain ⟨x, hx, hc⟩ := List.mem_flatMap.1 hc
      unfold tmA at hc
      obtain ⟨y, hy, rfl⟩ := List.mem_map.1 hc
      have hx := List.mem_range.1 hx
      have hy := List.mem_range.1 hy
      unfold tmRow
      exact vc_two (x := (1, _, (x : Int))) (y := (1, _, (y : Int))) (nName_1 hok g1 g2 (by show (0 : Int) ≤ (x : Int); omega) (by show (x : Int) < N; omega)) (nName_1 hok g3 g4 (by show (0 : Int) ≤ (y : Int); omega) (by show (y : Int) < N; omega)) fun e => by simp at e; exact g5 e.1
    · cases hc
  · intro c hc; cases hc
theorem mRes_vc {o : Ob} {l : List Op5} : ∀ c ∈ mRes o l, VC (nVars (mN o l) (mS o l)) c := by
  unfold mRes
  split
  · next hok =>
    obtain ⟨hm, hln, hS1, hS2⟩ := m_nOk hok
    rw [(m_yes hm).1, (m_yes hm).2] at hok ⊢
    intro c hc
    obtain ⟨i, hi, hc⟩ := mCl_mem.1 hc
    have n2 : nName l.length o.S 2 i 0 := nName_2 hok (by omega) (by omega)
    unfold mI at hc
    rcases List.mem_append.1 hc with hc | hc
    · split at hc
      · cases hc
      · rw [List.mem_singleton.1 hc]
        exact vc_one (x := (2, i, 0)) n2
    · obtain ⟨p, hp, hc⟩ := mP_mem.1 hc
      obtain ⟨b, hb, hc⟩ := mB_mem.1 hc
      have hb : (b : Int) < o.S := by omega
      have n1 : nName l.length o.S 1 i p := nName_1 hok (by omega) (by omega) (by omega) (by omega)
      have n3 : ∀ (q : Nat) (x : Int), q ≤ l.length → 0 ≤ x → x < o.S → nName l.length o.S 3 q x := fun q x h1 h2 h3 => nName_3 hok (by omega) (by omega) h2 h3
      have hE := mvE_in hm.1 (oAt l i) b
      rcases mA_mem.1 hc with rfl | ⟨_, rfl⟩
      · unfold c1A
        split
        · next h0 =>
          have hx : mvE o (oAt l i) b < o.S := by rcases hE with ⟨_, _, h, _⟩ | ⟨_, h, _⟩ <;> omega
          exact vc_names [(false, 1, i, p), (false, 2, i, 0), (false, 3, p, b), (true, 3, (p + 1 : Nat), mvE o (oAt l i) b)] (by simp) (by
            intro z hz; simp only [List.mem_cons, List.not_mem_nil, or_false] at hz
            rcases hz with rfl | rfl | rfl | rfl
            · exact n1
            · exact n2
            · exact n3 p b (by omega) (by omega) hb
            · exact n3 (p + 1) _ (by omega) h0 hx) (by simp; omega)
        · exact vc_names [(false, 1, i, p), (false, 2, i, 0), (false, 3, p, b)] (by simp) (by
            intro z hz; simp only [List.mem_cons, List.not_mem_nil, or_false] at hz
            rcases hz with rfl | rfl | rfl
            · exact n1
            · exact n2
            · exact n3 p b (by omega) (by omega) hb) (by simp)
      · unfold c2A
        exact vc_names [(false, 1, i, p), (true, 2, i, 0), (false, 3, p, b), (true, 3, (p + 1 : Nat), b)] (by simp) (by
            intro z hz; simp only [List.mem_cons, List.not_mem_nil, or_false] at hz
            rcases hz with rfl | rfl | rfl | rfl
            · exact n1
            · exact n2
            · exact n3 p b (by omega) (by omega) hb
            · exact n3 (p + 1) b (by omega) (by omega) hb) (by simp; omega)
  · intro c hc; cases hc
end Go.Proofs.YtcjnikkmjhagmaaGreatDoor
namespace Go.Proofs.YtcjnikkmjhagmaaGreatDoor
open Go.RowKit
set_option linter.unusedVariables false
set_option linter.unusedSimpArgs false
theorem eE_ok {o : Ob} {l : List Op5} (h : eE o l = 0) : mOk o l ∧ l.length ≤ 64 ∧ nOk (mN o l) (mS o l) ∧ 0 < cAll (mN o l) (mS o l) l ∧ cAll (mN o l) (mS o l) l ≤ 500000 ∧ nVars (mN o l) (mS o l) ≤ 900 := by
  unfold eE at h
  by_cases h1 : mOk o l
  · rw [if_neg (fun hh => hh h1)] at h
    by_cases h2 : 64 < l.length
    · rw [if_pos h2] at h; omega
    · rw [if_neg h2] at h
      unfold cFits at h
      have hb := cAll_lim (mN o l) (mS o l) l
      by_cases h3 : cAll (mN o l) (mS o l) l = 0
      · rw [if_pos h3] at h; omega
      · rw [if_neg h3] at h
        by_cases h4 : 500000 < cAll (mN o l) (mS o l) l ∨ 900 < nVars (mN o l) (mS o l)
        · rw [if_pos h4] at h; omega
        · refine ⟨h1, by omega, Classical.not_not.1 fun hh => h3 (cAll_no hh), by omega, by omega, by omega⟩
  · rw [if_pos h1] at h; omega
theorem snap_form0 {H : AHeap} : Snap H (.agg [lt (.int .i64 0), lt (.slice none 0 0)]) (aForm 0 []) := .agg _ _ rfl (fun i a b e1 e2 => by
  match i with
  | 0 => simp at e1 e2; subst e1 e2; exact .same _ (.iv _)
  | 1 => simp at e1 e2; subst e1 e2; exact .iv _ _ (.nil _ _)
  | i + 2 => simp at e1) rfl
def enR (o : Ob) (l : List Op5) : List (List Int) := [plCl (mN o l) (mS o l), tmL (mN o l) (mS o l) (oPairL l l.length) (prN l), stL (mN o l) (mS o l) o.I, mRes o l].flatten
def enA (o : Ob) (l : List Op5) : AV := if eE o l = 0 then aForm (nVars (mN o l) (mS o l)) (enR o l) else aForm 0 []
theorem enA_yes {o : Ob} {l : List Op5} (h : eE o l = 0) : enA o l = aForm (nVars (mN o l) (mS o l)) (enR o l) := by unfold enA; rw [if_pos h]
theorem enA_no {o : Ob} {l : List Op5} (h : ¬ eE o l = 0) : enA o l = aForm 0 [] := by unfold enA; rw [if_neg h]
theorem snapC_g3 {H : AHeap} {o : Nat} {t : TypeId} {R : List (List (List Int))} (h : H[o]? = some (some ⟨t, R.map rowsA⟩)) : SnapC H (.osl o 0 R.length 1) (iRows3 R) :=
  .osl o 0 R.length 1 _ _ (fun j => rowsA (R.getD j [])) (by decide) h (fun j hj => by
    rw [Nat.zero_add]; show (R.map rowsA)[j]? = _
    rw [List.getElem?_map, List.getElem?_eq_getElem (by omega)]; simp only [Option.map_some, List.getD_eq_getElem?_getD, List.getElem?_eq_getElem (show j < R.length by omega), Option.getD_some]) fun j _ => .iv _
theorem vc_short {V : Int} {R : List (List Int)} (h : ∀ c ∈ R, VC V c) (j : Nat) : (R.getD j []).length ≤ 1000 := by
  rcases Nat.lt_or_ge j R.length with hj | hj
  · rw [List.getD_eq_getElem?_getD, List.getElem?_eq_getElem hj]; exact (h _ (List.getElem_mem hj)).1
  · rw [List.getD_eq_getElem?_getD, List.getElem?_eq_none hj]; decide
theorem enR_len {o : Ob} {l : List Op5} (h : eE o l = 0) : (plCl (mN o l) (mS o l)).length ≤ 100000000 ∧ (tmL (mN o l) (mS o l) (oPairL l l.length) (prN l)).length ≤ 100000000 ∧ (stL (mN o l) (mS o l) o.I).length ≤ 100000000 ∧ (mRes o l).length ≤ 1000000 := by
  obtain ⟨hm, hl, hok, _⟩ := eE_ok h
  have e1 := plCl_len (mN o l) (mS o l)
  have b1 := qP_lim (mN o l) (mS o l)
  have hin := ob_init hm.1
  have e2 := stL_len (mN o l) (mS o l) o.I fun _ => by rw [(m_yes hm).2]; exact hin
  have b2 := qS_lim (mN o l) (mS o l)
  have e3 := tmL_cnt (m := mS o l) hm.2 (by rw [← (m_yes hm).1]; exact hok)
  rw [← (m_yes hm).1] at e3
  have hpl := pairs_le l l.length
  have h2 : l.length * l.length ≤ 64 * 64 := Nat.mul_le_mul hl hl
  have h3 := tri_le hl
  have h4 : prN l * tri l.length ≤ 4096 * 2048 := Nat.mul_le_mul (by unfold prN; omega) (by omega)
  exact ⟨by omega, by rw [e3]; omega, by omega, mRes_len o l⟩
set_option maxRecDepth 100000 in
set_option maxHeartbeats 4000000 in
theorem pf_Encode (o : Ob) (l : List Op5) (hr : o.R.length ≤ 100000) (ho : o.Ok) (hl : l.length ≤ 100000) (hs : okS l) : PF Tryz.prog 9 [obA o, .iv (iOps l)] fun r H' => r = .tup [enA o l, lt (.int .i64 (eE o l))] ∧ H' = [] := by
  refine SF.frozen ?_
  have hs1 := trivial; have hs2 := trivial; have hs3 := trivial
  have hF := pf_eFits o l hr ho hl hs
  by_cases he : eE o l = 0
  · rw [enA_yes he]
    obtain ⟨hm, hln, hok, _⟩ := eE_ok he
    have hPl := pf_plClauses (mN o l) (mS o l)
    have hPr := pf_PairsN l (by omega)
    obtain ⟨z, hz⟩ := pairs_even l l.length
    have hple := pairs_le l l.length
    have hll2 : l.length * l.length ≤ 64 * 64 := Nat.mul_le_mul hln hln
    have hTm := pf_tmClauses (mN o l) (mS o l) (oPairL l l.length) (prN l) (by unfold prN; omega) (by unfold prN; omega)
    have hSt := pf_stClauses (mN o l) (mS o l) o.I
    have hMv := pf_mClauses o l hr ho (by omega) hs
    have hV := pf_nVars (mN o l) (mS o l)
    obtain ⟨l1, l2, l3, l4⟩ := enR_len he
    have s1 := vc_short (plCl_vc (n := mN o l) (m := mS o l))
    have s2 := vc_short (tmL_vc (n := mN o l) (m := mS o l) (us := oPairL l l.length) (K := prN l))
    have s3 := vc_short (stL_vc (n := mN o l) (m := mS o l) (init := o.I))
    have s4 := vc_short (mRes_vc (o := o) (l := l))
    have hC := pf_Concat [plCl (mN o l) (mS o l), tmL (mN o l) (mS o l) (oPairL l l.length) (prN l), stL (mN o l) (mS o l) o.I, mRes o l] (by simp) (fun k => by
      rcases k with _ | _ | _ | _ | k
      · exact l1
      · exact l2
      · exact l3
      · show (mRes o l).length ≤ _; omega
      · show (0 : Nat) ≤ _; omega) (fun k j => by
      rcases k with _ | _ | _ | _ | k
      · exact Nat.le_trans (s1 j) (by omega)
      · exact Nat.le_trans (s2 j) (by omega)
      · exact Nat.le_trans (s3 j) (by omega)
      · exact Nat.le_trans (s4 j) (by omega)
      · show (([] : List (List Int)).getD j []).length ≤ _; simp)
    rw [show [plCl (mN o l) (mS o l), tmL (mN o l) (mS o l) (oPairL l l.length) (prN l), stL (mN o l) (mS o l) o.I, mRes o l].flatten = enR o l from rfl] at hC
    rw [he] at hF
    rw [he]
    clear s1 s2 s3 s4 l1 l2 l3 l4 hple hll2
    generalize enR o l = R at *
    generalize plCl (mN o l) (mS o l) = P1 at *
    generalize tmL (mN o l) (mS o l) (oPairL l l.length) (prN l) = P2 at *
    generalize stL (mN o l) (mS o l) o.I = P3 at *
    generalize mRes o l = P4 at *
    (refine SF_of_bodyX (aload tt) (aload_ok tyOK) Tryz.func9 rfl (by kernel_rfl) ?_; simp only [Tryz.ntmps9, List.length_cons, List.length_nil, Nat.reduceAdd, Nat.reduceSub, List.replicate_succ, List.replicate_zero, List.cons_append, List.nil_append])
    repeat (first | (first | (with_reducible first | refine AX_block ?_ | refine AX_skip ?_ | refine AX_exit ?_ | refine AX_ret ?_ | refine AX_ift ?_ | refine AX_iff ?_ | refine AX_seq_k (fun K hK => ?_) | refine ContX.use (by assumption) ?_) | simp only [thenX, inBlockX, if_true, if_false, reduceCtorEq]) | (first | ((with_reducible first | refine XOP tyOK ?_ | refine AOP tyOK ?_); simp (disch := omega) only [go_sem , szA, aForm, Int.toNat_zero, Int.toNat_one, hs1, hs2, hs3, List.length_nil]; (with_reducible first | refine XRes_id ?_ | refine ADF_id ?_)) | (with_reducible first | refine XSK ?_ | refine ASK ?_)) | ((first | (with_reducible refine XRes_nil ?_) | (with_reducible refine ADF_nil ?_)); (first | refine hK _ ?_ | refine hK _ _ ?_); clear hK K) | ((with_reducible refine AX_reg0 fun K hK => ?_); simp only [go_sem]) | (first | (first | refine XTL (by rfl) hF ?_ | refine ATL tyOK (by rfl) hF ?_ | refine XTL (by rfl) hPl ?_ | refine ATL tyOK (by rfl) hPl ?_ | refine XTL (by rfl) hPr ?_ | refine ATL tyOK (by rfl) hPr ?_ | refine XTL (by rfl) hTm ?_ | refine ATL tyOK (by rfl) hTm ?_ | refine XTL (by rfl) hSt ?_ | refine ATL tyOK (by rfl) hSt ?_ | refine XTL (by rfl) hMv ?_ | refine ATL tyOK (by rfl) hMv ?_ | refine XTL (by rfl) hV ?_ | refine ATL tyOK (by rfl) hV ?_ | refine XTL (by rfl) hC ?_ | refine ATL tyOK (by rfl) hC ?_)))
    ((refine AX_drawG tyOK (by kernel_rfl) (by kernel_rfl) fun K hK => ?_); (simp only [dsts, lapp_cons, lapp_nil, List.map_cons, List.map_nil, strip_mk, strip_gd, gix_some, List.getElem?_cons_succ, List.getElem?_cons_zero, Nat.reduceAdd]))
    repeat (first | (first | ((with_reducible first | refine XOP tyOK ?_ | refine AOP tyOK ?_); simp (disch := omega) only [go_sem , szA, aForm, Int.toNat_zero, Int.toNat_one, hs1, hs2, hs3, List.length_nil]; (with_reducible first | refine XRes_id ?_ | refine ADF_id ?_)) | (with_reducible first | refine XSK ?_ | refine ASK ?_)) | (first | (first | refine XTL (by rfl) hF ?_ | refine ATL tyOK (by rfl) hF ?_ | refine XTL (by rfl) hPl ?_ | refine ATL tyOK (by rfl) hPl ?_ | refine XTL (by rfl) hPr ?_ | refine ATL tyOK (by rfl) hPr ?_ | refine XTL (by rfl) hTm ?_ | refine ATL tyOK (by rfl) hTm ?_ | refine XTL (by rfl) hSt ?_ | refine ATL tyOK (by rfl) hSt ?_ | refine XTL (by rfl) hMv ?_ | refine ATL tyOK (by rfl) hMv ?_ | refine XTL (by rfl) hV ?_ | refine ATL tyOK (by rfl) hV ?_ | refine XTL (by rfl) hC ?_ | refine ATL tyOK (by rfl) hC ?_)) | ((refine ADF_lit tyOK (iRows3 [P1, P2, P3, P4]) rfl (by rfl) (fun H => ⟨.osl H.length 0 4 1, ⟨29, [rowsA P1, rowsA P2, rowsA P3, rowsA P4]⟩, rfl, snapC_g3 (t := 29) (R := [P1, P2, P3, P4]) (only_mk (by simp) (by simp))⟩) ?_); (simp only [putL, List.set_cons_succ, List.set_cons_zero])))
    repeat (first | ((first | (with_reducible refine XRes_nil ?_) | (with_reducible refine ADF_nil ?_)); (first | refine hK _ ?_ | refine hK _ _ ?_); clear hK K) | (first | (with_reducible first | refine AX_block ?_ | refine AX_skip ?_ | refine AX_exit ?_ | refine AX_ret ?_ | refine AX_ift ?_ | refine AX_iff ?_ | refine AX_seq_k (fun K hK => ?_) | refine ContX.use (by assumption) ?_) | simp only [thenX, inBlockX, if_true, if_false, reduceCtorEq]) | (first | ((with_reducible first | refine XOP tyOK ?_ | refine AOP tyOK ?_); simp (disch := omega) only [go_sem , szA, aForm, Int.toNat_zero, Int.toNat_one, hs1, hs2, hs3, List.length_nil]; (with_reducible first | refine XRes_id ?_ | refine ADF_id ?_)) | (with_reducible first | refine XSK ?_ | refine ASK ?_)) | ((with_reducible refine AX_reg0 fun K hK => ?_); simp only [go_sem]) | (first | (first | refine XTL (by rfl) hF ?_ | refine ATL tyOK (by rfl) hF ?_ | refine XTL (by rfl) hPl ?_ | refine ATL tyOK (by rfl) hPl ?_ | refine XTL (by rfl) hPr ?_ | refine ATL tyOK (by rfl) hPr ?_ | refine XTL (by rfl) hTm ?_ | refine ATL tyOK (by rfl) hTm ?_ | refine XTL (by rfl) hSt ?_ | refine ATL tyOK (by rfl) hSt ?_ | refine XTL (by rfl) hMv ?_ | refine ATL tyOK (by rfl) hMv ?_ | refine XTL (by rfl) hV ?_ | refine ATL tyOK (by rfl) hV ?_ | refine XTL (by rfl) hC ?_ | refine ATL tyOK (by rfl) hC ?_)) | (simp only [iRows]))
    (simp only [bodyX]; refine ⟨_, by simp only [aresults, aresult, XS.as, Tryz.results9, aload, go_sem, Option.bind_some]; rfl, ?_⟩)
    exact ⟨_, Snap.twoP (.same _ (ids_idB rfl)) (.same _ (.iv _)), rfl, trivial⟩
  · rw [enA_no he]
    have hPl := trivial; have hPr := trivial; have hTm := trivial; have hSt := trivial; have hMv := trivial; have hV := trivial; have hC := trivial
    generalize eE o l = E at *
    (refine SF_of_bodyX (aload tt) (aload_ok tyOK) Tryz.func9 rfl (by kernel_rfl) ?_; simp only [Tryz.ntmps9, List.length_cons, List.length_nil, Nat.reduceAdd, Nat.reduceSub, List.replicate_succ, List.replicate_zero, List.cons_append, List.nil_append])
    repeat (first | (first | (with_reducible first | refine AX_block ?_ | refine AX_skip ?_ | refine AX_exit ?_ | refine AX_ret ?_ | refine AX_ift ?_ | refine AX_iff ?_ | refine AX_seq_k (fun K hK => ?_) | refine ContX.use (by assumption) ?_) | simp only [thenX, inBlockX, if_true, if_false, reduceCtorEq]) | (first | ((with_reducible first | refine XOP tyOK ?_ | refine AOP tyOK ?_); simp (disch := omega) only [go_sem , szA, aForm, Int.toNat_zero, Int.toNat_one, hs1, hs2, hs3, List.length_nil]; (with_reducible first | refine XRes_id ?_ | refine ADF_id ?_)) | (with_reducible first | refine XSK ?_ | refine ASK ?_)) | ((first | (with_reducible refine XRes_nil ?_) | (with_reducible refine ADF_nil ?_)); (first | refine hK _ ?_ | refine hK _ _ ?_); clear hK K) | ((with_reducible refine AX_reg0 fun K hK => ?_); simp only [go_sem]) | (first | (first | refine XTL (by rfl) hF ?_ | refine ATL tyOK (by rfl) hF ?_ | refine XTL (by rfl) hPl ?_ | refine ATL tyOK (by rfl) hPl ?_ | refine XTL (by rfl) hPr ?_ | refine ATL tyOK (by rfl) hPr ?_ | refine XTL (by rfl) hTm ?_ | refine ATL tyOK (by rfl) hTm ?_ | refine XTL (by rfl) hSt ?_ | refine ATL tyOK (by rfl) hSt ?_ | refine XTL (by rfl) hMv ?_ | refine ATL tyOK (by rfl) hMv ?_ | refine XTL (by rfl) hV ?_ | refine ATL tyOK (by rfl) hV ?_ | refine XTL (by rfl) hC ?_ | refine ATL tyOK (by rfl) hC ?_)))
    (simp only [bodyX]; refine ⟨_, by simp only [aresults, aresult, XS.as, Tryz.results9, aload, go_sem, Option.bind_some]; rfl, ?_⟩)
    exact ⟨_, Snap.twoP snap_form0 (.same _ (.iv _)), rfl, trivial⟩
end Go.Proofs.YtcjnikkmjhagmaaGreatDoor
namespace Go.Proofs.YtcjnikkmjhagmaaGreatDoor
open Go.RowKit
set_option linter.unusedVariables false
set_option linter.unusedSimpArgs false
def wPlace : ByteArray := ⟨#[112, 108, 97, 99, 101]⟩
def wIn : ByteArray := ⟨#[105, 110]⟩
def wState : ByteArray := ⟨#[115, 116, 97, 116, 101]⟩
def nmS (n m v : Int) : ByteArray := if (nOf n m v).1 = 1 then tlS wPlace [(nOf n m v).2.1, (nOf n m v).2.2] 2 else if (nOf n m v).1 = 2 then tlS wIn [(nOf n m v).2.1] 1 else tlS wState [(nOf n m v).2.1, (nOf n m v).2.2] 2
def nmU (n m : Int) (k : Nat) : List ByteArray := (List.range k).map fun v => nmS n m (v + 1 : Nat)
theorem nmU_succ (n m : Int) (k : Nat) : nmU n m (k + 1) = nmU n m k ++ [nmS n m (k + 1 : Nat)] := by unfold nmU; rw [List.range_succ, List.map_append]; rfl
theorem nmU_len (n m : Int) (k : Nat) : (nmU n m k).length = k := by simp [nmU]
def nmX (o : Ob) (l : List Op5) : List ByteArray := if eE o l = 0 then nmU (mN o l) (mS o l) (nVars (mN o l) (mS o l)).toNat else []
theorem nOf_bd {n m v : Int} (h1 : 1 ≤ v) (hv : v ≤ nVars n m) : (1 ≤ (nOf n m v).1 ∧ (nOf n m v).1 ≤ 3) ∧ (0 ≤ (nOf n m v).2.1 ∧ (nOf n m v).2.1 < 100) ∧ 0 ≤ (nOf n m v).2.2 ∧ (nOf n m v).2.2 < 100 := by
  have h := (nOf_name h1 hv).1
  have hA := nA_bd h.1 (nOf n m v).1
  have hB := nB_bd h.1 (nOf n m v).1
  obtain ⟨_, h2, h3, h4, h5, h6, h7⟩ := h
  exact ⟨⟨h2, h3⟩, ⟨h4, by omega⟩, h6, by omega⟩
theorem W1f10a {A B : Prop} (h9 : B) (w : B → A := by (intro h9; (repeat intro K hK); refine ⟨?_⟩; (repeat (first | (first | (with_reducible first | refine AX_block ?_ | refine AX_skip ?_ | refine AX_exit ?_ | refine AX_ret ?_ | refine AX_ift ?_ | refine AX_iff ?_ | refine AX_seq_k (fun K hK => ?_) | refine ContX.use (by assumption) ?_) | simp only [thenX, inBlockX, if_true, if_false, reduceCtorEq]) | ((refine XRes_litF tyOK (by rfl) rfl (by decide) rfl rfl ?_); (simp only [List.map_cons, List.map_nil, intOf, putL, List.set_cons_succ, List.set_cons_zero])) | (first | ((with_reducible refine XOP tyOK ?_); simp (disch := omega) only [go_sem , szA, hs1, hs2, hs3, Int.toNat_zero, Int.toNat_one, Int.toNat_natCast, List.length_nil]; (with_reducible refine XRes_id ?_)) | (with_reducible refine XSK ?_)) | ((with_reducible refine XRes_nil ?_); refine hK _ ?_; clear hK K) | ((with_reducible refine AX_reg0 fun K hK => ?_); simp only [go_sem]) | (first | (first | refine XTL (by rfl) hF ?_ | refine XTL (by rfl) hV ?_ | refine XTL (by rfl) hN ?_)) | ((refine XRes_slot (by rfl) rfl hT ?_); (rintro r H' ⟨rfl, rfl⟩); (simp only [putL, List.set_cons_succ, List.set_cons_zero])))); refine Wk.o ?_; (repeat revert hK K); exact h9)) : A := w h9
set_option maxRecDepth 100000 in
set_option maxHeartbeats 8000000 in
theorem pf_Names (o : Ob) (l : List Op5) (hr : o.R.length ≤ 100000) (ho : o.Ok) (hl : l.length ≤ 100000) (hs : okS l) : PF Tryz.prog 15 [obA o, .iv (iOps l)] fun r H' => r = .iv (iStrs (nmX o l)) ∧ H' = [] := by
  refine SF.frozen ?_
  have hs1 := trivial; have hs2 := trivial; have hs3 := trivial; have hT := trivial; have hN := trivial
  have hF := pf_eFits o l hr ho hl hs
  by_cases he : eE o l = 0
  · obtain ⟨hm, hln, hok, _, _, hv9⟩ := eE_ok he
    rw [show nmX o l = nmU (mN o l) (mS o l) (nVars (mN o l) (mS o l)).toNat by unfold nmX; rw [if_pos he]]
    have hV := pf_nVars (mN o l) (mS o l)
    have hvn := nVars_nonneg (mN o l) (mS o l)
    have hbd := fun (v : Nat) h => nOf_bd (n := mN o l) (m := mS o l) (v := (v + 1 : Nat)) (by omega) h
    have hOf := fun v => pf_nOf (mN o l) (mS o l) v
    rw [he] at hF
    clear hm hok he
    generalize mN o l = n at *
    generalize mS o l = m at *
    obtain ⟨V, hVe⟩ : ∃ V : Nat, nVars n m = V := ⟨(nVars n m).toNat, by omega⟩
    rw [hVe] at hV hv9 hvn hbd
    rw [hVe, Int.toNat_natCast]
    (refine SF_of_bodyX (aload tt) (aload_ok tyOK) Tryz.func15 rfl (by kernel_rfl) ?_; simp only [Tryz.ntmps15, List.length_cons, List.length_nil, Nat.reduceAdd, Nat.reduceSub, List.replicate_succ, List.replicate_zero, List.cons_append, List.nil_append])
    (refine Wk.o ?_; (repeat revert hK K); refine W1f10a ?_; (repeat intro K hK); refine ⟨?_⟩)
    have hlen := True.intro
    refine AX_nil 4 9 1 rfl ?_
    refine AX_cellNil 2 3 41 1 _ rfl rfl ?_
    simp only [List.set_cons_succ, List.set_cons_zero, List.length_cons, List.length_nil, List.cons_append, List.nil_append, Nat.zero_add, Nat.reduceAdd]
    refine AX_ren [0, 1, 2, 3] [4] ?fr2 [some ⟨24, [lt (.int .i64 o.S), lt (.int .i64 o.K), lt (.int .i64 o.I), .iv (iRws o.R)]⟩, some ⟨51, [lt (.int .i64 n), lt (.int .i64 m)]⟩, some ⟨41, [.osl 3 0 0 1]⟩, some ⟨9, []⟩] (by decide) (by decide) (by (simp (disch := omega) only [go_sem, lint, rnL_lstr, idL_lstr, lstr_one, hlen])) (by (simp (disch := omega) only [go_sem, lint, rnL_lstr, idL_lstr, lstr_one, hlen])) (by (simp (disch := omega) only [go_sem, lint, rnL_lstr, idL_lstr, lstr_one, hlen])) ?hfr (fun d2 => ?_)
    case hfr =>
      (simp (disch := omega) only [go_sem, lint, rnL_lstr, idL_lstr, lstr_one, hlen])
      rfl
    simp only [deadS, List.set_cons_succ, List.set_cons_zero]
    (refine AWH (σ := Nat × List ByteArray) [24, 25, 9, 27, 28, 29, 30, 26, 31, 32, 10, 11, 33, 34, 36, 35, 37, 38, 39, 40, 41, 42, 43, 45, 44, 46, 47, 48, 49, 50, 52, 51, 53, 54, 55, 56, 57, 58, 59, 60] (fun (k, ss) => [(23, lint k)]) (fun (k, ss) => [some ⟨24, [lt (.int .i64 o.S), lt (.int .i64 o.K), lt (.int .i64 o.I), .iv (iRws o.R)]⟩, some ⟨51, [lt (.int .i64 n), lt (.int .i64 m)]⟩, some ⟨41, [.osl 3 0 ss.length 1]⟩, some ⟨9, ss.map lstr⟩]) (fun (k, ss) => []) (fun (k, ss) => k ≤ V ∧ ss = nmU n m k ∧ ss.length = k) (fun (k, ss) => V - k) (0, []) (by first | exact ⟨Nat.zero_le _, rfl, rfl⟩) ?_; rintro ⟨k, ss⟩ d fr hfr ⟨hk, hss, hsl⟩; simp only [updS, deadS, List.set_cons_succ, List.set_cons_zero, lint] at hfr; subst hfr; (try dsimp only))
    by_cases hlt : k < V
    · have hbk := hbd k (by omega)
      have hN := hOf (k + 1 : Nat)
      have hnm := nmS.eq_1 n m ((k + 1 : Nat) : Int)
      generalize nOf n m ((k + 1 : Nat) : Int) = q at hbk hN hnm
      obtain ⟨c, a, b⟩ := q
      simp only at hbk hN hnm
      have hlen : ∀ s : ByteArray, (ss ++ [s]).length = ss.length + 1 := fun s => by simp
      by_cases h1 : c = 1
      · subst h1
        rw [if_pos rfl] at hnm
        have hT := sf_tell wPlace [a, b] ss (some ⟨24, [lt (.int .i64 o.S), lt (.int .i64 o.K), lt (.int .i64 o.I), .iv (iRws o.R)]⟩) (some ⟨51, [lt (.int .i64 n), lt (.int .i64 m)]⟩) (some ⟨77, [lt (.int .i64 1), lt (.int .i64 a), lt (.int .i64 b)]⟩) (by decide) (by simp) (fun j hj => by
          rcases j with _ | _ | j
          · exact hbk.2.1
          · exact hbk.2.2
          · simp only [List.length_cons, List.length_nil] at hj; omega) (by omega)
        (refine Wk.o ?_; (repeat revert hK K); refine W1f10a ?_; (repeat intro K hK); refine ⟨?_⟩)
        exact whx_ren [0, 1, 2, 6] (k + 1, ss ++ [tlS wPlace [a, b] [a, b].length]) ⟨by omega, by rw [nmU_succ, hss, hnm]; rfl, by rw [List.length_append, hsl]; rfl⟩ (by (first | omega | (dsimp only; omega) | (simp only; omega))) rfl (by decide) (by decide) (by (simp (disch := omega) only [go_sem, lint, rnL_lstr, idL_lstr, lstr_one, hlen])) (by (simp (disch := omega) only [go_sem, lint, rnL_lstr, idL_lstr, lstr_one, hlen])) (by (simp (disch := omega) only [go_sem, lint, rnL_lstr, idL_lstr, lstr_one, hlen])) (fun d => by (simp (disch := omega) only [go_sem, lint, rnL_lstr, idL_lstr, lstr_one, hlen]))
      · by_cases h2 : c = 2
        · subst h2
          rw [if_neg (by decide), if_pos rfl] at hnm
          have hT := sf_tell wIn [a] ss (some ⟨24, [lt (.int .i64 o.S), lt (.int .i64 o.K), lt (.int .i64 o.I), .iv (iRws o.R)]⟩) (some ⟨51, [lt (.int .i64 n), lt (.int .i64 m)]⟩) (some ⟨77, [lt (.int .i64 2), lt (.int .i64 a), lt (.int .i64 b)]⟩) (by decide) (by simp) (fun j hj => by
            rcases j with _ | _ | j
            · exact hbk.2.1
            · simp only [List.length_cons, List.length_nil] at hj; omega
            · simp only [List.length_cons, List.length_nil] at hj; omega) (by omega)
          (refine Wk.o ?_; (repeat revert hK K); refine W1f10a ?_; (repeat intro K hK); refine ⟨?_⟩)
          exact whx_ren [0, 1, 2, 6] (k + 1, ss ++ [tlS wIn [a] [a].length]) ⟨by omega, by rw [nmU_succ, hss, hnm]; rfl, by rw [List.length_append, hsl]; rfl⟩ (by (first | omega | (dsimp only; omega) | (simp only; omega))) rfl (by decide) (by decide) (by (simp (disch := omega) only [go_sem, lint, rnL_lstr, idL_lstr, lstr_one, hlen])) (by (simp (disch := omega) only [go_sem, lint, rnL_lstr, idL_lstr, lstr_one, hlen])) (by (simp (disch := omega) only [go_sem, lint, rnL_lstr, idL_lstr, lstr_one, hlen])) (fun d => by (simp (disch := omega) only [go_sem, lint, rnL_lstr, idL_lstr, lstr_one, hlen]))
        · obtain rfl : c = 3 := by omega
          rw [if_neg (by decide), if_neg (by decide)] at hnm
          have hT := sf_tell wState [a, b] ss (some ⟨24, [lt (.int .i64 o.S), lt (.int .i64 o.K), lt (.int .i64 o.I), .iv (iRws o.R)]⟩) (some ⟨51, [lt (.int .i64 n), lt (.int .i64 m)]⟩) (some ⟨77, [lt (.int .i64 3), lt (.int .i64 a), lt (.int .i64 b)]⟩) (by decide) (by simp) (fun j hj => by
            rcases j with _ | _ | j
            · exact hbk.2.1
            · exact hbk.2.2
            · simp only [List.length_cons, List.length_nil] at hj; omega) (by omega)
          (refine Wk.o ?_; (repeat revert hK K); refine W1f10a ?_; (repeat intro K hK); refine ⟨?_⟩)
          exact whx_ren [0, 1, 2, 6] (k + 1, ss ++ [tlS wState [a, b] [a, b].length]) ⟨by omega, by rw [nmU_succ, hss, hnm]; rfl, by rw [List.length_append, hsl]; rfl⟩ (by (first | omega | (dsimp only; omega) | (simp only; omega))) rfl (by decide) (by decide) (by (simp (disch := omega) only [go_sem, lint, rnL_lstr, idL_lstr, lstr_one, hlen])) (by (simp (disch := omega) only [go_sem, lint, rnL_lstr, idL_lstr, lstr_one, hlen])) (by (simp (disch := omega) only [go_sem, lint, rnL_lstr, idL_lstr, lstr_one, hlen])) (fun d => by (simp (disch := omega) only [go_sem, lint, rnL_lstr, idL_lstr, lstr_one, hlen]))
    · obtain rfl : k = V := by omega
      (refine Wk.o ?_; (repeat revert hK K); refine W1f10a ?_; (repeat intro K hK); refine ⟨?_⟩)
      (simp only [bodyX]; refine ⟨_, by simp only [aresults, aresult, XS.as, Tryz.results15, aload, go_sem, Option.bind_some]; rfl, ?_⟩)
      exact ⟨_, snap_lstr rfl rfl, by rw [hss], trivial⟩
  · rw [show nmX o l = [] by unfold nmX; rw [if_neg he]]
    have hV := trivial
    generalize eE o l = E at *
    (refine SF_of_bodyX (aload tt) (aload_ok tyOK) Tryz.func15 rfl (by kernel_rfl) ?_; simp only [Tryz.ntmps15, List.length_cons, List.length_nil, Nat.reduceAdd, Nat.reduceSub, List.replicate_succ, List.replicate_zero, List.cons_append, List.nil_append])
    (refine Wk.o ?_; (repeat revert hK K); refine W1f10a ?_; (repeat intro K hK); refine ⟨?_⟩)
    (simp only [bodyX]; refine ⟨_, by simp only [aresults, aresult, XS.as, Tryz.results15, aload, go_sem, Option.bind_some]; rfl, ?_⟩)
    exact ⟨_, .iv _ _ (.nil _ _), rfl, trivial⟩
end Go.Proofs.YtcjnikkmjhagmaaGreatDoor
