import Derived.Test.YtcjnikkmjhagmaaGreatDoorMgBL
import Derived.Test.YtcjnikkmjhagmaaGreatDoorMgAQ
import Derived.Test.YtcjnikkmjhagmaaGreatDoorMgBJ
import Derived.Test.YtcjnikkmjhagmaaGreatDoorMgBH
import Derived.Test.YtcjnikkmjhagmaaGreatDoorMgBF
namespace Go.Proofs.YtcjnikkmjhagmaaGreatDoor
open Go.RowKit
theorem mCl_mem {o : Ob} {l : List Op5} {c : List Int} {k : Nat} : c ∈ mCl o l k ↔ ∃ i, i < k ∧ c ∈ mI o l i := by unfold mCl; simp [List.mem_flatMap]
theorem mP_mem {o : Ob} {l : List Op5} {c : List Int} {i k : Nat} : c ∈ mP o l i k ↔ ∃ p, p < k ∧ c ∈ mB o l i p o.S.toNat := by unfold mP; simp [List.mem_flatMap]
theorem mB_mem {o : Ob} {l : List Op5} {c : List Int} {i p k : Nat} : c ∈ mB o l i p k ↔ ∃ b, b < k ∧ c ∈ mA o l i p b := by unfold mB; simp [List.mem_flatMap]
def c1A (o : Ob) (l : List Op5) (i p b : Nat) : List Int := [-(nVar l.length o.S 1 i p), -(nVar l.length o.S 2 i 0), -(nVar l.length o.S 3 p b)] ++ (if 0 ≤ mvE o (oAt l i) b then [nVar l.length o.S 3 (p + 1 : Nat) (mvE o (oAt l i) b)] else [])
def c2A (o : Ob) (l : List Op5) (i p b : Nat) : List Int := [-(nVar l.length o.S 1 i p), nVar l.length o.S 2 i 0, -(nVar l.length o.S 3 p b), nVar l.length o.S 3 (p + 1 : Nat) b]
theorem mA_mem {o : Ob} {l : List Op5} {c : List Int} {i p b : Nat} : c ∈ mA o l i p b ↔ c = c1A o l i p b ∨ ((oAt l i).e = -1 ∧ c = c2A o l i p b) := by
  unfold mA
  rw [List.mem_append, List.mem_singleton]
  unfold c1A c2A
  by_cases h : (oAt l i).e = -1
  · rw [if_pos h, List.mem_singleton]
    exact ⟨fun hh => hh.imp id fun h2 => ⟨h, h2⟩, fun hh => hh.imp id fun h2 => h2.2⟩
  · rw [if_neg h]
    exact ⟨fun hh => hh.elim .inl fun h2 => by simp at h2, fun hh => hh.elim .inl fun h2 => absurd h2.1 h⟩
section
variable {o : Ob} {l : List Op5} {ord row : List Int} {inn : List Bool}
end
end Go.Proofs.YtcjnikkmjhagmaaGreatDoor
namespace Go.Proofs.YtcjnikkmjhagmaaGreatDoor
open Go.RowKit
theorem vc_ms {n m : Int} (g : Nat → Int × Int × Int) (N : Nat) (hn : ∀ i, i < N → nName n m (g i).1 (g i).2.1 (g i).2.2) (hd : ∀ i j, i < N → j < N → g i = g j → i = j) :
    ∀ c ∈ msAll ((List.range N).map fun i => nVar n m (g i).1 (g i).2.1 (g i).2.2), VC (nVars n m) c := by
  intro c hc
  unfold msAll msUp at hc
  obtain ⟨i, hi, hc⟩ := List.mem_flatMap.1 hc
  unfold msRow at hc
  obtain ⟨t, ht, rfl⟩ := List.mem_map.1 hc
  have hi := List.mem_range.1 hi
  have ht := List.mem_range.1 ht
  have hl : ((List.range N).map fun i => nVar n m (g i).1 (g i).2.1 (g i).2.2).length = N := by simp
  rw [hl] at hi ht
  have at_ : ∀ k, k < N → ((List.range N).map fun i => nVar n m (g i).1 (g i).2.1 (g i).2.2).getD k 0 = nVar n m (g k).1 (g k).2.1 (g k).2.2 := fun k hk => by
    rw [List.getD_eq_getElem?_getD, List.getElem?_map, List.getElem?_range hk]; rfl
  rw [at_ i hi, at_ (i + 1 + t) (by omega)]
  exact vc_two (hn i hi) (hn _ (by omega)) fun e => by have := hd i (i + 1 + t) hi (by omega) e; omega
theorem plCl_vc {n m : Int} : ∀ c ∈ plCl n m, VC (nVars n m) c := by
  unfold plCl
  split
  · next hok =>
    obtain ⟨N, M, rfl, rfl, hN, hM⟩ := nOk_nat hok
    rw [Int.toNat_natCast]
    have r1 : ∀ q : Nat, q < N → ∀ i, i < N → nName N M 1 q i := fun q hq i hi => nName_1 hok (by omega) (by omega) (by omega) (by omega)
    intro c hc
    rcases List.mem_append.1 hc with hc | hc
    · unfold plU1 at hc
      obtain ⟨q, hq, hc⟩ := List.mem_flatMap.1 hc
      have hq := List.mem_range.1 hq
      rcases List.mem_cons.1 hc with rfl | hc
      · exact vc_row (fun i => (1, q, i)) N (by omega) (r1 q hq) fun i j _ _ e => by simp at e; omega
      · exact vc_ms (fun i => (1, q, i)) N (r1 q hq) (fun i j _ _ e => by simp at e; omega) c hc
    · unfold plU2 at hc
      obtain ⟨q, hq, hc⟩ := List.mem_flatMap.1 hc
      have hq := List.mem_range.1 hq
      exact vc_ms (fun i => (1, i, q)) N (fun i hi => r1 i hi q hq) (fun i j _ _ e => by simp at e; omega) c hc
  · intro c hc; cases hc
theorem stL_vc {n m init : Int} : ∀ c ∈ stL n m init, VC (nVars n m) c := by
  unfold stL
  split
  · next h =>
    obtain ⟨hok, h1, h2⟩ := h
    obtain ⟨N, M, rfl, rfl, hN, hM⟩ := nOk_nat hok
    rw [Int.toNat_natCast, Int.toNat_natCast]
    intro c hc
    rcases List.mem_cons.1 hc with rfl | hc
    · exact vc_one (x := (3, 0, init)) (nName_3 hok (by show (0 : Int) ≤ 0; omega) (by show (0 : Int) ≤ N; omega) h1 h2)
    · unfold stUp at hc
      obtain ⟨q, hq, hc⟩ := List.mem_flatMap.1 hc
      have hq := List.mem_range.1 hq
      have r3 : ∀ i, i < M → nName N M 3 q i := fun i hi => nName_3 hok (by omega) (by omega) (by omega) (by omega)
      unfold stP at hc
      rcases List.mem_cons.1 hc with rfl | hc
      · exact vc_row (fun i => (3, q, i)) M (by omega) r3 fun i j _ _ e => by simp at e; omega
      · exact vc_ms (fun i => (3, q, i)) M r3 (fun i j _ _ e => by simp at e; omega) c hc
  · intro c hc; cases hc
theorem tmL_vc {n m : Int} {us : List Int} {K : Nat} : ∀ c ∈ tmL n m us K, VC (nVars n m) c := by
  unfold tmL
  split
  · next hok =>
    obtain ⟨N, M, rfl, rfl, hN, hM⟩ := nOk_nat hok
    rw [Int.toNat_natCast]
    intro c hc
    unfold tmU at hc
    obtain ⟨p, hp, hc⟩ := List.mem_flatMap.1 hc
    unfold tmI at hc
    split at hc
    · next hg =>
      obtain ⟨⟨g1, g2⟩, ⟨g3, g4⟩, g5⟩ := hg
      unfold tmP at hc
      obtain ⟨x, hx, hc⟩ := List.mem_flatMap.1 hc
      unfold tmA at hc
      obtain ⟨y, hy, rfl⟩ := List.mem_map.1 hc
      have hx := List.mem_range.1 hx
      have hy := List.mem_range.1 hy
      unfold tmRow
      exact vc_two (x := (1, _, (x : Int))) (y := (1, _, (y : Int))) (nName_1 hok g1 g2 (by show (0 : Int) ≤ (x : Int); omega) (by show (x : Int) < N; omega)) (nName_1 hok g3 g4 (by show (0 : Int) ≤ (y : Int); omega) (by show (y : Int) < N; omega)) fun e => by simp at e; exact g5 e.1
    · cases hc
  · intro c hc; cases hc
theorem mRes_vc {o : Ob} {l : List Op5} : ∀ c ∈ mRes o l, VC (nVars (mN o l) (mS o l)) c := by
  unfold mRes
  split
  · next hok =>
    obtain ⟨hm, hln, hS1, hS2⟩ := m_nOk hok
    rw [(m_yes hm).1, (m_yes hm).2] at hok ⊢
    intro c hc
    obtain ⟨i, hi, hc⟩ := mCl_mem.1 hc
    have n2 : nName l.length o.S 2 i 0 := nName_2 hok (by omega) (by omega)
    unfold mI at hc
    rcases List.mem_append.1 hc with hc | hc
    · split at hc
      · cases hc
      · rw [List.mem_singleton.1 hc]
        exact vc_one (x := (2, i, 0)) n2
    · obtain ⟨p, hp, hc⟩ := mP_mem.1 hc
      obtain ⟨b, hb, hc⟩ := mB_mem.1 hc
      have hb : (b : Int) < o.S := by omega
      have n1 : nName l.length o.S 1 i p := nName_1 hok (by omega) (by omega) (by omega) (by omega)
      have n3 : ∀ (q : Nat) (x : Int), q ≤ l.length → 0 ≤ x → x < o.S → nName l.length o.S 3 q x := fun q x h1 h2 h3 => nName_3 hok (by omega) (by omega) h2 h3
      have hE := mvE_in hm.1 (oAt l i) b
      rcases mA_mem.1 hc with rfl | ⟨_, rfl⟩
      · unfold c1A
        split
        · next h0 =>
          have hx : mvE o (oAt l i) b < o.S := by rcases hE with ⟨_, _, h, _⟩ | ⟨_, h, _⟩ <;> omega
          exact vc_names [(false, 1, i, p), (false, 2, i, 0), (false, 3, p, b), (true, 3, (p + 1 : Nat), mvE o (oAt l i) b)] (by simp) (by
            intro z hz; simp only [List.mem_cons, List.not_mem_nil, or_false] at hz
            rcases hz with rfl | rfl | rfl | rfl
            · exact n1
            · exact n2
            · exact n3 p b (by omega) (by omega) hb
            · exact n3 (p + 1) _ (by omega) h0 hx) (by simp; omega)
        · exact vc_names [(false, 1, i, p), (false, 2, i, 0), (false, 3, p, b)] (by simp) (by
            intro z hz; simp only [List.mem_cons, List.not_mem_nil, or_false] at hz
            rcases hz with rfl | rfl | rfl
            · exact n1
            · exact n2
            · exact n3 p b (by omega) (by omega) hb) (by simp)
      · unfold c2A
        exact vc_names [(false, 1, i, p), (true, 2, i, 0), (false, 3, p, b), (true, 3, (p + 1 : Nat), b)] (by simp) (by
            intro z hz; simp only [List.mem_cons, List.not_mem_nil, or_false] at hz
            rcases hz with rfl | rfl | rfl | rfl
            · exact n1
            · exact n2
            · exact n3 p b (by omega) (by omega) hb
            · exact n3 (p + 1) b (by omega) (by omega) hb) (by simp; omega)
  · intro c hc; cases hc
end Go.Proofs.YtcjnikkmjhagmaaGreatDoor
namespace Go.Proofs.YtcjnikkmjhagmaaGreatDoor
open Go.RowKit
set_option linter.unusedVariables false
set_option linter.unusedSimpArgs false
theorem eE_ok {o : Ob} {l : List Op5} (h : eE o l = 0) : mOk o l ∧ l.length ≤ 64 ∧ nOk (mN o l) (mS o l) ∧ 0 < cAll (mN o l) (mS o l) l ∧ cAll (mN o l) (mS o l) l ≤ 500000 ∧ nVars (mN o l) (mS o l) ≤ 900 := by
  unfold eE at h
  by_cases h1 : mOk o l
  · rw [if_neg (fun hh => hh h1)] at h
    by_cases h2 : 64 < l.length
    · rw [if_pos h2] at h; omega
    · rw [if_neg h2] at h
      unfold cFits at h
      have hb := cAll_lim (mN o l) (mS o l) l
      by_cases h3 : cAll (mN o l) (mS o l) l = 0
      · rw [if_pos h3] at h; omega
      · rw [if_neg h3] at h
        by_cases h4 : 500000 < cAll (mN o l) (mS o l) l ∨ 900 < nVars (mN o l) (mS o l)
        · rw [if_pos h4] at h; omega
        · refine ⟨h1, by omega, Classical.not_not.1 fun hh => h3 (cAll_no hh), by omega, by omega, by omega⟩
  · rw [if_pos h1] at h; omega
theorem snap_form0 {H : AHeap} : Snap H (.agg [lt (.int .i64 0), lt (.slice none 0 0)]) (aForm 0 []) := .agg _ _ rfl (fun i a b e1 e2 => by
  match i with
  | 0 => simp at e1 e2; subst e1 e2; exact .same _ (.iv _)
  | 1 => simp at e1 e2; subst e1 e2; exact .iv _ _ (.nil _ _)
  | i + 2 => simp at e1) rfl
def enR (o : Ob) (l : List Op5) : List (List Int) := [plCl (mN o l) (mS o l), tmL (mN o l) (mS o l) (oPairL l l.length) (prN l), stL (mN o l) (mS o l) o.I, mRes o l].flatten
def enA (o : Ob) (l : List Op5) : AV := if eE o l = 0 then aForm (nVars (mN o l) (mS o l)) (enR o l) else aForm 0 []
theorem enA_yes {o : Ob} {l : List Op5} (h : eE o l = 0) : enA o l = aForm (nVars (mN o l) (mS o l)) (enR o l) := by unfold enA; rw [if_pos h]
theorem enA_no {o : Ob} {l : List Op5} (h : ¬ eE o l = 0) : enA o l = aForm 0 [] := by unfold enA; rw [if_neg h]
theorem snapC_g3 {H : AHeap} {o : Nat} {t : TypeId} {R : List (List (List Int))} (h : H[o]? = some (some ⟨t, R.map rowsA⟩)) : SnapC H (.osl o 0 R.length 1) (iRows3 R) :=
  .osl o 0 R.length 1 _ _ (fun j => rowsA (R.getD j [])) (by decide) h (fun j hj => by
    rw [Nat.zero_add]; show (R.map rowsA)[j]? = _
    rw [List.getElem?_map, List.getElem?_eq_getElem (by omega)]; simp only [Option.map_some, List.getD_eq_getElem?_getD, List.getElem?_eq_getElem (show j < R.length by omega), Option.getD_some]) fun j _ => .iv _
theorem vc_short {V : Int} {R : List (List Int)} (h : ∀ c ∈ R, VC V c) (j : Nat) : (R.getD j []).length ≤ 1000 := by
  rcases Nat.lt_or_ge j R.length with hj | hj
  · rw [List.getD_eq_getElem?_getD, List.getElem?_eq_getElem hj]; exact (h _ (List.getElem_mem hj)).1
  · rw [List.getD_eq_getElem?_getD, List.getElem?_eq_none hj]; decide
theorem enR_len {o : Ob} {l : List Op5} (h : eE o l = 0) : (plCl (mN o l) (mS o l)).length ≤ 100000000 ∧ (tmL (mN o l) (mS o l) (oPairL l l.length) (prN l)).length ≤ 100000000 ∧ (stL (mN o l) (mS o l) o.I).length ≤ 100000000 ∧ (mRes o l).length ≤ 1000000 := by
  obtain ⟨hm, hl, hok, _⟩ := eE_ok h
  have e1 := plCl_len (mN o l) (mS o l)
  have b1 := qP_lim (mN o l) (mS o l)
  have hin := ob_init hm.1
  have e2 := stL_len (mN o l) (mS o l) o.I fun _ => by rw [(m_yes hm).2]; exact hin
  have b2 := qS_lim (mN o l) (mS o l)
  have e3 := tmL_cnt (m := mS o l) hm.2 (by rw [← (m_yes hm).1]; exact hok)
  rw [← (m_yes hm).1] at e3
  have hpl := pairs_le l l.length
  have h2 : l.length * l.length ≤ 64 * 64 := Nat.mul_le_mul hl hl
  have h3 := tri_le hl
  have h4 : prN l * tri l.length ≤ 4096 * 2048 := Nat.mul_le_mul (by unfold prN; omega) (by omega)
  exact ⟨by omega, by rw [e3]; omega, by omega, mRes_len o l⟩
set_option maxRecDepth 100000 in
set_option maxHeartbeats 4000000 in
theorem pf_Encode (o : Ob) (l : List Op5) (hr : o.R.length ≤ 100000) (ho : o.Ok) (hl : l.length ≤ 100000) (hs : okS l) : PF Tryz.prog 9 [obA o, .iv (iOps l)] fun r H' => r = .tup [enA o l, lt (.int .i64 (eE o l))] ∧ H' = [] := by
  refine SF.frozen ?_
  have hs1 := trivial; have hs2 := trivial; have hs3 := trivial
  have hF := pf_eFits o l hr ho hl hs
  by_cases he : eE o l = 0
  · rw [enA_yes he]
    obtain ⟨hm, hln, hok, _⟩ := eE_ok he
    have hPl := pf_plClauses (mN o l) (mS o l)
    have hPr := pf_PairsN l (by omega)
    obtain ⟨z, hz⟩ := pairs_even l l.length
    have hple := pairs_le l l.length
    have hll2 : l.length * l.length ≤ 64 * 64 := Nat.mul_le_mul hln hln
    have hTm := pf_tmClauses (mN o l) (mS o l) (oPairL l l.length) (prN l) (by unfold prN; omega) (by unfold prN; omega)
    have hSt := pf_stClauses (mN o l) (mS o l) o.I
    have hMv := pf_mClauses o l hr ho (by omega) hs
    have hV := pf_nVars (mN o l) (mS o l)
    obtain ⟨l1, l2, l3, l4⟩ := enR_len he
    have s1 := vc_short (plCl_vc (n := mN o l) (m := mS o l))
    have s2 := vc_short (tmL_vc (n := mN o l) (m := mS o l) (us := oPairL l l.length) (K := prN l))
    have s3 := vc_short (stL_vc (n := mN o l) (m := mS o l) (init := o.I))
    have s4 := vc_short (mRes_vc (o := o) (l := l))
    have hC := pf_Concat [plCl (mN o l) (mS o l), tmL (mN o l) (mS o l) (oPairL l l.length) (prN l), stL (mN o l) (mS o l) o.I, mRes o l] (by simp) (fun k => by
      rcases k with _ | _ | _ | _ | k
      · exact l1
      · exact l2
      · exact l3
      · show (mRes o l).length ≤ _; omega
      · show (0 : Nat) ≤ _; omega) (fun k j => by
      rcases k with _ | _ | _ | _ | k
      · exact Nat.le_trans (s1 j) (by omega)
      · exact Nat.le_trans (s2 j) (by omega)
      · exact Nat.le_trans (s3 j) (by omega)
      · exact Nat.le_trans (s4 j) (by omega)
      · show (([] : List (List Int)).getD j []).length ≤ _; simp)
    rw [show [plCl (mN o l) (mS o l), tmL (mN o l) (mS o l) (oPairL l l.length) (prN l), stL (mN o l) (mS o l) o.I, mRes o l].flatten = enR o l from rfl] at hC
    rw [he] at hF
    rw [he]
    clear s1 s2 s3 s4 l1 l2 l3 l4 hple hll2
    generalize enR o l = R at *
    generalize plCl (mN o l) (mS o l) = P1 at *
    generalize tmL (mN o l) (mS o l) (oPairL l l.length) (prN l) = P2 at *
    generalize stL (mN o l) (mS o l) o.I = P3 at *
    generalize mRes o l = P4 at *
    (refine SF_of_bodyX (aload tt) (aload_ok tyOK) Tryz.func9 rfl (by kernel_rfl) ?_; simp only [Tryz.ntmps9, List.length_cons, List.length_nil, Nat.reduceAdd, Nat.reduceSub, List.replicate_succ, List.replicate_zero, List.cons_append, List.nil_append])
    repeat (first | (first | (with_reducible first | refine AX_block ?_ | refine AX_skip ?_ | refine AX_exit ?_ | refine AX_ret ?_ | refine AX_ift ?_ | refine AX_iff ?_ | refine AX_seq_k (fun K hK => ?_) | refine ContX.use (by assumption) ?_) | simp only [thenX, inBlockX, if_true, if_false, reduceCtorEq]) | (first | ((with_reducible first | refine XOP tyOK ?_ | refine AOP tyOK ?_); simp (maxSteps := 2000000) (disch := omega) only [go_sem , szA, aForm, Int.toNat_zero, Int.toNat_one, hs1, hs2, hs3, List.length_nil]; (with_reducible first | refine XRes_id ?_ | refine ADF_id ?_)) | ((with_reducible first | refine XSK ?_ | refine ASK ?_); (simp only [putL, List.set_cons_succ, List.set_cons_zero]))) | ((first | (with_reducible refine XRes_nil ?_) | (with_reducible refine ADF_nil ?_)); (first | refine hK _ ?_ | refine hK _ _ ?_); clear hK K) | ((with_reducible refine AX_reg0 fun K hK => ?_); simp only [go_sem]) | (first | ((first | refine XTL (by rfl) hF ?_ | refine ATL tyOK (by rfl) hF ?_ | refine XTL (by rfl) hPl ?_ | refine ATL tyOK (by rfl) hPl ?_ | refine XTL (by rfl) hPr ?_ | refine ATL tyOK (by rfl) hPr ?_ | refine XTL (by rfl) hTm ?_ | refine ATL tyOK (by rfl) hTm ?_ | refine XTL (by rfl) hSt ?_ | refine ATL tyOK (by rfl) hSt ?_ | refine XTL (by rfl) hMv ?_ | refine ATL tyOK (by rfl) hMv ?_ | refine XTL (by rfl) hV ?_ | refine ATL tyOK (by rfl) hV ?_ | refine XTL (by rfl) hC ?_ | refine ATL tyOK (by rfl) hC ?_); (simp only [putL, List.set_cons_succ, List.set_cons_zero]))))
    ((refine AX_drawG tyOK (by kernel_rfl) (by kernel_rfl) fun K hK => ?_); (simp only [dsts, lapp_cons, lapp_nil, List.map_cons, List.map_nil, strip_mk, strip_gd, gix_some, List.getElem?_cons_succ, List.getElem?_cons_zero, Nat.reduceAdd]))
    repeat (first | (first | ((with_reducible first | refine XOP tyOK ?_ | refine AOP tyOK ?_); simp (maxSteps := 2000000) (disch := omega) only [go_sem , szA, aForm, Int.toNat_zero, Int.toNat_one, hs1, hs2, hs3, List.length_nil]; (with_reducible first | refine XRes_id ?_ | refine ADF_id ?_)) | ((with_reducible first | refine XSK ?_ | refine ASK ?_); (simp only [putL, List.set_cons_succ, List.set_cons_zero]))) | (first | ((first | refine XTL (by rfl) hF ?_ | refine ATL tyOK (by rfl) hF ?_ | refine XTL (by rfl) hPl ?_ | refine ATL tyOK (by rfl) hPl ?_ | refine XTL (by rfl) hPr ?_ | refine ATL tyOK (by rfl) hPr ?_ | refine XTL (by rfl) hTm ?_ | refine ATL tyOK (by rfl) hTm ?_ | refine XTL (by rfl) hSt ?_ | refine ATL tyOK (by rfl) hSt ?_ | refine XTL (by rfl) hMv ?_ | refine ATL tyOK (by rfl) hMv ?_ | refine XTL (by rfl) hV ?_ | refine ATL tyOK (by rfl) hV ?_ | refine XTL (by rfl) hC ?_ | refine ATL tyOK (by rfl) hC ?_); (simp only [putL, List.set_cons_succ, List.set_cons_zero]))) | ((refine ADF_lit tyOK (iRows3 [P1, P2, P3, P4]) rfl (by rfl) (fun H => ⟨.osl H.length 0 4 1, ⟨29, [rowsA P1, rowsA P2, rowsA P3, rowsA P4]⟩, rfl, snapC_g3 (t := 29) (R := [P1, P2, P3, P4]) (only_mk (by simp) (by simp))⟩) ?_); (simp only [putL, List.set_cons_succ, List.set_cons_zero])))
    repeat (first | ((first | (with_reducible refine XRes_nil ?_) | (with_reducible refine ADF_nil ?_)); (first | refine hK _ ?_ | refine hK _ _ ?_); clear hK K) | (first | (with_reducible first | refine AX_block ?_ | refine AX_skip ?_ | refine AX_exit ?_ | refine AX_ret ?_ | refine AX_ift ?_ | refine AX_iff ?_ | refine AX_seq_k (fun K hK => ?_) | refine ContX.use (by assumption) ?_) | simp only [thenX, inBlockX, if_true, if_false, reduceCtorEq]) | (first | ((with_reducible first | refine XOP tyOK ?_ | refine AOP tyOK ?_); simp (maxSteps := 2000000) (disch := omega) only [go_sem , szA, aForm, Int.toNat_zero, Int.toNat_one, hs1, hs2, hs3, List.length_nil]; (with_reducible first | refine XRes_id ?_ | refine ADF_id ?_)) | ((with_reducible first | refine XSK ?_ | refine ASK ?_); (simp only [putL, List.set_cons_succ, List.set_cons_zero]))) | ((with_reducible refine AX_reg0 fun K hK => ?_); simp only [go_sem]) | (first | ((first | refine XTL (by rfl) hF ?_ | refine ATL tyOK (by rfl) hF ?_ | refine XTL (by rfl) hPl ?_ | refine ATL tyOK (by rfl) hPl ?_ | refine XTL (by rfl) hPr ?_ | refine ATL tyOK (by rfl) hPr ?_ | refine XTL (by rfl) hTm ?_ | refine ATL tyOK (by rfl) hTm ?_ | refine XTL (by rfl) hSt ?_ | refine ATL tyOK (by rfl) hSt ?_ | refine XTL (by rfl) hMv ?_ | refine ATL tyOK (by rfl) hMv ?_ | refine XTL (by rfl) hV ?_ | refine ATL tyOK (by rfl) hV ?_ | refine XTL (by rfl) hC ?_ | refine ATL tyOK (by rfl) hC ?_); (simp only [putL, List.set_cons_succ, List.set_cons_zero]))) | (simp only [iRows]))
    (simp only [bodyX]; refine ⟨_, by simp only [aresults, aresult, XS.as, Tryz.results9, aload, go_sem, Option.bind_some]; rfl, ?_⟩)
    exact ⟨_, Snap.twoP (.same _ (ids_idB rfl)) (.same _ (.iv _)), rfl, trivial⟩
  · rw [enA_no he]
    have hPl := trivial; have hPr := trivial; have hTm := trivial; have hSt := trivial; have hMv := trivial; have hV := trivial; have hC := trivial
    generalize eE o l = E at *
    (refine SF_of_bodyX (aload tt) (aload_ok tyOK) Tryz.func9 rfl (by kernel_rfl) ?_; simp only [Tryz.ntmps9, List.length_cons, List.length_nil, Nat.reduceAdd, Nat.reduceSub, List.replicate_succ, List.replicate_zero, List.cons_append, List.nil_append])
    repeat (first | (first | (with_reducible first | refine AX_block ?_ | refine AX_skip ?_ | refine AX_exit ?_ | refine AX_ret ?_ | refine AX_ift ?_ | refine AX_iff ?_ | refine AX_seq_k (fun K hK => ?_) | refine ContX.use (by assumption) ?_) | simp only [thenX, inBlockX, if_true, if_false, reduceCtorEq]) | (first | ((with_reducible first | refine XOP tyOK ?_ | refine AOP tyOK ?_); simp (maxSteps := 2000000) (disch := omega) only [go_sem , szA, aForm, Int.toNat_zero, Int.toNat_one, hs1, hs2, hs3, List.length_nil]; (with_reducible first | refine XRes_id ?_ | refine ADF_id ?_)) | ((with_reducible first | refine XSK ?_ | refine ASK ?_); (simp only [putL, List.set_cons_succ, List.set_cons_zero]))) | ((first | (with_reducible refine XRes_nil ?_) | (with_reducible refine ADF_nil ?_)); (first | refine hK _ ?_ | refine hK _ _ ?_); clear hK K) | ((with_reducible refine AX_reg0 fun K hK => ?_); simp only [go_sem]) | (first | ((first | refine XTL (by rfl) hF ?_ | refine ATL tyOK (by rfl) hF ?_ | refine XTL (by rfl) hPl ?_ | refine ATL tyOK (by rfl) hPl ?_ | refine XTL (by rfl) hPr ?_ | refine ATL tyOK (by rfl) hPr ?_ | refine XTL (by rfl) hTm ?_ | refine ATL tyOK (by rfl) hTm ?_ | refine XTL (by rfl) hSt ?_ | refine ATL tyOK (by rfl) hSt ?_ | refine XTL (by rfl) hMv ?_ | refine ATL tyOK (by rfl) hMv ?_ | refine XTL (by rfl) hV ?_ | refine ATL tyOK (by rfl) hV ?_ | refine XTL (by rfl) hC ?_ | refine ATL tyOK (by rfl) hC ?_); (simp only [putL, List.set_cons_succ, List.set_cons_zero]))))
    (simp only [bodyX]; refine ⟨_, by simp only [aresults, aresult, XS.as, Tryz.results9, aload, go_sem, Option.bind_some]; rfl, ?_⟩)
    exact ⟨_, Snap.twoP snap_form0 (.same _ (.iv _)), rfl, trivial⟩
end Go.Proofs.YtcjnikkmjhagmaaGreatDoor
