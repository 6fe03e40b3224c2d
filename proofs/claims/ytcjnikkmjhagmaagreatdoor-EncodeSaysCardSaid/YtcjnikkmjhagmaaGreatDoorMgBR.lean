import Derived.Test.YtcjnikkmjhagmaaGreatDoorMgBQ
import Derived.Test.YtcjnikkmjhagmaaGreatDoorMgBI
import Derived.Test.YtcjnikkmjhagmaaGreatDoorMgBM
import Derived.Test.YtcjnikkmjhagmaaGreatDoorMgBG
namespace Go.Proofs.YtcjnikkmjhagmaaGreatDoor
open Go.RowKit
set_option linter.unusedVariables false
set_option linter.unusedSimpArgs false
theorem enR_cnt {o : Ob} {l : List Op5} (hl : l.length ≤ 40) : ((enR o l).length : Int) = cAll (mN o l) (mS o l) l := by
  have h := (cl_len o l hl).all
  rw [← h]
  unfold enR
  simp only [List.flatten_cons, List.flatten_nil, List.length_append, List.length_nil]
  push_cast; omega
theorem enR_mem {o : Ob} {l : List Op5} {c : List Int} : c ∈ enR o l ↔ c ∈ plCl (mN o l) (mS o l) ∨ c ∈ tmL (mN o l) (mS o l) (oPairL l l.length) (prN l) ∨ c ∈ stL (mN o l) (mS o l) o.I ∨ c ∈ mRes o l := by
  unfold enR
  simp only [List.flatten_cons, List.flatten_nil, List.mem_append, List.not_mem_nil, or_false]
theorem enR_vc {o : Ob} {l : List Op5} : ∀ c ∈ enR o l, VC (nVars (mN o l) (mS o l)) c := fun c hc => by
  rcases enR_mem.1 hc with h | h | h | h
  · exact plCl_vc c h
  · exact tmL_vc c h
  · exact stL_vc c h
  · exact mRes_vc c h
theorem enR_vf {o : Ob} {l : List Op5} (h : eE o l = 0) (hl : l.length ≤ 40) : VF (nVars (mN o l) (mS o l)) (enR o l) := by
  obtain ⟨_, _, _, _, h5, h6⟩ := eE_ok h
  have hv := nVars_nonneg (mN o l) (mS o l)
  have hc := enR_cnt (o := o) hl
  refine ⟨hv.1, by omega, by omega, fun k hk => ?_⟩
  rw [List.getD_eq_getElem?_getD, List.getElem?_eq_getElem hk]
  exact enR_vc _ (List.getElem_mem hk)
end Go.Proofs.YtcjnikkmjhagmaaGreatDoor
namespace Go.Proofs.YtcjnikkmjhagmaaGreatDoor
open Go.RowKit
section
variable {n : Nat} {m : Int} {M : List Bool} {ord : List Int}
theorem ord_pt (hok : nOk n m) (ho : OrdL n (ptF n m M) ord) : ptOk n m ord := by
  refine ⟨hok, by rw [ho.1], fun k hk => ?_⟩
  rw [ho.1] at hk
  rw [Int.toNat_natCast]
  obtain ⟨a, ha, e, _⟩ := ho.2.1 k hk
  refine ⟨by omega, by omega, ?_⟩
  rw [Bool.eq_false_iff]
  intro h
  obtain ⟨p, hp, e2⟩ := (tkU_at k fun p hp => by obtain ⟨b, hb, e, _⟩ := ho.2.1 p (by omega); omega).1 h
  obtain ⟨b, hb, e3, _⟩ := ho.2.1 p (by omega)
  have := ho.2.2 p k (by omega) hk (by omega)
  omega
theorem row_name (hok : nOk n m) (hs : ∀ a, a < n + 1 → sxG n m M a) : ∀ i, i < n + 1 → nName n m 3 i ((sxR n m M (n + 1)).getD i 0) := fun i hi => by
  rw [sxR_at _ _ _ hi]
  have := (one_at (hs i hi)).1
  exact nName_3 hok (by omega) (by omega) (by omega) (by omega)
theorem row_sr (hok : nOk n m) (hs : ∀ a, a < n + 1 → sxG n m M a) : srOk n m (sxR n m M (n + 1)) := by
  refine ⟨hok, by rw [sxR_len]; push_cast; rfl, fun i hi => ?_⟩
  rw [sxR_len] at hi
  have hnz : nVar n m 3 i ((sxR n m M (n + 1)).getD i 0) ≠ 0 := fun h => nVar_zero.1 h (row_name hok hs i hi)
  simpa [srV] using hnz
theorem M_is (hok : nOk n m) (hl : (M.length : Int) = nVars n m) (ho : OrdL n (ptF n m M) ord) (hs : ∀ a, a < n + 1 → sxG n m M a) : M = mpM n m ord (sxR n m M (n + 1)) (ibU n n m M n) := by
  have hg : ∀ k, k < n → ∃ q : Nat, q < n ∧ ord.getD k 0 = q := fun k hk => by obtain ⟨a, ha, e, _⟩ := ho.2.1 k hk; exact ⟨a, ha, e⟩
  have hr := row_name hok hs
  have hlen : M.length = (mpM n m ord (sxR n m M (n + 1)) (ibU n n m M n)).length := by rw [mpM_len]; omega
  apply List.ext_getElem hlen
  intro j h1 h2
  obtain ⟨hnm, hv⟩ := nOf_name (o := n) (s := m) (v := (j : Int) + 1) (by omega) (by omega)
  generalize nOf n m ((j : Int) + 1) = q at hnm hv
  obtain ⟨c, a, b⟩ := q
  simp only at hnm hv
  have key : (mpM n m ord (sxR n m M (n + 1)) (ibU n n m M n)).getD j false = tAt M (nVar n m c a b) → M[j] = (mpM n m ord (sxR n m M (n + 1)) (ibU n n m M n))[j] := fun h => by
    rw [hv] at h
    unfold tAt at h
    rw [show ((j : Int) + 1 - 1).toNat = j by omega, List.getD_eq_getElem?_getD, List.getElem?_eq_getElem h2, List.getD_eq_getElem?_getD, List.getElem?_eq_getElem h1] at h
    exact h.symm
  have hmv := mp_var (ord := ord) (row := sxR n m M (n + 1)) (inn := ibU n n m M n) hok hnm
  rw [show (nVar n m c a b - 1).toNat = j by omega] at hmv
  refine key ?_
  obtain ⟨_, c1, c3, a0, aA, b0, bB⟩ := hnm
  rcases (by omega : c = 1 ∨ c = 2 ∨ c = 3) with rfl | rfl | rfl
  · have e1 : nA n 1 = n := by simp [nA]
    have e2 : nB n m 1 = n := by simp [nB]
    obtain ⟨i, rfl⟩ : ∃ i : Nat, a = i := ⟨a.toNat, by omega⟩
    obtain ⟨p, rfl⟩ : ∃ i : Nat, b = i := ⟨b.toNat, by omega⟩
    have h3 := mp_1 (inn := ibU n n m M n) hok hg hr (i := i) (p := p) (by omega) (by omega)
    rw [hmv.2] at h3
    obtain ⟨x, hx, ex, hm⟩ := ho.2.1 p (by omega)
    have h4 := hm i (by omega)
    have h5 : ptF n m M i p = tAt M (nVar n m 1 i p) := rfl
    rw [h5] at h4
    have h6 : decide (ord.getD p 0 = i) = tAt M (nVar n m 1 i p) := by
      rw [Bool.eq_iff_iff, decide_eq_true_iff, h4, ex]; omega
    rw [← h6]
    cases hq : (mpM n m ord (sxR n m M (n + 1)) (ibU n n m M n)).getD j false <;> rw [hq] at h3 <;> simp at h3 ⊢ <;> exact h3
  · have e1 : nA n 2 = n := by simp [nA]
    have e2 : nB n m 2 = 1 := by simp [nB]
    obtain ⟨i, rfl⟩ : ∃ i : Nat, a = i := ⟨a.toNat, by omega⟩
    obtain rfl : b = 0 := by omega
    have h3 := (mp_2 (inn := ibU n n m M n) hok hg hr (i := i) (by omega)).1
    rw [hmv.1, ibU_at n (Nat.le_refl _), if_pos (by omega)] at h3
    exact h3
  · have e1 : nA n 3 = n + 1 := by simp [nA]
    have e2 : nB n m 3 = m := by simp [nB]
    obtain ⟨p, rfl⟩ : ∃ i : Nat, a = i := ⟨a.toNat, by omega⟩
    obtain ⟨x, rfl⟩ : ∃ i : Nat, b = i := ⟨b.toNat, by omega⟩
    have h3 := (mp_3 (inn := ibU n n m M n) hok hg hr (p := p) (b := x) (by omega) (by omega) (by omega)).1
    rw [hmv.1, sxR_at _ _ _ (by omega)] at h3
    have h4 := (one_at (hs p (by omega))).2 x (by omega)
    have h5 : srF n m M p x = tAt M (nVar n m 3 p x) := rfl
    rw [h5] at h4
    rw [h3, Bool.eq_iff_iff, decide_eq_true_iff, h4]; omega
theorem ix_is {l : List Int} (hd : ∀ j k, j < l.length → k < l.length → l.getD j 0 = l.getD k 0 → j = k) {k : Nat} (hk : k < l.length) : l.idxOf (l.getD k 0) = k := by
  have h1 := ix_le hk
  exact hd _ _ (by omega) hk (ix_at (by omega))
end
theorem say_main {o : Ob} {l : List Op5} {M : List Bool} (he : eE o l = 0) : ((M.length : Int) = nVars (mN o l) (mS o l) ∧ ∀ c ∈ enR o l, hoB c M = true) ↔ sayP o l M := by
  obtain ⟨hm, hln, hok, _, _, _⟩ := eE_ok he
  obtain ⟨e1, e2⟩ := m_yes hm
  have hok2 := hok
  obtain ⟨z, hz, hpg⟩ := pg_pairs (oGood_of hm.2) l.length (Nat.le_refl _)
  have hzp : prN l = z := by unfold prN; omega
  have hI := ob_init hm.1
  unfold sayP
  rw [e1, e2] at hok ⊢
  have hmem := fun c => enR_mem (o := o) (l := l) (c := c)
  rw [e1, e2] at hmem
  constructor
  · rintro ⟨hl, hall⟩
    have hp := (hold_pl hok hl).1 fun c hc => hall c ((hmem c).2 (.inl hc))
    have hs := (hold_st hok hl hI.1 hI.2).1 fun c hc => hall c ((hmem c).2 (.inr (.inr (.inl hc))))
    have ho := oo_ord hp
    have ht := (hold_tm hok hl (us := oPairL l l.length) (K := prN l) (fun p hp => hpg p (by omega)) ho).1 fun c hc => hall c ((hmem c).2 (.inr (.inl hc)))
    have hoo : ooOk l.length o.S M := ⟨hok, hl, by rw [Int.toNat_natCast]; exact hp⟩
    have hX : ooX l.length o.S M = ooU l.length o.S M l.length := by rw [(oo_yes hoo).1, Int.toNat_natCast]
    have hsx : sxOk l.length o.S M := ⟨hok, hl, by rw [Int.toNat_natCast]; exact hs.1⟩
    have hR : sxX l.length o.S M = sxR l.length o.S M (l.length + 1) := by rw [(sx_yes hsx).1, Int.toNat_natCast]
    rw [hX, hR]
    unfold inT
    have hM := M_is hok hl ho hs.1
    have hmv : ∀ c ∈ mRes o l, hoB c (mpM l.length o.S (ooU l.length o.S M l.length) (sxR l.length o.S M (l.length + 1)) (ibU l.length l.length o.S M l.length)) = true := by
      rw [← hM]; exact fun c hc => hall c ((hmem c).2 (.inr (.inr (.inr hc))))
    obtain ⟨h1, h2⟩ := (mp_main hok2 (ord_pt hok ho) (row_sr hok hs.1) (by rw [sxR_at _ _ _ (by omega)]; exact hs.2) (ibU_len _ _ _ _ _)).1 hmv
    refine ⟨he, hoo, fb_all fun i hi => ?_, hsx, h1, h2.symm⟩
    unfold agE
    rw [if_neg]
    rintro ⟨h3, h4⟩
    rw [ooU_len] at h4
    exact ht i hi _ _ h3 h4 ⟨ix_at (by rw [ooU_len]; exact h4), ix_at (by rw [ooU_len]; omega)⟩
  · rintro ⟨_, hoo, hfb, hsx, h1, h2⟩
    have hl := hoo.2.1
    have hp := hoo.2.2
    have hsg := hsx.2.2
    rw [Int.toNat_natCast] at hp hsg
    have ho := oo_ord hp
    have hX : ooX l.length o.S M = ooU l.length o.S M l.length := by rw [(oo_yes hoo).1, Int.toNat_natCast]
    have hR : sxX l.length o.S M = sxR l.length o.S M (l.length + 1) := by rw [(sx_yes hsx).1, Int.toNat_natCast]
    rw [hX] at hfb h1 h2
    rw [hR] at h2
    unfold inT at h1 h2
    have hp1 := (pl_yes (of_decide_eq_true h1)).1
    have h0 : (lastT (srF l.length o.S M 0) o.S.toNat : Int) = o.I := by
      rw [← sxR_at (k := l.length + 1) l.length o.S M (by omega), h2, hp1, plRow_at _ _ _ _ (by omega)]; rfl
    refine ⟨hl, fun c hc => ?_⟩
    rcases (hmem c).1 hc with hc | hc | hc | hc
    · exact (hold_pl hok hl).2 hp c hc
    · refine (hold_tm hok hl (us := oPairL l l.length) (K := prN l) (fun p hp => hpg p (by omega)) ho).2 (fun p hp x y hyx hx ⟨a1, a2⟩ => ?_) c hc
      have h5 := fb_eq.1 hfb p hp
      have hlen := ooU_len l.length o.S M l.length
      have hd : ∀ j k, j < (ooU l.length o.S M l.length).length → k < (ooU l.length o.S M l.length).length → (ooU l.length o.S M l.length).getD j 0 = (ooU l.length o.S M l.length).getD k 0 → j = k := fun j k hj hk e => ho.2.2 j k (by omega) (by omega) e
      unfold agE at h5
      rw [← a1, ← a2, ix_is hd (by omega), ix_is hd (by omega), if_pos ⟨hyx, by omega⟩] at h5
      omega
    · exact (hold_st hok hl hI.1 hI.2).2 ⟨hsg, h0⟩ c hc
    · have hM := M_is hok hl ho hsg
      rw [hM]
      exact (mp_main hok2 (ord_pt hok ho) (row_sr hok hsg) (by rw [sxR_at _ _ _ (by omega)]; exact h0) (ibU_len _ _ _ _ _)).2 ⟨h1, h2.symm⟩ c hc
theorem fiR_no {R : List (List Int)} {M : List Bool} : fiR R M = -1 ↔ ∀ c ∈ R, hoB c M = true := by
  rw [← fiR_all]
  unfold fiR; split <;> omega
end Go.Proofs.YtcjnikkmjhagmaaGreatDoor
namespace Go.Proofs.YtcjnikkmjhagmaaGreatDoor
open Go.RowKit
set_option linter.unusedVariables false
set_option linter.unusedSimpArgs false
abbrev mCap (M : List Bool) : IV := .ptr (fun _ => iBools M) 1
set_option maxRecDepth 100000 in
set_option maxHeartbeats 2000000 in
theorem pf_litT (x : Int) (M : List Bool) (hM : M.length ≤ 1000000) : PF Tryz.prog 101 [lt (.int .i64 x), .iv (mCap M)] fun r H' => r = lt (.bool (litT M x)) ∧ H' = [] := by
  refine SF.forgetAll ?_
  have hs1 := trivial; have hs2 := trivial; have hs3 := trivial; have hC := trivial; have hcl := trivial
  have hV := pf_lVar x
  have hb := spV_bd x
  have hsp : spV x ≠ 0 → (spB x = decide (0 < x)) := fun h => by
    unfold spB; congr 1; unfold spV at h
    by_cases h1 : 0 < x ∧ x ≤ 100000
    · exact propext ⟨fun h => h.1, fun _ => h1⟩
    · rw [if_neg h1] at h
      by_cases h2 : x < 0 ∧ -100000 ≤ x
      · exact propext ⟨fun h => h.1, fun h => by omega⟩
      · rw [if_neg h2] at h; exact absurd rfl h
  have hL : litT M x = (decide (spV x ≠ 0) && ((decide (spV x ≤ M.length) && M.getD (spV x - 1).toNat false) == spB x)) := rfl
  generalize litT M x = L at *
  generalize spV x = v at *
  by_cases h0 : v = 0
  · rw [decide_eq_false (fun h => h h0), Bool.false_and] at hL
    subst h0
    (refine SF_of_bodyX (aload tt) (aload_ok tyOK) Tryz.func101 rfl (by kernel_rfl) ?_; simp only [Tryz.ntmps101, List.length_cons, List.length_nil, Nat.reduceAdd, Nat.reduceSub, List.replicate_succ, List.replicate_zero, List.cons_append, List.nil_append])
    unfold mCap iBools
    (repeat (first | (first | (with_reducible first | refine AX_block ?_ | refine AX_skip ?_ | refine AX_exit ?_ | refine AX_ret ?_ | refine AX_ift ?_ | refine AX_iff ?_ | refine AX_seq_k (fun K hK => ?_) | refine ContX.use (by assumption) ?_) | simp only [thenX, inBlockX, if_true, if_false, reduceCtorEq]) | (first | ((with_reducible refine XOP tyOK ?_); simp (disch := omega) only [go_sem , hs1, hs2, hs3, iInts, iBools, iRows, aForm, lint, Int.add_sub_cancel, List.length_nil]; (with_reducible refine XRes_id ?_)) | (with_reducible refine XSK ?_)) | ((with_reducible refine XRes_nil ?_); refine hK _ ?_; clear hK K) | ((with_reducible refine AX_reg0 fun K hK => ?_); simp only [go_sem]) | (first | (first | refine XTL (by rfl) hV ?_ | refine XTL (by rfl) hC ?_) | ((refine XRes_slot (by rfl) rfl (PF.tells (idsA rfl) (fun _ => rfl) hcl) ?_); (rintro r H' ⟨rfl, rfl⟩); (simp only [putL, List.set_cons_succ, List.set_cons_zero])))))
    (simp only [bodyX]; refine ⟨_, by simp only [aresults, aresult, XS.as, Tryz.results101, aload, go_sem, Option.bind_some]; rfl, ?_⟩)
    exact ⟨ids_idB rfl, by rw [hL], trivial⟩
  · rw [decide_eq_true h0, Bool.true_and, hsp h0] at hL
    by_cases h1 : v ≤ M.length
    · rw [decide_eq_true h1, Bool.true_and] at hL
      by_cases h2 : 0 < x
      · rw [decide_eq_true h2] at hL
        (refine SF_of_bodyX (aload tt) (aload_ok tyOK) Tryz.func101 rfl (by kernel_rfl) ?_; simp only [Tryz.ntmps101, List.length_cons, List.length_nil, Nat.reduceAdd, Nat.reduceSub, List.replicate_succ, List.replicate_zero, List.cons_append, List.nil_append])
        unfold mCap iBools
        (repeat (first | (first | (with_reducible first | refine AX_block ?_ | refine AX_skip ?_ | refine AX_exit ?_ | refine AX_ret ?_ | refine AX_ift ?_ | refine AX_iff ?_ | refine AX_seq_k (fun K hK => ?_) | refine ContX.use (by assumption) ?_) | simp only [thenX, inBlockX, if_true, if_false, reduceCtorEq]) | (first | ((with_reducible refine XOP tyOK ?_); simp (disch := omega) only [go_sem , hs1, hs2, hs3, iInts, iBools, iRows, aForm, lint, Int.add_sub_cancel, List.length_nil]; (with_reducible refine XRes_id ?_)) | (with_reducible refine XSK ?_)) | ((with_reducible refine XRes_nil ?_); refine hK _ ?_; clear hK K) | ((with_reducible refine AX_reg0 fun K hK => ?_); simp only [go_sem]) | (first | (first | refine XTL (by rfl) hV ?_ | refine XTL (by rfl) hC ?_) | ((refine XRes_slot (by rfl) rfl (PF.tells (idsA rfl) (fun _ => rfl) hcl) ?_); (rintro r H' ⟨rfl, rfl⟩); (simp only [putL, List.set_cons_succ, List.set_cons_zero])))))
        (simp only [bodyX]; refine ⟨_, by simp only [aresults, aresult, XS.as, Tryz.results101, aload, go_sem, Option.bind_some]; rfl, ?_⟩)
        exact ⟨ids_idB rfl, by rw [hL]; cases M.getD (v - 1).toNat false <;> rfl, trivial⟩
      · rw [decide_eq_false h2] at hL
        (refine SF_of_bodyX (aload tt) (aload_ok tyOK) Tryz.func101 rfl (by kernel_rfl) ?_; simp only [Tryz.ntmps101, List.length_cons, List.length_nil, Nat.reduceAdd, Nat.reduceSub, List.replicate_succ, List.replicate_zero, List.cons_append, List.nil_append])
        unfold mCap iBools
        (repeat (first | (first | (with_reducible first | refine AX_block ?_ | refine AX_skip ?_ | refine AX_exit ?_ | refine AX_ret ?_ | refine AX_ift ?_ | refine AX_iff ?_ | refine AX_seq_k (fun K hK => ?_) | refine ContX.use (by assumption) ?_) | simp only [thenX, inBlockX, if_true, if_false, reduceCtorEq]) | (first | ((with_reducible refine XOP tyOK ?_); simp (disch := omega) only [go_sem , hs1, hs2, hs3, iInts, iBools, iRows, aForm, lint, Int.add_sub_cancel, List.length_nil]; (with_reducible refine XRes_id ?_)) | (with_reducible refine XSK ?_)) | ((with_reducible refine XRes_nil ?_); refine hK _ ?_; clear hK K) | ((with_reducible refine AX_reg0 fun K hK => ?_); simp only [go_sem]) | (first | (first | refine XTL (by rfl) hV ?_ | refine XTL (by rfl) hC ?_) | ((refine XRes_slot (by rfl) rfl (PF.tells (idsA rfl) (fun _ => rfl) hcl) ?_); (rintro r H' ⟨rfl, rfl⟩); (simp only [putL, List.set_cons_succ, List.set_cons_zero])))))
        (simp only [bodyX]; refine ⟨_, by simp only [aresults, aresult, XS.as, Tryz.results101, aload, go_sem, Option.bind_some]; rfl, ?_⟩)
        exact ⟨ids_idB rfl, by rw [hL]; cases M.getD (v - 1).toNat false <;> rfl, trivial⟩
    · rw [decide_eq_false h1, Bool.false_and] at hL
      by_cases h2 : 0 < x
      · rw [decide_eq_true h2] at hL
        (refine SF_of_bodyX (aload tt) (aload_ok tyOK) Tryz.func101 rfl (by kernel_rfl) ?_; simp only [Tryz.ntmps101, List.length_cons, List.length_nil, Nat.reduceAdd, Nat.reduceSub, List.replicate_succ, List.replicate_zero, List.cons_append, List.nil_append])
        unfold mCap iBools
        (repeat (first | (first | (with_reducible first | refine AX_block ?_ | refine AX_skip ?_ | refine AX_exit ?_ | refine AX_ret ?_ | refine AX_ift ?_ | refine AX_iff ?_ | refine AX_seq_k (fun K hK => ?_) | refine ContX.use (by assumption) ?_) | simp only [thenX, inBlockX, if_true, if_false, reduceCtorEq]) | (first | ((with_reducible refine XOP tyOK ?_); simp (disch := omega) only [go_sem , hs1, hs2, hs3, iInts, iBools, iRows, aForm, lint, Int.add_sub_cancel, List.length_nil]; (with_reducible refine XRes_id ?_)) | (with_reducible refine XSK ?_)) | ((with_reducible refine XRes_nil ?_); refine hK _ ?_; clear hK K) | ((with_reducible refine AX_reg0 fun K hK => ?_); simp only [go_sem]) | (first | (first | refine XTL (by rfl) hV ?_ | refine XTL (by rfl) hC ?_) | ((refine XRes_slot (by rfl) rfl (PF.tells (idsA rfl) (fun _ => rfl) hcl) ?_); (rintro r H' ⟨rfl, rfl⟩); (simp only [putL, List.set_cons_succ, List.set_cons_zero])))))
        (simp only [bodyX]; refine ⟨_, by simp only [aresults, aresult, XS.as, Tryz.results101, aload, go_sem, Option.bind_some]; rfl, ?_⟩)
        exact ⟨ids_idB rfl, by rw [hL]; rfl, trivial⟩
      · rw [decide_eq_false h2] at hL
        (refine SF_of_bodyX (aload tt) (aload_ok tyOK) Tryz.func101 rfl (by kernel_rfl) ?_; simp only [Tryz.ntmps101, List.length_cons, List.length_nil, Nat.reduceAdd, Nat.reduceSub, List.replicate_succ, List.replicate_zero, List.cons_append, List.nil_append])
        unfold mCap iBools
        (repeat (first | (first | (with_reducible first | refine AX_block ?_ | refine AX_skip ?_ | refine AX_exit ?_ | refine AX_ret ?_ | refine AX_ift ?_ | refine AX_iff ?_ | refine AX_seq_k (fun K hK => ?_) | refine ContX.use (by assumption) ?_) | simp only [thenX, inBlockX, if_true, if_false, reduceCtorEq]) | (first | ((with_reducible refine XOP tyOK ?_); simp (disch := omega) only [go_sem , hs1, hs2, hs3, iInts, iBools, iRows, aForm, lint, Int.add_sub_cancel, List.length_nil]; (with_reducible refine XRes_id ?_)) | (with_reducible refine XSK ?_)) | ((with_reducible refine XRes_nil ?_); refine hK _ ?_; clear hK K) | ((with_reducible refine AX_reg0 fun K hK => ?_); simp only [go_sem]) | (first | (first | refine XTL (by rfl) hV ?_ | refine XTL (by rfl) hC ?_) | ((refine XRes_slot (by rfl) rfl (PF.tells (idsA rfl) (fun _ => rfl) hcl) ?_); (rintro r H' ⟨rfl, rfl⟩); (simp only [putL, List.set_cons_succ, List.set_cons_zero])))))
        (simp only [bodyX]; refine ⟨_, by simp only [aresults, aresult, XS.as, Tryz.results101, aload, go_sem, Option.bind_some]; rfl, ?_⟩)
        exact ⟨ids_idB rfl, by rw [hL]; rfl, trivial⟩
def ixE (p : Int → Bool) (c : List Int) (i : Nat) : Int := if p (c.getD i 0) = true then 1 else 0
def ixR (p : Int → Bool) (c : List Int) : Int := if fb (ixE p c) c.length < c.length then (fb (ixE p c) c.length : Int) else -1
theorem ixR_any (p : Int → Bool) (c : List Int) : decide (0 ≤ ixR p c) = c.any p := by
  unfold ixR
  by_cases h : fb (ixE p c) c.length < c.length
  · rw [if_pos h, decide_eq_true (by omega)]
    have h1 := fb_bad h
    rw [ixE.eq_1 p c (fb (ixE p c) c.length)] at h1
    symm
    refine any_at h ?_
    by_cases h2 : p (c.getD (fb (ixE p c) c.length) 0) = true
    · exact h2
    · rw [if_neg h2] at h1; exact absurd rfl h1
  · rw [if_neg h, decide_eq_false (by omega)]
    symm
    refine any_no fun k hk => ?_
    have h1 := fb_before (err := ixE p c) (n := c.length) (j := k) (by omega)
    rw [ixE.eq_1 p c k] at h1
    by_cases h2 : p (c.getD k 0) = true
    · rw [if_pos h2] at h1; omega
    · simpa using h2
theorem below_q {err : Nat → Int} {i : Nat} (hp : ∀ j, j < i → err j = 0) (h : err i = 0) : ∀ j, j < i + 1 → err j = 0 := fun j hj => by
  rcases Nat.lt_or_ge j i with h1 | h1
  · exact hp j h1
  · rw [show j = i by omega]; exact h
set_option maxRecDepth 100000 in
set_option maxHeartbeats 2000000 in
theorem pf_ixI (c : List Int) (f : FuncId) (cap : IV) (p : Int → Bool) (hc : c.length ≤ 1000000) (hq : ∀ x, PF Tryz.prog f [lt (.int .i64 x), .iv cap] fun r H' => r = lt (.bool (p x)) ∧ H' = []) : PF Tryz.prog 123 [.iv (iInts c), .fn f [] [.iv cap]] fun r H' => r = lt (.int .i64 (ixR p c)) ∧ H' = [] := by
  refine SF.forgetAll ?_
  have hs1 := trivial; have hs2 := trivial; have hs3 := trivial; have hC := trivial; have hV := trivial; have hcl := trivial
  (refine SF_of_bodyX (aload tt) (aload_ok tyOK) Tryz.func123 rfl (by kernel_rfl) ?_; simp only [Tryz.ntmps123, List.length_cons, List.length_nil, Nat.reduceAdd, Nat.reduceSub, List.replicate_succ, List.replicate_zero, List.cons_append, List.nil_append])
  unfold iInts
  (repeat (first | (first | (with_reducible first | refine AX_block ?_ | refine AX_skip ?_ | refine AX_exit ?_ | refine AX_ret ?_ | refine AX_ift ?_ | refine AX_iff ?_ | refine AX_seq_k (fun K hK => ?_) | refine ContX.use (by assumption) ?_) | simp only [thenX, inBlockX, if_true, if_false, reduceCtorEq]) | (first | ((with_reducible refine XOP tyOK ?_); simp (disch := omega) only [go_sem , hs1, hs2, hs3, iInts, iBools, iRows, aForm, lint, Int.add_sub_cancel, List.length_nil]; (with_reducible refine XRes_id ?_)) | (with_reducible refine XSK ?_)) | ((with_reducible refine XRes_nil ?_); refine hK _ ?_; clear hK K) | ((with_reducible refine AX_reg0 fun K hK => ?_); simp only [go_sem]) | (first | (first | refine XTL (by rfl) hV ?_ | refine XTL (by rfl) hC ?_) | ((refine XRes_slot (by rfl) rfl (PF.tells (idsA rfl) (fun _ => rfl) hcl) ?_); (rintro r H' ⟨rfl, rfl⟩); (simp only [putL, List.set_cons_succ, List.set_cons_zero])))))
  (refine AWH (σ := Nat) [9, 10, 5, 11, 12, 13, 14, 15, 16, 17, 4, 18] (fun k => [(8, lint k)]) (fun k => []) (fun k => []) (fun k => k ≤ c.length ∧ ∀ j, j < k → ixE p c j = 0) (fun k => c.length - k) 0 (by first | exact ⟨Nat.zero_le _, fun j h => absurd h (by omega)⟩) ?_; rintro k d fr hfr ⟨hk, hj⟩; simp only [updS, deadS, List.set_cons_succ, List.set_cons_zero, lint] at hfr; subst hfr; (try dsimp only))
  by_cases hlt : k < c.length
  · have hcl := hq (c.getD k 0)
    have hE : ixE p c k = if p (c.getD k 0) = true then 1 else 0 := rfl
    cases hp : p (c.getD k 0) with
    | true =>
      rw [hp] at hcl hE
      have hfb : fb (ixE p c) c.length = k := fb_at hj (by rw [hE]; decide) hlt
      (repeat (first | (first | (with_reducible first | refine AX_block ?_ | refine AX_skip ?_ | refine AX_exit ?_ | refine AX_ret ?_ | refine AX_ift ?_ | refine AX_iff ?_ | refine AX_seq_k (fun K hK => ?_) | refine ContX.use (by assumption) ?_) | simp only [thenX, inBlockX, if_true, if_false, reduceCtorEq]) | (first | ((with_reducible refine XOP tyOK ?_); simp (disch := omega) only [go_sem , hs1, hs2, hs3, iInts, iBools, iRows, aForm, lint, Int.add_sub_cancel, List.length_nil]; (with_reducible refine XRes_id ?_)) | (with_reducible refine XSK ?_)) | ((with_reducible refine XRes_nil ?_); refine hK _ ?_; clear hK K) | ((with_reducible refine AX_reg0 fun K hK => ?_); simp only [go_sem]) | (first | (first | refine XTL (by rfl) hV ?_ | refine XTL (by rfl) hC ?_) | ((refine XRes_slot (by rfl) rfl (PF.tells (idsA rfl) (fun _ => rfl) hcl) ?_); (rintro r H' ⟨rfl, rfl⟩); (simp only [putL, List.set_cons_succ, List.set_cons_zero])))))
      (simp only [bodyX]; refine ⟨_, by simp only [aresults, aresult, XS.as, Tryz.results123, aload, go_sem, Option.bind_some]; rfl, ?_⟩)
      exact ⟨ids_idB rfl, by unfold ixR; rw [hfb, if_pos hlt], trivial⟩
    | false =>
      rw [hp] at hcl hE
      (repeat (first | (first | (with_reducible first | refine AX_block ?_ | refine AX_skip ?_ | refine AX_exit ?_ | refine AX_ret ?_ | refine AX_ift ?_ | refine AX_iff ?_ | refine AX_seq_k (fun K hK => ?_) | refine ContX.use (by assumption) ?_) | simp only [thenX, inBlockX, if_true, if_false, reduceCtorEq]) | (first | ((with_reducible refine XOP tyOK ?_); simp (disch := omega) only [go_sem , hs1, hs2, hs3, iInts, iBools, iRows, aForm, lint, Int.add_sub_cancel, List.length_nil]; (with_reducible refine XRes_id ?_)) | (with_reducible refine XSK ?_)) | ((with_reducible refine XRes_nil ?_); refine hK _ ?_; clear hK K) | ((with_reducible refine AX_reg0 fun K hK => ?_); simp only [go_sem]) | (first | (first | refine XTL (by rfl) hV ?_ | refine XTL (by rfl) hC ?_) | ((refine XRes_slot (by rfl) rfl (PF.tells (idsA rfl) (fun _ => rfl) hcl) ?_); (rintro r H' ⟨rfl, rfl⟩); (simp only [putL, List.set_cons_succ, List.set_cons_zero])))))
      exact WRN [] (k + 1) ⟨by omega, below_q hj (by rw [hE]; rfl)⟩ (by (first | omega | (dsimp only; omega) | (simp only; omega)))
  · obtain rfl : k = c.length := by omega
    have hfb : fb (ixE p c) c.length = c.length := fb_all hj
    (repeat (first | (first | (with_reducible first | refine AX_block ?_ | refine AX_skip ?_ | refine AX_exit ?_ | refine AX_ret ?_ | refine AX_ift ?_ | refine AX_iff ?_ | refine AX_seq_k (fun K hK => ?_) | refine ContX.use (by assumption) ?_) | simp only [thenX, inBlockX, if_true, if_false, reduceCtorEq]) | (first | ((with_reducible refine XOP tyOK ?_); simp (disch := omega) only [go_sem , hs1, hs2, hs3, iInts, iBools, iRows, aForm, lint, Int.add_sub_cancel, List.length_nil]; (with_reducible refine XRes_id ?_)) | (with_reducible refine XSK ?_)) | ((with_reducible refine XRes_nil ?_); refine hK _ ?_; clear hK K) | ((with_reducible refine AX_reg0 fun K hK => ?_); simp only [go_sem]) | (first | (first | refine XTL (by rfl) hV ?_ | refine XTL (by rfl) hC ?_) | ((refine XRes_slot (by rfl) rfl (PF.tells (idsA rfl) (fun _ => rfl) hcl) ?_); (rintro r H' ⟨rfl, rfl⟩); (simp only [putL, List.set_cons_succ, List.set_cons_zero])))))
    (simp only [bodyX]; refine ⟨_, by simp only [aresults, aresult, XS.as, Tryz.results123, aload, go_sem, Option.bind_some]; rfl, ?_⟩)
    exact ⟨ids_idB rfl, by unfold ixR; rw [hfb, if_neg (by omega)], trivial⟩
set_option maxRecDepth 100000 in
set_option maxHeartbeats 2000000 in
theorem pf_ctI (c : List Int) (f : FuncId) (cap : IV) (p : Int → Bool) (hc : c.length ≤ 1000000) (hq : ∀ x, PF Tryz.prog f [lt (.int .i64 x), .iv cap] fun r H' => r = lt (.bool (p x)) ∧ H' = []) : PF Tryz.prog 105 [.iv (iInts c), .fn f [] [.iv cap]] fun r H' => r = lt (.bool (c.any p)) ∧ H' = [] := by
  refine SF.forgetAll ?_
  have hs1 := trivial; have hs2 := trivial; have hs3 := trivial; have hV := trivial; have hcl := trivial
  have hC := pf_ixI c f cap p hc hq
  have ha := ixR_any p c
  generalize ixR p c = q at *
  generalize c.any p = A at *
  by_cases h : 0 ≤ q
  · rw [decide_eq_true h] at ha
    (refine SF_of_bodyX (aload tt) (aload_ok tyOK) Tryz.func105 rfl (by kernel_rfl) ?_; simp only [Tryz.ntmps105, List.length_cons, List.length_nil, Nat.reduceAdd, Nat.reduceSub, List.replicate_succ, List.replicate_zero, List.cons_append, List.nil_append])
    (repeat (first | (first | (with_reducible first | refine AX_block ?_ | refine AX_skip ?_ | refine AX_exit ?_ | refine AX_ret ?_ | refine AX_ift ?_ | refine AX_iff ?_ | refine AX_seq_k (fun K hK => ?_) | refine ContX.use (by assumption) ?_) | simp only [thenX, inBlockX, if_true, if_false, reduceCtorEq]) | (first | ((with_reducible refine XOP tyOK ?_); simp (disch := omega) only [go_sem , hs1, hs2, hs3, iInts, iBools, iRows, aForm, lint, Int.add_sub_cancel, List.length_nil]; (with_reducible refine XRes_id ?_)) | (with_reducible refine XSK ?_)) | ((with_reducible refine XRes_nil ?_); refine hK _ ?_; clear hK K) | ((with_reducible refine AX_reg0 fun K hK => ?_); simp only [go_sem]) | (first | (first | refine XTL (by rfl) hV ?_ | refine XTL (by rfl) hC ?_) | ((refine XRes_slot (by rfl) rfl (PF.tells (idsA rfl) (fun _ => rfl) hcl) ?_); (rintro r H' ⟨rfl, rfl⟩); (simp only [putL, List.set_cons_succ, List.set_cons_zero])))))
    (simp only [bodyX]; refine ⟨_, by simp only [aresults, aresult, XS.as, Tryz.results105, aload, go_sem, Option.bind_some]; rfl, ?_⟩)
    exact ⟨ids_idB rfl, by rw [← ha], trivial⟩
  · rw [decide_eq_false h] at ha
    (refine SF_of_bodyX (aload tt) (aload_ok tyOK) Tryz.func105 rfl (by kernel_rfl) ?_; simp only [Tryz.ntmps105, List.length_cons, List.length_nil, Nat.reduceAdd, Nat.reduceSub, List.replicate_succ, List.replicate_zero, List.cons_append, List.nil_append])
    (repeat (first | (first | (with_reducible first | refine AX_block ?_ | refine AX_skip ?_ | refine AX_exit ?_ | refine AX_ret ?_ | refine AX_ift ?_ | refine AX_iff ?_ | refine AX_seq_k (fun K hK => ?_) | refine ContX.use (by assumption) ?_) | simp only [thenX, inBlockX, if_true, if_false, reduceCtorEq]) | (first | ((with_reducible refine XOP tyOK ?_); simp (disch := omega) only [go_sem , hs1, hs2, hs3, iInts, iBools, iRows, aForm, lint, Int.add_sub_cancel, List.length_nil]; (with_reducible refine XRes_id ?_)) | (with_reducible refine XSK ?_)) | ((with_reducible refine XRes_nil ?_); refine hK _ ?_; clear hK K) | ((with_reducible refine AX_reg0 fun K hK => ?_); simp only [go_sem]) | (first | (first | refine XTL (by rfl) hV ?_ | refine XTL (by rfl) hC ?_) | ((refine XRes_slot (by rfl) rfl (PF.tells (idsA rfl) (fun _ => rfl) hcl) ?_); (rintro r H' ⟨rfl, rfl⟩); (simp only [putL, List.set_cons_succ, List.set_cons_zero])))))
    (simp only [bodyX]; refine ⟨_, by simp only [aresults, aresult, XS.as, Tryz.results105, aload, go_sem, Option.bind_some]; rfl, ?_⟩)
    exact ⟨ids_idB rfl, by rw [← ha], trivial⟩
end Go.Proofs.YtcjnikkmjhagmaaGreatDoor
