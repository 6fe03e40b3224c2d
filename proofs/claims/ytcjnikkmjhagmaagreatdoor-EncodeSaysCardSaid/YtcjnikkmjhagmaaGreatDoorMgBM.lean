import Derived.Test.YtcjnikkmjhagmaaGreatDoorMgAO
import Derived.Test.YtcjnikkmjhagmaaGreatDoorMgBL
import Derived.Test.YtcjnikkmjhagmaaGreatDoorMgBF
import Derived.Test.YtcjnikkmjhagmaaGreatDoorMgAR
import Derived.Test.YtcjnikkmjhagmaaGreatDoorMgAS
namespace Go.Proofs.YtcjnikkmjhagmaaGreatDoor
open Go.RowKit
theorem tAt_pos {M : List Bool} {v : Int} (h1 : 1 ≤ v) (h2 : v ≤ M.length) (h3 : M.length ≤ 100000) : litT M v = tAt M v := lit_pos h1 h2 h3
theorem tAt_neg {M : List Bool} {v : Int} (h1 : 1 ≤ v) (h2 : v ≤ M.length) (h3 : M.length ≤ 100000) : litT M (-v) = !tAt M v := lit_neg h1 h2 h3
section
variable {M : List Bool}
theorem row_hold (h3 : M.length ≤ 100000) {f : Nat → Int} {N : Nat} (hf : ∀ i, i < N → 1 ≤ f i ∧ f i ≤ M.length) : hoB ((List.range N).map f) M = true ↔ ∃ i, i < N ∧ tAt M (f i) = true := by
  unfold hoB
  rw [List.any_eq_true]
  constructor
  · rintro ⟨x, hx, h⟩
    obtain ⟨i, hi, rfl⟩ := List.mem_map.1 hx
    have hi := List.mem_range.1 hi
    rw [tAt_pos (hf i hi).1 (hf i hi).2 h3] at h
    exact ⟨i, hi, h⟩
  · rintro ⟨i, hi, h⟩
    exact ⟨f i, List.mem_map.2 ⟨i, List.mem_range.2 hi, rfl⟩, by rw [tAt_pos (hf i hi).1 (hf i hi).2 h3]; exact h⟩
theorem two_hold (h3 : M.length ≤ 100000) {v w : Int} (hv : 1 ≤ v ∧ v ≤ M.length) (hw : 1 ≤ w ∧ w ≤ M.length) : hoB [-v, -w] M = true ↔ ¬ (tAt M v = true ∧ tAt M w = true) := by
  unfold hoB
  simp only [List.any_cons, List.any_nil, Bool.or_false, tAt_neg hv.1 hv.2 h3, tAt_neg hw.1 hw.2 h3]
  cases tAt M v <;> cases tAt M w <;> simp
theorem one_hold (h3 : M.length ≤ 100000) {v : Int} (hv : 1 ≤ v ∧ v ≤ M.length) : hoB [v] M = true ↔ tAt M v = true := by
  unfold hoB
  simp only [List.any_cons, List.any_nil, Bool.or_false, tAt_pos hv.1 hv.2 h3]
theorem ms_hold (h3 : M.length ≤ 100000) {f : Nat → Int} {N : Nat} (hf : ∀ i, i < N → 1 ≤ f i ∧ f i ≤ M.length) : (∀ c ∈ msAll ((List.range N).map f), hoB c M = true) ↔ ∀ i j, i < j → j < N → ¬ (tAt M (f i) = true ∧ tAt M (f j) = true) := by
  have hl : ((List.range N).map f).length = N := by simp
  have at_ : ∀ k, k < N → ((List.range N).map f).getD k 0 = f k := fun k hk => by
    rw [List.getD_eq_getElem?_getD, List.getElem?_map, List.getElem?_range hk]; rfl
  constructor
  · intro h i j hij hj
    refine (two_hold h3 (hf i (by omega)) (hf j hj)).1 (h _ ?_)
    unfold msAll msUp
    refine List.mem_flatMap.2 ⟨i, List.mem_range.2 (by rw [hl]; omega), ?_⟩
    unfold msRow
    refine List.mem_map.2 ⟨j - (i + 1), List.mem_range.2 (by rw [hl]; omega), ?_⟩
    rw [show i + 1 + (j - (i + 1)) = j by omega, at_ i (by omega), at_ j hj]
  · intro h c hc
    unfold msAll msUp at hc
    obtain ⟨i, hi, hc⟩ := List.mem_flatMap.1 hc
    unfold msRow at hc
    obtain ⟨t, ht, rfl⟩ := List.mem_map.1 hc
    have hi := List.mem_range.1 hi
    have ht := List.mem_range.1 ht
    rw [hl] at hi ht
    rw [at_ i hi, at_ (i + 1 + t) (by omega)]
    exact (two_hold h3 (hf i hi) (hf _ (by omega))).2 (h i (i + 1 + t) (by omega) (by omega))
end
section
variable {n : Nat} {m : Int} {M : List Bool}
theorem nm_in (hok : nOk n m) (hl : (M.length : Int) = nVars n m) {c a b : Int} (h : nName n m c a b) : 1 ≤ nVar n m c a b ∧ nVar n m c a b ≤ M.length := by rw [hl]; exact nVar_pos h
theorem M_le (hok : nOk n m) (hl : (M.length : Int) = nVars n m) : M.length ≤ 100000 := by
  have hV : 0 ≤ nVars n m ∧ nVars n m ≤ 6240 := by unfold nVars; rw [if_pos hok]; exact nAhead_bd hok 4
  omega
theorem hold_pl (hok : nOk n m) (hl : (M.length : Int) = nVars n m) : (∀ c ∈ plCl n m, hoB c M = true) ↔ ∀ k, k < n → ooG n m M k := by
  have h3 := M_le hok hl
  have r1 : ∀ a k : Nat, a < n → k < n → 1 ≤ nVar n m 1 a k ∧ nVar n m 1 a k ≤ M.length := fun a k ha hk => nm_in hok hl (nName_1 hok (by omega) (by omega) (by omega) (by omega))
  unfold plCl
  rw [if_pos hok, Int.toNat_natCast]
  constructor
  · intro h
    have hrow : ∀ q, q < n → ∃ i, i < n ∧ ptF n m M q i = true := fun q hq => (row_hold h3 fun i hi => r1 q i hq hi).1 (h _ (List.mem_append.2 (.inl (by
      unfold plU1; exact List.mem_flatMap.2 ⟨q, List.mem_range.2 hq, List.mem_cons_self⟩))))
    have hms : ∀ q, q < n → ∀ i j, i < j → j < n → ¬ (ptF n m M q i = true ∧ ptF n m M q j = true) := fun q hq => (ms_hold h3 fun i hi => r1 q i hq hi).1 fun c hc => h _ (List.mem_append.2 (.inl (by
      unfold plU1; exact List.mem_flatMap.2 ⟨q, List.mem_range.2 hq, List.mem_cons_of_mem _ hc⟩)))
    have hcol : ∀ q, q < n → ∀ i j, i < j → j < n → ¬ (ptF n m M i q = true ∧ ptF n m M j q = true) := fun q hq => (ms_hold h3 fun i hi => r1 i q hi hq).1 fun c hc => h _ (List.mem_append.2 (.inr (by
      unfold plU2; exact List.mem_flatMap.2 ⟨q, List.mem_range.2 hq, hc⟩)))
    refine oo_of (fun a ha => ?_) fun a b k ha hb hk h1 h2 => ?_
    · obtain ⟨k, hk, hk2⟩ := hrow a ha
      refine ⟨k, hk, fun i hi => ⟨fun h1 => ?_, fun e => by rw [e]; exact hk2⟩⟩
      rcases Nat.lt_trichotomy i k with h4 | h4 | h4
      · exact absurd ⟨h1, hk2⟩ (hms a ha i k h4 hk)
      · exact h4
      · exact absurd ⟨hk2, h1⟩ (hms a ha k i h4 hi)
    · rcases Nat.lt_trichotomy a b with h4 | h4 | h4
      · exact absurd ⟨h1, h2⟩ (hcol k hk a b h4 hb)
      · exact h4
      · exact absurd ⟨h2, h1⟩ (hcol k hk b a h4 ha)
  · intro h
    have ho := oo_ord h
    have hr := fun a (ha : a < n) => ho.row ha
    intro c hc
    rcases List.mem_append.1 hc with hc | hc
    · unfold plU1 at hc
      obtain ⟨q, hq, hc⟩ := List.mem_flatMap.1 hc
      have hq := List.mem_range.1 hq
      obtain ⟨k, hk, _, hk2⟩ := hr q hq
      rcases List.mem_cons.1 hc with rfl | hc
      · exact (row_hold h3 fun i hi => r1 q i hq hi).2 ⟨k, hk, (hk2 k hk).2 rfl⟩
      · refine (ms_hold h3 fun i hi => r1 q i hq hi).2 (fun i j hij hj ⟨h1, h2⟩ => ?_) c hc
        have := (hk2 i (by omega)).1 h1
        have := (hk2 j hj).1 h2
        omega
    · unfold plU2 at hc
      obtain ⟨q, hq, hc⟩ := List.mem_flatMap.1 hc
      have hq := List.mem_range.1 hq
      obtain ⟨a, ha, _, hm⟩ := ho.2.1 q hq
      refine (ms_hold h3 fun i hi => r1 i q hi hq).2 (fun i j hij hj ⟨h1, h2⟩ => ?_) c hc
      have := (hm i (by omega)).1 h1
      have := (hm j hj).1 h2
      omega
theorem hold_st (hok : nOk n m) (hl : (M.length : Int) = nVars n m) {init : Int} (h1 : 0 ≤ init) (h2 : init < m) : (∀ c ∈ stL n m init, hoB c M = true) ↔ (∀ a, a < n + 1 → sxG n m M a) ∧ (lastT (srF n m M 0) m.toNat : Int) = init := by
  have h3 := M_le hok hl
  have r3 : ∀ a k : Nat, a < n + 1 → k < m.toNat → 1 ≤ nVar n m 3 a k ∧ nVar n m 3 a k ≤ M.length := fun a k ha hk => nm_in hok hl (nName_3 hok (by omega) (by omega) (by omega) (by omega))
  have ri := nm_in hok hl (nName_3 (a := 0) (b := init) hok (by omega) (by omega) h1 h2)
  unfold stL
  rw [if_pos ⟨hok, h1, h2⟩, Int.toNat_natCast]
  have em : ((m.toNat : Nat) : Int) = m := by omega
  have mem_stP : ∀ a c, c ∈ stP n m.toNat m.toNat a ↔ c = ((List.range m.toNat).map fun i : Nat => nVar n m 3 a i) ∨ c ∈ msAll ((List.range m.toNat).map fun i : Nat => nVar n m 3 a i) := fun a c => by
    unfold stP atV; rw [em]; exact List.mem_cons
  constructor
  · intro h
    have hP : ∀ a, a < n + 1 → ∀ c ∈ stP n m.toNat m.toNat a, hoB c M = true := fun a ha c hc => h c (List.mem_cons_of_mem _ (by unfold stUp; exact List.mem_flatMap.2 ⟨a, List.mem_range.2 ha, hc⟩))
    have hG : ∀ a, a < n + 1 → sxG n m M a := fun a ha => by
      obtain ⟨k, hk, hk2⟩ := (row_hold h3 fun i hi => r3 a i ha hi).1 (hP a ha _ ((mem_stP a _).2 (.inl rfl)))
      have hms := (ms_hold h3 fun i hi => r3 a i ha hi).1 fun c hc => hP a ha c ((mem_stP a c).2 (.inr hc))
      refine (cntT_of (B := srF n m M a) hk fun j hj => ⟨fun h4 => ?_, fun e => by rw [e]; exact hk2⟩).1
      rcases Nat.lt_trichotomy j k with h5 | h5 | h5
      · exact absurd ⟨h4, hk2⟩ (hms j k h5 hk)
      · exact h5
      · exact absurd ⟨hk2, h4⟩ (hms k j h5 hj)
    refine ⟨hG, ?_⟩
    have hi := (one_hold h3 ri).1 (h _ List.mem_cons_self)
    have := (one_at (hG 0 (by omega))).2 init.toNat (by omega)
    have e : srF n m M 0 init.toNat = true := by unfold srF; rw [Int.toNat_of_nonneg h1]; exact hi
    have := this.1 e
    omega
  · rintro ⟨hG, hI⟩ c hc
    rcases List.mem_cons.1 hc with rfl | hc
    · refine (one_hold h3 ri).2 ?_
      have h5 := one_at (hG 0 (by omega))
      have h6 := (h5.2 _ h5.1).2 rfl
      have e0 : lastT (srF n m M 0) m.toNat = init.toNat := by omega
      rw [e0] at h6
      unfold srF at h6
      rw [Int.toNat_of_nonneg h1] at h6
      exact h6
    · unfold stUp at hc
      obtain ⟨a, ha, hc⟩ := List.mem_flatMap.1 hc
      have ha := List.mem_range.1 ha
      have h5 := one_at (hG a ha)
      rcases (mem_stP a c).1 hc with rfl | hc
      · exact (row_hold h3 fun i hi => r3 a i ha hi).2 ⟨_, h5.1, (h5.2 _ h5.1).2 rfl⟩
      · refine (ms_hold h3 fun i hi => r3 a i ha hi).2 (fun i j hij hj ⟨e1, e2⟩ => ?_) c hc
        have := (h5.2 i (by omega)).1 e1
        have := (h5.2 j hj).1 e2
        omega
theorem hold_tm (hok : nOk n m) (hl : (M.length : Int) = nVars n m) {us : List Int} {K : Nat} (hg : ∀ p, p < K → tmG n (us.getD (p * 2) 0) (us.getD (p * 2 + 1) 0)) {l : List Int} (ho : OrdL n (ptF n m M) l) :
    (∀ c ∈ tmL n m us K, hoB c M = true) ↔ ∀ p, p < K → ∀ x y, y < x → x < n → ¬ (l.getD x 0 = us.getD (p * 2) 0 ∧ l.getD y 0 = us.getD (p * 2 + 1) 0) := by
  have h3 := M_le hok hl
  have r1 : ∀ a k : Int, 0 ≤ a → a < n → 0 ≤ k → k < n → 1 ≤ nVar n m 1 a k ∧ nVar n m 1 a k ≤ M.length := fun a k h1 h2 h4 h5 => nm_in hok hl (nName_1 hok h1 h2 h4 h5)
  have key : ∀ (a : Int) (x : Nat), 0 ≤ a → a < n → x < n → (tAt M (nVar n m 1 a x) = true ↔ l.getD x 0 = a) := fun a x h1 h2 hx => by
    obtain ⟨b, hb, e, hm⟩ := ho.2.1 x hx
    have := hm a.toNat (by omega)
    unfold ptF at this
    rw [Int.toNat_of_nonneg h1] at this
    rw [this, e]; omega
  unfold tmL
  rw [if_pos hok, Int.toNat_natCast]
  constructor
  · intro h p hp x y hyx hx ⟨e1, e2⟩
    obtain ⟨⟨g1, g2⟩, ⟨g3, g4⟩, g5⟩ := hg p hp
    have := h (tmRow n m (us.getD (p * 2) 0) (us.getD (p * 2 + 1) 0) x y) (by
      unfold tmU; refine List.mem_flatMap.2 ⟨p, List.mem_range.2 hp, ?_⟩
      unfold tmI; rw [if_pos (hg p hp)]
      unfold tmP; refine List.mem_flatMap.2 ⟨x, List.mem_range.2 hx, ?_⟩
      unfold tmA; exact List.mem_map.2 ⟨y, List.mem_range.2 hyx, rfl⟩)
    exact (two_hold h3 (r1 _ _ g1 g2 (by omega) (by omega)) (r1 _ _ g3 g4 (by omega) (by omega))).1 this ⟨(key _ x g1 g2 hx).2 e1, (key _ y g3 g4 (by omega)).2 e2⟩
  · intro h c hc
    unfold tmU at hc
    obtain ⟨p, hp, hc⟩ := List.mem_flatMap.1 hc
    have hp := List.mem_range.1 hp
    unfold tmI at hc
    rw [if_pos (hg p hp)] at hc
    obtain ⟨⟨g1, g2⟩, ⟨g3, g4⟩, g5⟩ := hg p hp
    unfold tmP at hc
    obtain ⟨x, hx, hc⟩ := List.mem_flatMap.1 hc
    have hx := List.mem_range.1 hx
    unfold tmA at hc
    obtain ⟨y, hy, rfl⟩ := List.mem_map.1 hc
    have hy := List.mem_range.1 hy
    refine (two_hold h3 (r1 _ _ g1 g2 (by omega) (by omega)) (r1 _ _ g3 g4 (by omega) (by omega))).2 fun ⟨e1, e2⟩ => h p hp x y hy hx ⟨(key _ x g1 g2 hx).1 e1, (key _ y g3 g4 (by omega)).1 e2⟩
end
end Go.Proofs.YtcjnikkmjhagmaaGreatDoor
namespace Go.Proofs.YtcjnikkmjhagmaaGreatDoor
open Go.RowKit
set_option linter.unusedVariables false
set_option linter.unusedSimpArgs false
theorem mOk_pos {o : Ob} {l : List Op5} : (mN o l = 0 ∧ mS o l = 0) ↔ ¬ mOk o l := by
  by_cases h : mOk o l
  · rw [(m_yes h).1, (m_yes h).2]
    have h1 := h.1
    have h2 := (obE_zero.1 h1).1
    unfold obHead at h2
    exact ⟨fun e => by omega, fun e => absurd h e⟩
  · exact ⟨fun _ => h, fun _ => m_no h⟩
instance (o : Ob) (l : List Op5) : Decidable (mOk o l) := by unfold mOk; infer_instance
def eE (o : Ob) (l : List Op5) : Int := if ¬ mOk o l then 2 else if 64 < l.length then 3 else cFits (mN o l) (mS o l) l
set_option maxRecDepth 100000 in
set_option maxHeartbeats 2000000 in
theorem pf_eFits (o : Ob) (l : List Op5) (hr : o.R.length ≤ 100000) (ho : o.Ok) (hl : l.length ≤ 100000) (hs : okS l) : PF Tryz.prog 24 [obA o, .iv (iOps l)] fun r H' => r = .tup [szA (mN o l) (mS o l), lt (.int .i64 (eE o l))] ∧ H' = [] := by
  refine SF.forgetAll ?_
  have hs1 := trivial; have hs2 := trivial; have hs3 := trivial
  have hZ := pf_mSize o l hr ho hl hs
  have hm := mOk_pos (o := o) (l := l)
  have hF : l.length ≤ 64 → _ := fun h => pf_cFits (mN o l) (mS o l) l (by omega) hs
  have hee : eE o l = if ¬ mOk o l then 2 else if 64 < l.length then 3 else cFits (mN o l) (mS o l) l := rfl
  generalize cFits (mN o l) (mS o l) l = F at *
  generalize eE o l = E at *
  generalize mN o l = N at *
  generalize mS o l = S at *
  generalize hb : decide (¬ mOk o l) = b at *
  have hq : ([N, S] == [0, 0]) = b := by
    rw [← hb]
    by_cases h : mOk o l
    · rw [decide_eq_false (fun hh => hh h)]
      simp only [List.cons_beq_cons, beq_eq_false_iff_ne, Bool.and_eq_false_iff]
      by_cases h1 : N = 0
      · right; left; intro h2; exact hm.1 ⟨h1, h2⟩ h
      · left; exact h1
    · obtain ⟨rfl, rfl⟩ := hm.2 h
      rw [decide_eq_true h]; rfl
  by_cases h : mOk o l
  · obtain rfl : b = false := by rw [← hb]; exact decide_eq_false (fun hh => hh h)
    rw [if_neg (fun hh => hh h)] at hee
    by_cases h1 : 64 < l.length
    · rw [if_pos h1] at hee
      rw [hee]
      have hF := trivial
      (refine SF_of_bodyX (aload tt) (aload_ok tyOK) Tryz.func24 rfl (by kernel_rfl) ?_; simp only [Tryz.ntmps24, List.length_cons, List.length_nil, Nat.reduceAdd, Nat.reduceSub, List.replicate_succ, List.replicate_zero, List.cons_append, List.nil_append])
      repeat (first | (first | (with_reducible first | refine AX_block ?_ | refine AX_skip ?_ | refine AX_exit ?_ | refine AX_ret ?_ | refine AX_ift ?_ | refine AX_iff ?_ | refine AX_seq_k (fun K hK => ?_) | refine ContX.use (by assumption) ?_) | simp only [thenX, inBlockX, if_true, if_false, reduceCtorEq]) | (first | ((first | (with_reducible refine XRes_op tyOK ?_ ?_) | ((with_reducible first | refine ADF_op tyOK ?_ ?_ ?_ | refine ADX_op tyOK ?_ ?_ ?_); (focus rfl)) | (with_reducible refine ADR_alloc1 tyOK ?_ ?_) | ((with_reducible refine ADR_free1 tyOK ?_ ?_ ?_); (focus rfl)) | ((with_reducible refine ADR_free0 tyOK ?_ ?_ ?_); (focus rfl)) | ((with_reducible refine ADR_read1 tyOK ?_ ?_ ?_); (focus rfl)) | (with_reducible refine ADR_chg1 tyOK ?_ ?_)); (focus (first | (with_reducible rfl) | ((simp (disch := omega) only [go_sem]); done))); simp (disch := omega) only [go_sem , iOps, iFlat, iInts, eqRes, szA, Int.toNat_zero, Int.toNat_one, hs1, hs2, hs3, List.length_nil]; (first | (with_reducible refine XRes_id ?_) | (with_reducible refine ADF_id ?_) | (with_reducible refine ADR_id1 ?_) | (with_reducible refine ADX_id ?_))) | ((first | (with_reducible refine XRes_skip ?_ ?_) | (with_reducible refine ADF_skip (b := true) ?_ ?_) | (with_reducible refine ADX_skip ?_ ?_) | ((with_reducible refine ADR_skip1 ?_ ?_ ?_); (focus rfl))); (focus (first | rfl | ((simp (disch := omega) only [go_sem]); done))); (simp only [putL, List.set_cons_succ, List.set_cons_zero]))) | ((first | (with_reducible refine XRes_nil ?_) | (with_reducible refine ADF_nil ?_) | (with_reducible refine ADR_nil ?_) | (with_reducible refine ADX_nil ?_)); (first | refine hK _ ?_ | refine hK _ _ ?_); clear hK K) | ((first | (with_reducible refine AX_reg0 fun K hK => ?_) | (refine AX_drawG1 tyOK (by kernel_rfl) (by rfl) (by kernel_rfl) fun K hK => ?_) | (refine AX_drawT tyOK (by kernel_rfl) (by decide +kernel) fun K hK => ?_) | (refine AX_drawM1 (by kernel_rfl) (by rfl) (by decide +kernel) fun K hK => ?_) | (refine AX_drawA tyOK (by kernel_rfl) (by decide +kernel) fun K hK => ?_)); (first | simp only [go_sem, preN, effOp, runF, alM, mapOp, alD2, kdOf2, Bool.not_false, Bool.not_true, reduceCtorEq] | simp only [go_sem, preN, effOp, runF, alM, mapOp, Bool.not_false, Bool.not_true, reduceCtorEq] | simp only [go_sem, preN, effOp, runF, alD2, kdOf2, Bool.not_false, Bool.not_true, reduceCtorEq] | simp only [go_sem, alD2, kdOf2, Bool.not_false, Bool.not_true, reduceCtorEq] | simp only [go_sem, preN, effOp, runF, Bool.not_false, Bool.not_true, reduceCtorEq] | simp only [go_sem])) | ((first | (refine XRes_eqB (us := [_, _]) (vs2 := [_, _]) _ rfl (by first | exact .inl rfl | exact .inr rfl) rfl rfl rfl rfl (by kernel_rfl) hq ?_)); (simp only [putL, List.set_cons_succ, List.set_cons_zero])) | (first | (first | refine XTL (by rfl) hZ ?_ | refine ATL tyOK (by rfl) hZ ?_) | ((refine ADR_tellF (by rfl) hF ?_ (fun _ => rfl) ?_); (focus exact idsA (by rfl)); (simp only [putL, List.set_cons_succ, List.set_cons_zero])) | (first | refine XTL (by rfl) hF ?_ | refine ATL tyOK (by rfl) hF ?_)) | (simp only [preN, effOp, runF, freeOp, roOp, alD, kdOf, isApp, List.any_cons, List.any_nil, List.take_succ_cons, List.take_zero, List.drop_succ_cons, List.drop_zero, Nat.reduceAdd, Bool.not_true, Bool.not_false, Bool.and_true, Bool.true_and, Bool.false_and, Bool.and_false, Bool.or_true, Bool.true_or, Bool.or_false, Bool.false_or, if_true, if_false, Bool.false_eq_true, reduceCtorEq, dsts, lapp_cons, lapp_nil, List.map_cons, List.map_nil, strip_mk, strip_gd, gix_some, List.getElem?_cons_succ, List.getElem?_cons_zero]) | (with_reducible refine XRes_nil ?_))
      (simp only [bodyX]; refine ⟨_, by simp only [aresults, aresult, XS.as, Tryz.results24, aload, go_sem, Option.bind_some]; rfl, ?_⟩)
      first | exact ⟨ids_idB rfl, rfl, trivial⟩ | exact ⟨ids_idB rfl, rfl⟩
    · rw [if_neg h1] at hee
      rw [hee]
      have hF := hF (by omega)
      (refine SF_of_bodyX (aload tt) (aload_ok tyOK) Tryz.func24 rfl (by kernel_rfl) ?_; simp only [Tryz.ntmps24, List.length_cons, List.length_nil, Nat.reduceAdd, Nat.reduceSub, List.replicate_succ, List.replicate_zero, List.cons_append, List.nil_append])
      repeat (first | (first | (with_reducible first | refine AX_block ?_ | refine AX_skip ?_ | refine AX_exit ?_ | refine AX_ret ?_ | refine AX_ift ?_ | refine AX_iff ?_ | refine AX_seq_k (fun K hK => ?_) | refine ContX.use (by assumption) ?_) | simp only [thenX, inBlockX, if_true, if_false, reduceCtorEq]) | (first | ((first | (with_reducible refine XRes_op tyOK ?_ ?_) | ((with_reducible first | refine ADF_op tyOK ?_ ?_ ?_ | refine ADX_op tyOK ?_ ?_ ?_); (focus rfl)) | (with_reducible refine ADR_alloc1 tyOK ?_ ?_) | ((with_reducible refine ADR_free1 tyOK ?_ ?_ ?_); (focus rfl)) | ((with_reducible refine ADR_free0 tyOK ?_ ?_ ?_); (focus rfl)) | ((with_reducible refine ADR_read1 tyOK ?_ ?_ ?_); (focus rfl)) | (with_reducible refine ADR_chg1 tyOK ?_ ?_)); (focus (first | (with_reducible rfl) | ((simp (disch := omega) only [go_sem]); done))); simp (disch := omega) only [go_sem , iOps, iFlat, iInts, eqRes, szA, Int.toNat_zero, Int.toNat_one, hs1, hs2, hs3, List.length_nil]; (first | (with_reducible refine XRes_id ?_) | (with_reducible refine ADF_id ?_) | (with_reducible refine ADR_id1 ?_) | (with_reducible refine ADX_id ?_))) | ((first | (with_reducible refine XRes_skip ?_ ?_) | (with_reducible refine ADF_skip (b := true) ?_ ?_) | (with_reducible refine ADX_skip ?_ ?_) | ((with_reducible refine ADR_skip1 ?_ ?_ ?_); (focus rfl))); (focus (first | rfl | ((simp (disch := omega) only [go_sem]); done))); (simp only [putL, List.set_cons_succ, List.set_cons_zero]))) | ((first | (with_reducible refine XRes_nil ?_) | (with_reducible refine ADF_nil ?_) | (with_reducible refine ADR_nil ?_) | (with_reducible refine ADX_nil ?_)); (first | refine hK _ ?_ | refine hK _ _ ?_); clear hK K) | ((first | (with_reducible refine AX_reg0 fun K hK => ?_) | (refine AX_drawG1 tyOK (by kernel_rfl) (by rfl) (by kernel_rfl) fun K hK => ?_) | (refine AX_drawT tyOK (by kernel_rfl) (by decide +kernel) fun K hK => ?_) | (refine AX_drawM1 (by kernel_rfl) (by rfl) (by decide +kernel) fun K hK => ?_) | (refine AX_drawA tyOK (by kernel_rfl) (by decide +kernel) fun K hK => ?_)); (first | simp only [go_sem, preN, effOp, runF, alM, mapOp, alD2, kdOf2, Bool.not_false, Bool.not_true, reduceCtorEq] | simp only [go_sem, preN, effOp, runF, alM, mapOp, Bool.not_false, Bool.not_true, reduceCtorEq] | simp only [go_sem, preN, effOp, runF, alD2, kdOf2, Bool.not_false, Bool.not_true, reduceCtorEq] | simp only [go_sem, alD2, kdOf2, Bool.not_false, Bool.not_true, reduceCtorEq] | simp only [go_sem, preN, effOp, runF, Bool.not_false, Bool.not_true, reduceCtorEq] | simp only [go_sem])) | ((first | (refine XRes_eqB (us := [_, _]) (vs2 := [_, _]) _ rfl (by first | exact .inl rfl | exact .inr rfl) rfl rfl rfl rfl (by kernel_rfl) hq ?_)); (simp only [putL, List.set_cons_succ, List.set_cons_zero])) | (first | (first | refine XTL (by rfl) hZ ?_ | refine ATL tyOK (by rfl) hZ ?_) | ((refine ADR_tellF (by rfl) hF ?_ (fun _ => rfl) ?_); (focus exact idsA (by rfl)); (simp only [putL, List.set_cons_succ, List.set_cons_zero])) | (first | refine XTL (by rfl) hF ?_ | refine ATL tyOK (by rfl) hF ?_)) | (simp only [preN, effOp, runF, freeOp, roOp, alD, kdOf, isApp, List.any_cons, List.any_nil, List.take_succ_cons, List.take_zero, List.drop_succ_cons, List.drop_zero, Nat.reduceAdd, Bool.not_true, Bool.not_false, Bool.and_true, Bool.true_and, Bool.false_and, Bool.and_false, Bool.or_true, Bool.true_or, Bool.or_false, Bool.false_or, if_true, if_false, Bool.false_eq_true, reduceCtorEq, dsts, lapp_cons, lapp_nil, List.map_cons, List.map_nil, strip_mk, strip_gd, gix_some, List.getElem?_cons_succ, List.getElem?_cons_zero]) | (with_reducible refine XRes_nil ?_))
      (simp only [bodyX]; refine ⟨_, by simp only [aresults, aresult, XS.as, Tryz.results24, aload, go_sem, Option.bind_some]; rfl, ?_⟩)
      first | exact ⟨ids_idB rfl, rfl, trivial⟩ | exact ⟨ids_idB rfl, rfl⟩
  · obtain rfl : b = true := by rw [← hb]; exact decide_eq_true h
    rw [if_pos h] at hee
    rw [hee]
    have hF := trivial
    (refine SF_of_bodyX (aload tt) (aload_ok tyOK) Tryz.func24 rfl (by kernel_rfl) ?_; simp only [Tryz.ntmps24, List.length_cons, List.length_nil, Nat.reduceAdd, Nat.reduceSub, List.replicate_succ, List.replicate_zero, List.cons_append, List.nil_append])
    repeat (first | (first | (with_reducible first | refine AX_block ?_ | refine AX_skip ?_ | refine AX_exit ?_ | refine AX_ret ?_ | refine AX_ift ?_ | refine AX_iff ?_ | refine AX_seq_k (fun K hK => ?_) | refine ContX.use (by assumption) ?_) | simp only [thenX, inBlockX, if_true, if_false, reduceCtorEq]) | (first | ((first | (with_reducible refine XRes_op tyOK ?_ ?_) | ((with_reducible first | refine ADF_op tyOK ?_ ?_ ?_ | refine ADX_op tyOK ?_ ?_ ?_); (focus rfl)) | (with_reducible refine ADR_alloc1 tyOK ?_ ?_) | ((with_reducible refine ADR_free1 tyOK ?_ ?_ ?_); (focus rfl)) | ((with_reducible refine ADR_free0 tyOK ?_ ?_ ?_); (focus rfl)) | ((with_reducible refine ADR_read1 tyOK ?_ ?_ ?_); (focus rfl)) | (with_reducible refine ADR_chg1 tyOK ?_ ?_)); (focus (first | (with_reducible rfl) | ((simp (disch := omega) only [go_sem]); done))); simp (disch := omega) only [go_sem , iOps, iFlat, iInts, eqRes, szA, Int.toNat_zero, Int.toNat_one, hs1, hs2, hs3, List.length_nil]; (first | (with_reducible refine XRes_id ?_) | (with_reducible refine ADF_id ?_) | (with_reducible refine ADR_id1 ?_) | (with_reducible refine ADX_id ?_))) | ((first | (with_reducible refine XRes_skip ?_ ?_) | (with_reducible refine ADF_skip (b := true) ?_ ?_) | (with_reducible refine ADX_skip ?_ ?_) | ((with_reducible refine ADR_skip1 ?_ ?_ ?_); (focus rfl))); (focus (first | rfl | ((simp (disch := omega) only [go_sem]); done))); (simp only [putL, List.set_cons_succ, List.set_cons_zero]))) | ((first | (with_reducible refine XRes_nil ?_) | (with_reducible refine ADF_nil ?_) | (with_reducible refine ADR_nil ?_) | (with_reducible refine ADX_nil ?_)); (first | refine hK _ ?_ | refine hK _ _ ?_); clear hK K) | ((first | (with_reducible refine AX_reg0 fun K hK => ?_) | (refine AX_drawG1 tyOK (by kernel_rfl) (by rfl) (by kernel_rfl) fun K hK => ?_) | (refine AX_drawT tyOK (by kernel_rfl) (by decide +kernel) fun K hK => ?_) | (refine AX_drawM1 (by kernel_rfl) (by rfl) (by decide +kernel) fun K hK => ?_) | (refine AX_drawA tyOK (by kernel_rfl) (by decide +kernel) fun K hK => ?_)); (first | simp only [go_sem, preN, effOp, runF, alM, mapOp, alD2, kdOf2, Bool.not_false, Bool.not_true, reduceCtorEq] | simp only [go_sem, preN, effOp, runF, alM, mapOp, Bool.not_false, Bool.not_true, reduceCtorEq] | simp only [go_sem, preN, effOp, runF, alD2, kdOf2, Bool.not_false, Bool.not_true, reduceCtorEq] | simp only [go_sem, alD2, kdOf2, Bool.not_false, Bool.not_true, reduceCtorEq] | simp only [go_sem, preN, effOp, runF, Bool.not_false, Bool.not_true, reduceCtorEq] | simp only [go_sem])) | ((first | (refine XRes_eqB (us := [_, _]) (vs2 := [_, _]) _ rfl (by first | exact .inl rfl | exact .inr rfl) rfl rfl rfl rfl (by kernel_rfl) hq ?_)); (simp only [putL, List.set_cons_succ, List.set_cons_zero])) | (first | (first | refine XTL (by rfl) hZ ?_ | refine ATL tyOK (by rfl) hZ ?_) | ((refine ADR_tellF (by rfl) hF ?_ (fun _ => rfl) ?_); (focus exact idsA (by rfl)); (simp only [putL, List.set_cons_succ, List.set_cons_zero])) | (first | refine XTL (by rfl) hF ?_ | refine ATL tyOK (by rfl) hF ?_)) | (simp only [preN, effOp, runF, freeOp, roOp, alD, kdOf, isApp, List.any_cons, List.any_nil, List.take_succ_cons, List.take_zero, List.drop_succ_cons, List.drop_zero, Nat.reduceAdd, Bool.not_true, Bool.not_false, Bool.and_true, Bool.true_and, Bool.false_and, Bool.and_false, Bool.or_true, Bool.true_or, Bool.or_false, Bool.false_or, if_true, if_false, Bool.false_eq_true, reduceCtorEq, dsts, lapp_cons, lapp_nil, List.map_cons, List.map_nil, strip_mk, strip_gd, gix_some, List.getElem?_cons_succ, List.getElem?_cons_zero]) | (with_reducible refine XRes_nil ?_))
    (simp only [bodyX]; refine ⟨_, by simp only [aresults, aresult, XS.as, Tryz.results24, aload, go_sem, Option.bind_some]; rfl, ?_⟩)
    first | exact ⟨ids_idB rfl, rfl, trivial⟩ | exact ⟨ids_idB rfl, rfl⟩
end Go.Proofs.YtcjnikkmjhagmaaGreatDoor
namespace Go.Proofs.YtcjnikkmjhagmaaGreatDoor
open Go.RowKit
set_option linter.unusedVariables false
set_option linter.unusedSimpArgs false
abbrev lstr (s : ByteArray) : AV := lt (.string s)
def iStrs (xs : List ByteArray) : IV := .sl (fun j => .lit (.string (xs.getD j ByteArray.empty))) xs.length 1
theorem rnL_lstr (r : Nat → Nat) (xs : List ByteArray) : rnL r (xs.map lstr) = xs.map lstr := by rw [rnL_map, List.map_map]; rfl
theorem idL_lstr (p : Nat → Bool) (xs : List ByteArray) : idL p (xs.map lstr) = true := by rw [idL_all, List.all_map, List.all_eq_true]; exact fun _ _ => rfl
theorem lstr_one (xs : List ByteArray) : (xs.map lstr).all AV.one = true := by rw [List.all_map, List.all_eq_true]; exact fun _ _ => rfl
theorem lstr_snoc (xs : List ByteArray) (v : ByteArray) : xs.map lstr ++ [lt (.string v)] = (xs ++ [v]).map lstr := by rw [List.map_append]; rfl
theorem take_lstr {xs : List ByteArray} {n : Nat} (h : xs.length ≤ n) : (xs.map lstr).take n = xs.map lstr := List.take_of_length_le (by simpa using h)
theorem snap_lstr {H : AHeap} {o n : Nat} {t : TypeId} {xs : List ByteArray} (h : H[o]? = some (some ⟨t, xs.map lstr⟩)) (hn : n = xs.length) : Snap H (.osl o 0 n 1) (.iv (iStrs xs)) := by
  subst hn
  exact .iv _ _ (SnapC.lits (fun j => .string (xs.getD j ByteArray.empty)) h fun j hj => by
    rw [Nat.zero_add, List.getElem?_map, List.getElem?_eq_getElem hj]
    simp [List.getD_eq_getElem?_getD, List.getElem?_eq_getElem hj])
theorem pf_nOf (o s v : Int) : PF Tryz.prog 51 [szA o s, lt (.int .i64 v)] fun r H' => r = .tup [.agg [lt (.int .i64 (nOf o s v).1), lt (.int .i64 (nOf o s v).2.1), lt (.int .i64 (nOf o s v).2.2)], lt (.bool (nOfOk o s v))] ∧ H' = [] :=
  PF_of_walk2 (v := .tuple #[.agg #[.int .i64 (nOf o s v).1, .int .i64 (nOf o s v).2.1, .int .i64 (nOf o s v).2.2], .bool (nOfOk o s v)]) ⟨_, Tryz.func51, by kernel_rfl, rfl⟩ (fun G => .tup [_, _] [_, _] rfl (RL.cons (.agg [_, _, _] [_, _, _] rfl (RL.cons (.iv _ _ (.lit _)) (RL.cons (.iv _ _ (.lit _)) (RL.cons (.iv _ _ (.lit _)) (RL.nil _ _)))).2 rfl) (RL.cons (.iv _ _ (.lit _)) (RL.nil _ _))).2) fun G w vs hi hr => by
    obtain ⟨v1, us, rfl, r1, hr⟩ := hr.uncons
    obtain ⟨v2, us, rfl, r2, hr⟩ := hr.uncons
    rw [hr.unnil, ra_agg2 r1, r2.lit_inv]
    exact num_Of o s v w
def tlS (t : ByteArray) (ns : List Int) : Nat → ByteArray
  | 0 => t
  | k + 1 => tlS t ns k ++ ((⟨#[32]⟩ : ByteArray) ++ itoaS (ns.getD k 0))
theorem tlS_size {t : ByteArray} {ns : List Int} (ht : t.size ≤ 1000) (hb : ∀ k, k < ns.length → 0 ≤ ns.getD k 0 ∧ ns.getD k 0 < 100) : ∀ k, k ≤ ns.length → (tlS t ns k).size ≤ 1000 + 3 * k
  | 0, _ => by simpa [tlS] using ht
  | k + 1, h => by
    have ih := tlS_size ht hb k (by omega)
    have h2 := itoaS_size (hb k (by omega)).1 (hb k (by omega)).2
    have h3 : (⟨#[32]⟩ : ByteArray).size = 1 := rfl
    simp only [tlS, ByteArray.size_append]
    omega
attribute [go_sem] rnL_lstr idL_lstr lstr_one lstr_snoc take_lstr
set_option maxRecDepth 100000 in
set_option maxHeartbeats 2000000 in
theorem sf_tell (t : ByteArray) (ns : List Int) (ss : List ByteArray) (x0 x1 x4 : Option AObj) (ht : t.size ≤ 1000) (hn : ns.length ≤ 1000) (hb : ∀ k, k < ns.length → 0 ≤ ns.getD k 0 ∧ ns.getD k 0 < 100) (hss : ss.length ≤ 1000000) :
    SF Tryz.prog 49 [lt (.string t), .iv (iInts ns), .optr 2 0] [x0, x1, some ⟨41, [.osl 3 0 ss.length 1]⟩, some ⟨9, ss.map lstr⟩, x4] fun r H' => r = .tup [] ∧ H' = [x0, x1, some ⟨41, [.osl 6 0 (ss.length + 1) 1]⟩, none, x4, some ⟨9, [lstr (tlS t ns ns.length)]⟩, some ⟨9, (ss ++ [tlS t ns ns.length]).map lstr⟩] := by
  have hs1 := trivial; have hs2 := trivial; have hs3 := trivial; have hC := trivial
  have hsz := tlS_size ht hb
  (refine SF_of_bodyX (aload tt) (aload_ok tyOK) Tryz.func49 rfl (by kernel_rfl) ?_; simp only [Tryz.ntmps49, List.length_cons, List.length_nil, Nat.reduceAdd, Nat.reduceSub, List.replicate_succ, List.replicate_zero, List.cons_append, List.nil_append])
  unfold iInts
  (repeat (first | (first | (with_reducible first | refine AX_block ?_ | refine AX_skip ?_ | refine AX_exit ?_ | refine AX_ret ?_ | refine AX_ift ?_ | refine AX_iff ?_ | refine AX_seq_k (fun K hK => ?_) | refine ContX.use (by assumption) ?_) | simp only [thenX, inBlockX, if_true, if_false, reduceCtorEq]) | (first | ((with_reducible refine XOP tyOK ?_); simp (disch := omega) only [go_sem , hs1, hs2, hs3, iInts, ByteArray.size_append, List.length_nil]; (with_reducible refine XRes_id ?_)) | (with_reducible refine XSK ?_)) | ((with_reducible refine XRes_nil ?_); refine hK _ ?_; clear hK K) | ((with_reducible refine AX_reg0 fun K hK => ?_); simp only [go_sem]) | (first | (first | refine XTL (by rfl) hC ?_))))
  (refine AWH (σ := Nat) [10, 11, 12, 6, 13, 14, 15, 16, 17, 18] (fun k => [(9, lint k), (0, lt (.string (tlS t ns k)))]) (fun k => [x0, x1, some ⟨41, [.osl 3 0 ss.length 1]⟩, some ⟨9, ss.map lstr⟩, x4]) (fun k => []) (fun k => k ≤ ns.length) (fun k => ns.length - k) 0 (by first | exact Nat.zero_le _) ?_; rintro k d fr hfr hk; simp only [updS, deadS, List.set_cons_succ, List.set_cons_zero, lint] at hfr; subst hfr; (try dsimp only))
  by_cases hlt : k < ns.length
  · have hbk := hb k hlt
    have hC := pf_Itoa (ns.getD k 0) hbk.1 hbk.2
    have hi := itoaS_size hbk.1 hbk.2
    have hsk := hsz k hk
    have h32 : (⟨#[32]⟩ : ByteArray).size = 1 := rfl
    have hs1 := h32
    (repeat (first | (first | (with_reducible first | refine AX_block ?_ | refine AX_skip ?_ | refine AX_exit ?_ | refine AX_ret ?_ | refine AX_ift ?_ | refine AX_iff ?_ | refine AX_seq_k (fun K hK => ?_) | refine ContX.use (by assumption) ?_) | simp only [thenX, inBlockX, if_true, if_false, reduceCtorEq]) | (first | ((with_reducible refine XOP tyOK ?_); simp (disch := omega) only [go_sem , hs1, hs2, hs3, iInts, ByteArray.size_append, List.length_nil]; (with_reducible refine XRes_id ?_)) | (with_reducible refine XSK ?_)) | ((with_reducible refine XRes_nil ?_); refine hK _ ?_; clear hK K) | ((with_reducible refine AX_reg0 fun K hK => ?_); simp only [go_sem]) | (first | (first | refine XTL (by rfl) hC ?_))))
    exact WEND (k + 1) (by omega) (by (first | omega | (dsimp only; omega) | (simp only; omega)))
  · obtain rfl : k = ns.length := by omega
    (repeat (first | (first | (with_reducible first | refine AX_block ?_ | refine AX_skip ?_ | refine AX_exit ?_ | refine AX_ret ?_ | refine AX_ift ?_ | refine AX_iff ?_ | refine AX_seq_k (fun K hK => ?_) | refine ContX.use (by assumption) ?_) | simp only [thenX, inBlockX, if_true, if_false, reduceCtorEq]) | (first | ((with_reducible refine XOP tyOK ?_); simp (disch := omega) only [go_sem , hs1, hs2, hs3, iInts, ByteArray.size_append, List.length_nil]; (with_reducible refine XRes_id ?_)) | (with_reducible refine XSK ?_)) | ((with_reducible refine XRes_nil ?_); refine hK _ ?_; clear hK K) | ((with_reducible refine AX_reg0 fun K hK => ?_); simp only [go_sem]) | (first | (first | refine XTL (by rfl) hC ?_))))
    (simp only [bodyX]; refine ⟨_, by simp only [aresults, aresult, XS.as, Tryz.results49, aload, go_sem, Option.bind_some]; rfl, ?_⟩)
    exact ⟨rfl, trivial⟩
end Go.Proofs.YtcjnikkmjhagmaaGreatDoor
