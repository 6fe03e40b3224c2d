import Derived.Test.YteldioinhbpfhaaMgAY
import Derived.Test.YteldioinhbpfhaaMgBA
import Derived.Test.YteldioinhbpfhaaMgAU
import Derived.Test.YteldioinhbpfhaaMgAV
import Derived.Test.YteldioinhbpfhaaMgAW
namespace Go.Proofs.Yteldioinhbpfhaa
set_option linter.unusedVariables false
def wLate (l : List Op5) (ps : List Pk) (i : Nat) : Prop := pkIn l (pkAt ps i) ∧ ∃ k, k < l.length ∧ (oAhead (oAt l k) (pkOp l (pkAt ps i)) = true ∧ ¬ pkDup ps i (k : Int))
instance (l : List Op5) (ps : List Pk) (i : Nat) : Decidable (wLate l ps i) := by unfold wLate; infer_instance
def wF (l : List Op5) (ps : List Pk) (i : Nat) : Int := if wLate l ps i then 1 else 0
def wOrd (l : List Op5) (ps : List Pk) : Int := if fb (wF l ps) ps.length < ps.length then (fb (wF l ps) ps.length : Nat) else -1
theorem wF_zero {l : List Op5} {ps : List Pk} {i : Nat} : wF l ps i = 0 ↔ ¬ wLate l ps i := by unfold wF; split <;> simp_all
theorem wOrd_no {l : List Op5} {ps : List Pk} (h : ∀ i, i < ps.length → ¬ wLate l ps i) : wOrd l ps = -1 := by
  unfold wOrd
  rw [fb_all fun j hj => wF_zero.2 (h j hj), if_neg (Nat.lt_irrefl _)]
theorem wOrd_at {l : List Op5} {ps : List Pk} {i : Nat} (h : ∀ j, j < i → ¬ wLate l ps j) (hi : i < ps.length) (hl : wLate l ps i) : wOrd l ps = i := by
  unfold wOrd
  have e : fb (wF l ps) ps.length = i := fb_at (fun j hj => wF_zero.2 (h j hj)) (fun h => wF_zero.1 h hl) hi
  rw [e, if_pos hi]
theorem wOrd_neg {l : List Op5} {ps : List Pk} : wOrd l ps < 0 ↔ ∀ i, i < ps.length → ¬ wLate l ps i := by
  constructor
  · intro h
    unfold wOrd at h
    by_cases h1 : fb (wF l ps) ps.length < ps.length
    · rw [if_pos h1] at h; omega
    · have h2 := fb_le (wF l ps) ps.length
      have h3 : fb (wF l ps) ps.length = ps.length := by omega
      exact fun i hi => wF_zero.1 (fb_eq.1 h3 i hi)
  · intro h; rw [wOrd_no h]; decide
def wMs (l : List Op5) (ps : List Pk) (f : Op5 → Bool) : Nat → List Int
  | 0 => []
  | i + 1 => if ¬ pkDup ps ps.length (i : Int) ∧ f (oAt l i) = true then wMs l ps f i ++ [(i : Int)] else wMs l ps f i
theorem wMs_mem {l : List Op5} {ps : List Pk} {f : Op5 → Bool} {x : Int} : ∀ {n : Nat}, x ∈ wMs l ps f n ↔ ∃ i : Nat, i < n ∧ x = i ∧ ¬ pkDup ps ps.length (i : Int) ∧ f (oAt l i) = true
  | 0 => ⟨fun h => by simp [wMs] at h, fun ⟨i, h, _⟩ => by omega⟩
  | n + 1 => by
    have ih := wMs_mem (l := l) (ps := ps) (f := f) (x := x) (n := n)
    unfold wMs
    by_cases h : ¬ pkDup ps ps.length (n : Int) ∧ f (oAt l n) = true
    · rw [if_pos h, List.mem_append, ih, List.mem_singleton]
      constructor
      · rintro (⟨i, h1, h2⟩ | rfl)
        · exact ⟨i, by omega, h2⟩
        · exact ⟨n, by omega, rfl, h⟩
      · rintro ⟨i, h1, h2, h3⟩
        rcases Nat.lt_or_ge i n with h4 | h4
        · exact .inl ⟨i, h4, h2, h3⟩
        · exact .inr (by rw [h2, show i = n by omega])
    · rw [if_neg h, ih]
      constructor
      · rintro ⟨i, h1, h2⟩; exact ⟨i, by omega, h2⟩
      · rintro ⟨i, h1, h2, h3⟩
        rcases Nat.lt_or_ge i n with h4 | h4
        · exact ⟨i, h4, h2, h3⟩
        · obtain rfl : i = n := by omega
          exact absurd h3 h
theorem wMs_len (l : List Op5) (ps : List Pk) (f : Op5 → Bool) : ∀ n, (wMs l ps f n).length ≤ n
  | 0 => Nat.le_refl _
  | n + 1 => by have := wMs_len l ps f n; unfold wMs; split <;> simp <;> omega
def endD (x : Op5) : Bool := decide (x.e ≠ -1)
def pendD (x : Op5) : Bool := decide (x.e = -1)
def wPl (ps : List Pk) (x : Int) : Int := if fb (fun k => if (pkAt ps k).o = x then 1 else 0) ps.length < ps.length then (fb (fun k => if (pkAt ps k).o = x then 1 else 0) ps.length : Nat) else -1
theorem wPl_or (ps : List Pk) (x : Int) : (wPl ps x = -1 ∧ ∀ k, k < ps.length → (pkAt ps k).o ≠ x) ∨ ∃ k, k < ps.length ∧ (pkAt ps k).o = x ∧ wPl ps x = (k : Nat) ∧ ∀ j, j < k → (pkAt ps j).o ≠ x := by
  unfold wPl
  generalize hf : (fun k => if (pkAt ps k).o = x then (1 : Int) else 0) = f
  have hz : ∀ k, f k = 0 ↔ (pkAt ps k).o ≠ x := fun k => by rw [← hf]; dsimp only; split <;> simp_all
  have hle := fb_le f ps.length
  by_cases h : fb f ps.length < ps.length
  · rw [if_pos h]
    exact .inr ⟨_, h, by
      have := fb_bad h
      by_cases e : (pkAt ps (fb f ps.length)).o = x
      · exact e
      · exact absurd ((hz _).2 e) this, rfl, fun j hj => (hz j).1 (fb_before hj)⟩
  · rw [if_neg h]
    exact .inl ⟨rfl, fun k hk => (hz k).1 (fb_eq.1 (by omega : fb f ps.length = ps.length) k hk)⟩
def wE (o : Ob) (l : List Op5) (ps : List Pk) : Int := if obE o ≠ 0 ∨ oCE l ≠ 0 then 2 else if rErr o l o.I ps ≠ 0 then rErr o l o.I ps else if 0 ≤ wOrd l ps then 42 else if 0 < (wMs l ps endD l.length).length then 41 else 0
def wAt (o : Ob) (l : List Op5) (ps : List Pk) : Int := if obE o ≠ 0 ∨ oCE l ≠ 0 then -1 else if rErr o l o.I ps ≠ 0 then rAt o l o.I ps else if 0 ≤ wOrd l ps then wOrd l ps else if 0 < (wMs l ps endD l.length).length then (wMs l ps endD l.length).getD 0 0 else ps.length
theorem wE_zero {o : Ob} {l : List Op5} {ps : List Pk} : wE o l ps = 0 ↔ oCE l = 0 ∧ rOk o l o.I ps ∧ (∀ i, i < ps.length → ¬ wLate l ps i) ∧ ∀ i : Nat, i < l.length → (oAt l i).e ≠ -1 → pkDup ps ps.length (i : Int) := by
  have hm : (wMs l ps endD l.length).length = 0 ↔ ∀ i : Nat, i < l.length → (oAt l i).e ≠ -1 → pkDup ps ps.length (i : Int) := by
    rw [List.length_eq_zero_iff, List.eq_nil_iff_forall_not_mem]
    constructor
    · intro h i hi he
      by_cases hd : pkDup ps ps.length (i : Int)
      · exact hd
      · exact absurd (wMs_mem.2 ⟨i, hi, rfl, hd, by unfold endD; exact decide_eq_true he⟩) (h i)
    · intro h x hx
      obtain ⟨i, hi, _, hd, he⟩ := wMs_mem.1 hx
      exact hd (h i hi (of_decide_eq_true he))
  rw [← hm, ← wOrd_neg, ← rErr_zero]
  unfold wE
  by_cases h1 : obE o ≠ 0 ∨ oCE l ≠ 0
  · rw [if_pos h1]
    constructor
    · intro h; omega
    · rintro ⟨a, b, _⟩
      rcases h1 with h1 | h1
      · exact absurd (rErr_zero.1 b).1 h1
      · exact absurd a h1
  · rw [if_neg h1]
    have h2 : oCE l = 0 := by
      by_cases h : oCE l = 0
      · exact h
      · exact absurd (.inr h) h1
    by_cases h3 : rErr o l o.I ps ≠ 0
    · rw [if_pos h3]
      exact ⟨fun h => absurd h h3, fun h => absurd h.2.1 h3⟩
    · rw [if_neg h3]
      by_cases h4 : 0 ≤ wOrd l ps
      · rw [if_pos h4]; exact ⟨fun h => by omega, fun h => by omega⟩
      · rw [if_neg h4]
        by_cases h5 : 0 < (wMs l ps endD l.length).length
        · rw [if_pos h5]; exact ⟨fun h => by omega, fun h => by omega⟩
        · rw [if_neg h5]; exact ⟨fun _ => ⟨h2, by omega, by omega, by omega⟩, fun _ => rfl⟩
theorem oCE_good {l : List Op5} (h : oCE l = 0) : l.length ≤ 5000 ∧ oGood l l.length := by
  rcases oC_is l with ⟨h1, h2, h3⟩ | ⟨h1, i, h2, h3, h4, h5, h6⟩ | ⟨h1, h2, h3, h4⟩
  · omega
  · exact absurd (h6 ▸ h) h4
  · exact ⟨h1, h2⟩
def wLin (l : List Op5) (ps : List Pk) : Prop := ∀ i : Nat, i < l.length → ¬ ((oAt l i).e ≠ -1 ∧ wPl ps i < 0) ∧ ∀ k : Nat, k < l.length → ¬ (oAhead (oAt l i) (oAt l k) = true ∧ 0 ≤ wPl ps k ∧ (wPl ps i < 0 ∨ wPl ps k < wPl ps i))
theorem wPl_dup {ps : List Pk} {x : Int} : 0 ≤ wPl ps x ↔ pkDup ps ps.length x := by
  rcases wPl_or ps x with ⟨h1, h2⟩ | ⟨k, h1, h2, h3, h4⟩
  · rw [h1]; exact ⟨fun h => by omega, fun ⟨k, hk, e⟩ => absurd e (h2 k hk)⟩
  · rw [h3]; exact ⟨fun _ => ⟨k, h1, h2⟩, fun _ => by omega⟩
theorem rOk_pick {o : Ob} {l : List Op5} {st : Int} {ps : List Pk} (h : rOk o l st ps) {i : Nat} (hi : i < ps.length) : pkIn l (pkAt ps i) ∧ ¬ pkDup ps i (pkAt ps i).o := by
  have := h.2.2 i hi
  unfold pkE at this
  by_cases h1 : pkIn l (pkAt ps i)
  · rw [if_neg (by simpa using h1)] at this
    by_cases h2 : pkDup ps i (pkAt ps i).o
    · rw [if_pos h2] at this; omega
    · exact ⟨h1, h2⟩
  · rw [if_pos h1] at this; omega
theorem wLin_iff {o : Ob} {l : List Op5} {ps : List Pk} (hg : oGood l l.length) (hr : rOk o l o.I ps) : ((∀ i, i < ps.length → ¬ wLate l ps i) ∧ ∀ i : Nat, i < l.length → (oAt l i).e ≠ -1 → pkDup ps ps.length (i : Int)) ↔ wLin l ps := by
  constructor
  · rintro ⟨h1, h2⟩ i hi
    refine ⟨fun ⟨a, b⟩ => ?_, fun k hk ⟨a, b, c⟩ => ?_⟩
    · have := wPl_dup.2 (h2 i hi a); omega
    · rcases wPl_or ps k with ⟨e1, _⟩ | ⟨y, e1, e2, e3, e4⟩
      · omega
      · have hpk := (rOk_pick hr e1).1
        have hnl := h1 y e1
        have hd : pkDup ps y (i : Int) := by
          by_cases hd : pkDup ps y (i : Int)
          · exact hd
          · refine absurd ⟨hpk, i, hi, ?_, hd⟩ hnl
            unfold pkOp; rw [e2]; exact a
        obtain ⟨j, hj, ej⟩ := hd
        rcases wPl_or ps i with ⟨f1, f2⟩ | ⟨x, f1, f2, f3, f4⟩
        · exact f2 j (by omega) ej
        · have : x ≤ j := by
            rcases Nat.lt_or_ge j x with hh | hh
            · exact absurd ej (f4 j hh)
            · exact hh
          omega
  · intro h
    refine ⟨fun a ha hl => ?_, fun i hi he => ?_⟩
    · obtain ⟨hin, k, hk, hak, hnd⟩ := hl
      obtain ⟨p, hp⟩ : ∃ p : Nat, (pkAt ps a).o = p := ⟨(pkAt ps a).o.toNat, by unfold pkIn at hin; omega⟩
      have hpl : p < l.length := by unfold pkIn at hin; omega
      have hnd2 := (rOk_pick hr ha).2
      have hya : wPl ps p = a := by
        rcases wPl_or ps p with ⟨e1, e2⟩ | ⟨y, e1, e2, e3, e4⟩
        · exact absurd hp (e2 a ha)
        · rw [e3]
          have : y ≤ a := by
            rcases Nat.lt_or_ge a y with hh | hh
            · exact absurd hp (e4 a hh)
            · exact hh
          rcases Nat.lt_or_ge y a with hh | hh
          · exact absurd ⟨y, hh, by rw [e2, hp]⟩ hnd2
          · omega
      have hak2 : oAhead (oAt l k) (oAt l p) = true := by
        unfold pkOp at hak; rw [hp] at hak; exact hak
      have hh := (h k hk).2 p hpl
      rw [hya] at hh
      rcases wPl_or ps k with ⟨e1, e2⟩ | ⟨x, e1, e2, e3, e4⟩
      · exact hh ⟨hak2, by omega, by omega⟩
      · rw [e3] at hh
        by_cases hxa : x < a
        · exact hnd ⟨x, hxa, e2⟩
        · by_cases hxe : x = a
          · rw [hxe, hp] at e2
            have hkp : p = k := by omega
            subst hkp
            have hm := oMay_zero (oErr_zero (hg p hpl)).1
            unfold oAhead at hak2
            have := of_decide_eq_true hak2
            omega
          · exact hh ⟨hak2, by omega, by omega⟩
    · have := (h i hi).1
      by_cases hd : pkDup ps ps.length (i : Int)
      · exact hd
      · exact absurd ⟨he, by
          rcases wPl_or ps i with ⟨e1, _⟩ | ⟨y, e1, e2, e3, e4⟩
          · omega
          · exact absurd ⟨y, e1, e2⟩ hd⟩ this
end Go.Proofs.Yteldioinhbpfhaa
namespace Go.Proofs.Yteldioinhbpfhaa
open Go.RowKit
set_option linter.unusedVariables false
set_option linter.unusedSimpArgs false
theorem W1602a {A B : Prop} (h9 : B) (w : B → A := by (intro h9; (repeat intro K hK); refine ⟨?_⟩; (repeat (first | (first | (with_reducible first | refine AX_block ?_ | refine AX_skip ?_ | refine AX_exit ?_ | refine AX_ret ?_ | refine AX_ift ?_ | refine AX_iff ?_ | refine AX_seq_k (fun K hK => ?_) | refine ContX.use (by assumption) ?_) | simp only [thenX, inBlockX, if_true, if_false, reduceCtorEq]) | (first | ((first | (with_reducible refine XRes_op tyOK ?_ ?_) | ((with_reducible first | refine ADF_op tyOK ?_ ?_ ?_ | refine ADX_op tyOK ?_ ?_ ?_); (focus rfl)) | (with_reducible refine ADR_alloc1 tyOK ?_ ?_) | ((with_reducible refine ADR_free1 tyOK ?_ ?_ ?_); (focus rfl)) | ((with_reducible refine ADR_free0 tyOK ?_ ?_ ?_); (focus rfl)) | ((with_reducible refine ADR_read1 tyOK ?_ ?_ ?_); (focus rfl)) | (with_reducible refine ADR_chg1 tyOK ?_ ?_)); (focus (first | (with_reducible rfl) | ((simp (disch := omega) only [go_sem]); done))); simp (disch := omega) only [go_sem , flatO_p, flatO_k, flatO_s, flatO_e, flatO_r, flatP_o, flatP_r, hs1, hs2, hs3, hs4, hs5, rep_lb, List.length_nil, List.length_set, Nat.reduceLeDiff]; (first | (with_reducible refine XRes_id ?_) | (with_reducible refine ADF_id ?_) | (with_reducible refine ADR_id1 ?_) | (with_reducible refine ADX_id ?_))) | ((first | (with_reducible refine XRes_skip ?_ ?_) | (with_reducible refine ADF_skip (b := true) ?_ ?_) | (with_reducible refine ADX_skip ?_ ?_) | ((with_reducible refine ADR_skip1 ?_ ?_ ?_); (focus rfl))); (focus (first | rfl | ((simp (disch := omega) only [go_sem]); done))); (simp only [putL, List.set_cons_succ, List.set_cons_zero]))) | ((first | (with_reducible refine XRes_nil ?_) | (with_reducible refine ADF_nil ?_) | (with_reducible refine ADR_nil ?_) | (with_reducible refine ADX_nil ?_)); (first | refine hK _ ?_ | refine hK _ _ ?_); clear hK K) | ((first | (with_reducible refine AX_reg0 fun K hK => ?_) | (refine AX_drawG1 tyOK (by kernel_rfl) (by rfl) (by kernel_rfl) fun K hK => ?_) | (refine AX_drawT tyOK (by kernel_rfl) (by decide +kernel) fun K hK => ?_) | (refine AX_drawM1 (by kernel_rfl) (by rfl) (by decide +kernel) fun K hK => ?_) | (refine AX_drawA tyOK (by kernel_rfl) (by decide +kernel) fun K hK => ?_)); (first | simp only [go_sem, preN, effOp, runF, alM, mapOp, alD2, kdOf2, Bool.not_false, Bool.not_true, reduceCtorEq] | simp only [go_sem, preN, effOp, runF, alM, mapOp, Bool.not_false, Bool.not_true, reduceCtorEq] | simp only [go_sem, preN, effOp, runF, alD2, kdOf2, Bool.not_false, Bool.not_true, reduceCtorEq] | simp only [go_sem, alD2, kdOf2, Bool.not_false, Bool.not_true, reduceCtorEq] | simp only [go_sem, preN, effOp, runF, Bool.not_false, Bool.not_true, reduceCtorEq] | simp only [go_sem])) | (first | (first | refine XTL (by rfl) hC ?_ | refine ATL tyOK (by rfl) hC ?_) | ((refine XRes_slot (by rfl) rfl (PF.tells (idsA rfl) (fun _ => rfl) hcl) ?_); (rintro r H' ⟨rfl, rfl⟩); (simp only [putL, List.set_cons_succ, List.set_cons_zero]))))); refine Wk.o ?_; (repeat revert hK K); exact h9)) : A := w h9
set_option maxRecDepth 100000 in
set_option maxHeartbeats 1000000 in
theorem pf_wPend (x : Op5) : PF Try.prog 21 [opA x] fun r H' => r = lt (.bool (pendD x)) ∧ H' = [] := by
  refine SF.forgetAll ?_
  have hs1 := trivial; have hs2 := trivial; have hs3 := trivial; have hs4 := trivial; have hs5 := trivial; have hC := trivial; have hcl := trivial
  unfold pendD
  by_cases h : x.e = -1
  · rw [decide_eq_true h]
    have hs1 := h
    (refine SF_of_bodyX (aload tt) (aload_ok tyOK) Try.func21 rfl (by kernel_rfl) ?_; simp only [Try.ntmps21, List.length_cons, List.length_nil, Nat.reduceAdd, Nat.reduceSub, List.replicate_succ, List.replicate_zero, List.cons_append, List.nil_append])
    (refine Wk.o ?_; (repeat revert hK K); refine W1602a ?_; (repeat intro K hK); refine ⟨?_⟩)
    (simp only [bodyX]; refine ⟨_, by simp only [aresults, aresult, XS.as, Try.results21, aload, go_sem, Option.bind_some]; rfl, ?_⟩)
    exact ⟨.iv _, rfl, trivial⟩
  · rw [decide_eq_false h]
    (refine SF_of_bodyX (aload tt) (aload_ok tyOK) Try.func21 rfl (by kernel_rfl) ?_; simp only [Try.ntmps21, List.length_cons, List.length_nil, Nat.reduceAdd, Nat.reduceSub, List.replicate_succ, List.replicate_zero, List.cons_append, List.nil_append])
    (refine Wk.o ?_; (repeat revert hK K); refine W1602a ?_; (repeat intro K hK); refine ⟨?_⟩)
    (simp only [bodyX]; refine ⟨_, by simp only [aresults, aresult, XS.as, Try.results21, aload, go_sem, Option.bind_some]; rfl, ?_⟩)
    exact ⟨.iv _, rfl, trivial⟩
set_option maxRecDepth 100000 in
set_option maxHeartbeats 1000000 in
theorem pf_wEnd (x : Op5) : PF Try.prog 20 [opA x] fun r H' => r = lt (.bool (endD x)) ∧ H' = [] := by
  refine SF.forgetAll ?_
  have hs1 := trivial; have hs2 := trivial; have hs3 := trivial; have hs4 := trivial; have hs5 := trivial; have hC := trivial; have hcl := trivial
  have hC := pf_wPend x
  have hs1 : (!(pendD x)) = endD x := by unfold pendD endD; by_cases h : x.e = -1 <;> simp [h]
  (refine SF_of_bodyX (aload tt) (aload_ok tyOK) Try.func20 rfl (by kernel_rfl) ?_; simp only [Try.ntmps20, List.length_cons, List.length_nil, Nat.reduceAdd, Nat.reduceSub, List.replicate_succ, List.replicate_zero, List.cons_append, List.nil_append])
  (refine Wk.o ?_; (repeat revert hK K); refine W1602a ?_; (repeat intro K hK); refine ⟨?_⟩)
  (simp only [bodyX]; refine ⟨_, by simp only [aresults, aresult, XS.as, Try.results20, aload, go_sem, Option.bind_some]; rfl, ?_⟩)
  exact ⟨.iv _, rfl, trivial⟩
def wTh (n : Nat) (ps : List Pk) : Nat → List Bool
  | 0 => List.replicate n false
  | i + 1 => if 0 ≤ (pkAt ps i).o ∧ (pkAt ps i).o < n then (wTh n ps i).set (pkAt ps i).o.toNat true else wTh n ps i
theorem wTh_len (n : Nat) (ps : List Pk) : ∀ i, (wTh n ps i).length = n
  | 0 => by unfold wTh; simp
  | i + 1 => by unfold wTh; split <;> simp [wTh_len n ps i]
theorem getD_setB2 (l : List Bool) (i j : Nat) (a : Bool) : (l.set i a).getD j false = if i = j ∧ i < l.length then a else l.getD j false := by
  rw [List.getD_eq_getElem?_getD, List.getElem?_set, List.getD_eq_getElem?_getD]
  by_cases h : i = j
  · subst h
    by_cases h2 : i < l.length
    · simp [h2]
    · simp [h2]
  · simp [h]
theorem wTh_at (n : Nat) (ps : List Pk) : ∀ i x, x < n → (wTh n ps i).getD x false = decide (pkDup ps i (x : Int))
  | 0, x, hx => by
    unfold wTh
    rw [List.getD_eq_getElem?_getD, List.getElem?_replicate, if_pos hx]
    symm; exact decide_eq_false fun ⟨k, hk, _⟩ => by omega
  | i + 1, x, hx => by
    have ih := wTh_at n ps i x hx
    have hd : pkDup ps (i + 1) (x : Int) ↔ pkDup ps i (x : Int) ∨ (pkAt ps i).o = x := by
      constructor
      · rintro ⟨k, h1, h2⟩
        rcases Nat.lt_or_ge k i with h3 | h3
        · exact .inl ⟨k, h3, h2⟩
        · exact .inr (by rw [← h2, show k = i by omega])
      · rintro (⟨k, h1, h2⟩ | h)
        · exact ⟨k, by omega, h2⟩
        · exact ⟨i, by omega, h⟩
    unfold wTh
    split
    · rename_i h
      rw [getD_setB2, wTh_len]
      by_cases e : (pkAt ps i).o.toNat = x
      · rw [if_pos ⟨e, by omega⟩]
        symm; exact decide_eq_true (hd.2 (.inr (by omega)))
      · rw [if_neg (fun hh => e hh.1), ih, decide_eq_decide, hd]
        exact ⟨.inl, fun hh => hh.resolve_right fun e2 => by omega⟩
    · rename_i h
      rw [ih, decide_eq_decide, hd]
      exact ⟨.inl, fun hh => hh.resolve_right fun e2 => by omega⟩
set_option maxRecDepth 100000 in
set_option maxHeartbeats 4000000 in
theorem pf_without (l : List Op5) (ps : List Pk) (f : Op5 → Bool) (g : FuncId) (hl : l.length ≤ 100000) (hn : ps.length ≤ 100000) (hf : ∀ x, PF Try.prog g [opA x] fun r H' => r = lt (.bool (f x)) ∧ H' = []) : PF Try.prog 19 [.iv (iOps l), .iv (iPks ps), .fn g [] []] fun r H' => r = .iv (iInts (wMs l ps f l.length)) ∧ H' = [] := by
  refine SF.frozen ?_
  have hs1 := trivial; have hs2 := trivial; have hs3 := trivial; have hs4 := trivial; have hs5 := trivial; have hC := trivial; have hcl := trivial
  have hT0 : List.replicate l.length false = wTh l.length ps 0 := rfl
  (refine SF_of_bodyX (aload tt) (aload_ok tyOK) Try.func19 rfl (by kernel_rfl) ?_; simp only [Try.ntmps19, List.length_cons, List.length_nil, Nat.reduceAdd, Nat.reduceSub, List.replicate_succ, List.replicate_zero, List.cons_append, List.nil_append])
  unfold iOps iFlat
  (refine Wk.o ?_; (repeat revert hK K); refine W1602a ?_; (repeat intro K hK); refine ⟨?_⟩)
  rw [hT0]
  (refine AWH (σ := Nat × List Bool) [19, 20, 21, 9, 22, 23, 24, 25, 26, 27, 28, 29, 30, 31, 32, 33, 34, 35, 36] (fun (i, D) => [(18, lint i)]) (fun (i, D) => [some ⟨4, D.map lb⟩]) (fun (i, D) => []) (fun (i, D) => i ≤ ps.length ∧ D = wTh l.length ps i) (fun (i, D) => ps.length - i) (0, wTh l.length ps 0) (by first | exact ⟨Nat.zero_le _, rfl⟩) ?_; rintro ⟨i, D⟩ d fr hfr ⟨hi, hD⟩; simp only [updS, deadS, List.set_cons_succ, List.set_cons_zero, lint] at hfr; subst hfr; (try dsimp only))
  have hDl : D.length = l.length := by rw [hD, wTh_len]
  by_cases hlt : i < ps.length
  · by_cases h1 : 0 ≤ (pkAt ps i).o
    · by_cases h2 : (pkAt ps i).o < l.length
      · (refine Wk.o ?_; (repeat revert hK K); refine W1602a ?_; (repeat intro K hK); refine ⟨?_⟩)
        exact WRN [0] (i + 1, D.set (pkAt ps i).o.toNat true) ⟨by omega, by rw [hD]; show _ = if _ then _ else _; rw [if_pos ⟨h1, h2⟩]⟩ (by (first | omega | (dsimp only; omega) | (simp only; omega)))
      · (refine Wk.o ?_; (repeat revert hK K); refine W1602a ?_; (repeat intro K hK); refine ⟨?_⟩)
        exact WRN [0] (i + 1, D) ⟨by omega, by rw [hD]; show _ = if _ then _ else _; rw [if_neg (fun h => h2 h.2)]⟩ (by (first | omega | (dsimp only; omega) | (simp only; omega)))
    · (refine Wk.o ?_; (repeat revert hK K); refine W1602a ?_; (repeat intro K hK); refine ⟨?_⟩)
      exact WRN [0] (i + 1, D) ⟨by omega, by rw [hD]; show _ = if _ then _ else _; rw [if_neg (fun h => h1 h.1)]⟩ (by (first | omega | (dsimp only; omega) | (simp only; omega)))
  · obtain rfl : i = ps.length := by omega
    have hDa : ∀ x, x < l.length → D.getD x false = decide (pkDup ps ps.length (x : Int)) := fun x hx => by rw [hD]; exact wTh_at _ _ _ _ hx
    (refine Wk.o ?_; (repeat revert hK K); refine W1602a ?_; (repeat intro K hK); refine ⟨?_⟩)
    refine AX_nil 10 3 1 rfl ?_
    simp only [List.set_cons_succ, List.set_cons_zero, List.length_cons, List.length_nil, List.cons_append, List.nil_append, Nat.zero_add, Nat.reduceAdd]
    (refine AWH (σ := Nat × List Int) [40, 41, 42, 43, 12, 11, 44, 45, 46, 47, 48, 49, 50, 51, 52, 53, 54, 55, 56, 57, 58] (fun (j, O) => [(39, lint j), (10, .osl 1 0 O.length 1)]) (fun (j, O) => [some ⟨4, D.map lb⟩, some ⟨3, O.map lint⟩]) (fun (j, O) => []) (fun (j, O) => j ≤ l.length ∧ O = wMs l ps f j) (fun (j, O) => l.length - j) (0, []) (by first | exact ⟨Nat.zero_le _, rfl⟩) ?_; rintro ⟨j, O⟩ d fr hfr ⟨hj, hO⟩; simp only [updS, deadS, List.set_cons_succ, List.set_cons_zero, lint] at hfr; subst hfr; (try dsimp only))
    have hOl : O.length ≤ j := by rw [hO]; exact wMs_len _ _ _ _
    by_cases hlt2 : j < l.length
    · have hcl := hf (oAt l j)
      have hd := hDa j hlt2
      by_cases h1 : pkDup ps ps.length (j : Int)
      · rw [decide_eq_true h1] at hd
        have hs1 := hd
        (refine Wk.o ?_; (repeat revert hK K); refine W1602a ?_; (repeat intro K hK); refine ⟨?_⟩)
        exact WRN [0, 1] (j + 1, O) ⟨by omega, by rw [hO]; show _ = if _ then _ else _; rw [if_neg (fun h => h.1 h1)]⟩ (by (first | omega | (dsimp only; omega) | (simp only; omega)))
      · rw [decide_eq_false h1] at hd
        have hs1 := hd
        by_cases h2 : f (oAt l j) = true
        · rw [h2] at hcl
          (refine Wk.o ?_; (repeat revert hK K); refine W1602a ?_; (repeat intro K hK); refine ⟨?_⟩)
          exact WRN [0, 4] (j + 1, O ++ [(j : Int)]) ⟨by omega, by rw [hO]; show _ = if _ then _ else _; rw [if_pos ⟨h1, h2⟩]⟩ (by (first | omega | (dsimp only; omega) | (simp only; omega)))
        · rw [Bool.eq_false_iff.2 h2] at hcl
          (refine Wk.o ?_; (repeat revert hK K); refine W1602a ?_; (repeat intro K hK); refine ⟨?_⟩)
          exact WRN [0, 1] (j + 1, O) ⟨by omega, by rw [hO]; show _ = if _ then _ else _; rw [if_neg (fun h => h2 h.2)]⟩ (by (first | omega | (dsimp only; omega) | (simp only; omega)))
    · obtain rfl : j = l.length := by omega
      (refine Wk.o ?_; (repeat revert hK K); refine W1602a ?_; (repeat intro K hK); refine ⟨?_⟩)
      (simp only [bodyX]; refine ⟨_, by simp only [aresults, aresult, XS.as, Try.results19, aload, go_sem, Option.bind_some]; rfl, ?_⟩)
      exact ⟨_, snap_ints rfl rfl, by rw [hO], trivial⟩
set_option maxRecDepth 100000 in
set_option maxHeartbeats 1000000 in
theorem pf_Missing (l : List Op5) (ps : List Pk) (hl : l.length ≤ 100000) (hn : ps.length ≤ 100000) : PF Try.prog 8 [.iv (iOps l), .iv (iPks ps)] fun r H' => r = .iv (iInts (wMs l ps endD l.length)) ∧ H' = [] := by
  refine SF.forgetAll ?_
  have hs1 := trivial; have hs2 := trivial; have hs3 := trivial; have hs4 := trivial; have hs5 := trivial; have hC := trivial; have hcl := trivial
  have hC := pf_without l ps endD 20 hl hn pf_wEnd
  generalize iOps l = x at *
  (refine SF_of_bodyX (aload tt) (aload_ok tyOK) Try.func8 rfl (by kernel_rfl) ?_; simp only [Try.ntmps8, List.length_cons, List.length_nil, Nat.reduceAdd, Nat.reduceSub, List.replicate_succ, List.replicate_zero, List.cons_append, List.nil_append])
  (refine Wk.o ?_; (repeat revert hK K); refine W1602a ?_; (repeat intro K hK); refine ⟨?_⟩)
  (simp only [bodyX]; refine ⟨_, by simp only [aresults, aresult, XS.as, Try.results8, aload, go_sem, Option.bind_some]; rfl, ?_⟩)
  exact ⟨.iv _, rfl, trivial⟩
set_option maxRecDepth 100000 in
set_option maxHeartbeats 1000000 in
theorem pf_Left (l : List Op5) (ps : List Pk) (hl : l.length ≤ 100000) (hn : ps.length ≤ 100000) : PF Try.prog 10 [.iv (iOps l), .iv (iPks ps)] fun r H' => r = .iv (iInts (wMs l ps pendD l.length)) ∧ H' = [] := by
  refine SF.forgetAll ?_
  have hs1 := trivial; have hs2 := trivial; have hs3 := trivial; have hs4 := trivial; have hs5 := trivial; have hC := trivial; have hcl := trivial
  have hC := pf_without l ps pendD 21 hl hn pf_wPend
  generalize iOps l = x at *
  (refine SF_of_bodyX (aload tt) (aload_ok tyOK) Try.func10 rfl (by kernel_rfl) ?_; simp only [Try.ntmps10, List.length_cons, List.length_nil, Nat.reduceAdd, Nat.reduceSub, List.replicate_succ, List.replicate_zero, List.cons_append, List.nil_append])
  (refine Wk.o ?_; (repeat revert hK K); refine W1602a ?_; (repeat intro K hK); refine ⟨?_⟩)
  (simp only [bodyX]; refine ⟨_, by simp only [aresults, aresult, XS.as, Try.results10, aload, go_sem, Option.bind_some]; rfl, ?_⟩)
  exact ⟨.iv _, rfl, trivial⟩
end Go.Proofs.Yteldioinhbpfhaa
namespace Go.Proofs.Yteldioinhbpfhaa
open Go.RowKit
set_option linter.unusedVariables false
set_option linter.unusedSimpArgs false
theorem frz_rowW {H : AHeap} {ds : List Nat} {o : Nat} {t : TypeId} {x : IV} (hd : o ∈ ds) (h : H[o]? = some (some ⟨t, [.iv x]⟩)) : FrzV (onlyH ds H) (.optr o 0) (.iv (.ptr (fun _ => x) 1)) := by
  refine .iv _ _ (.optr o 0 1 _ ⟨t, [.iv x]⟩ (fun j => .iv x) (by decide) (only_mk hd h) (fun j hj => ?_) fun j _ => .iv _)
  rcases j with _ | j
  · rfl
  · omega
theorem late_iff {l : List Op5} {ps : List Pk} {i : Nat} {E : List Int} {d1 : Nat} (hE : EndS l E) (hdd : ∀ j, j < d1 → (wTh l.length ps i).getD (E.getD j 0).toNat false = true) (hdl : d1 ≤ E.length) (hor : d1 = E.length ∨ (wTh l.length ps i).getD (E.getD d1 0).toNat false = false) (hin : pkIn l (pkAt ps i)) : lateR l (wTh l.length ps i) E d1 (pkOp l (pkAt ps i)) ↔ wLate l ps i := by
  constructor
  · rintro ⟨h1, h2, h3⟩
    have hr := hE.rng d1 h1
    refine ⟨hin, (E.getD d1 0).toNat, by omega, h3, fun hd => ?_⟩
    rw [wTh_at _ _ _ _ (by omega), decide_eq_false_iff_not] at h2
    exact h2 hd
  · rintro ⟨_, k, hk, h3, h4⟩
    have ha : 0 ≤ (oAt l k).e ∧ (oAt l k).e < (pkOp l (pkAt ps i)).s := by unfold oAhead at h3; exact of_decide_eq_true h3
    obtain ⟨j, hj, ej⟩ := hE.all k hk ha.1
    have hkd : (wTh l.length ps i).getD k false = false := by rw [wTh_at _ _ _ _ hk]; exact decide_eq_false h4
    have hjd : d1 ≤ j := by
      rcases Nat.lt_or_ge j d1 with h | h
      · have := hdd j h; rw [ej, Int.toNat_natCast, hkd] at this; cases this
      · exact h
    have hlt : d1 < E.length := by omega
    have hf := hor.resolve_left (by omega)
    refine ⟨hlt, hf, ?_⟩
    have hr := hE.rng d1 hlt
    have hle : (oAt l (E.getD d1 0).toNat).e ≤ (oAt l k).e := by
      rcases Nat.lt_or_ge d1 j with h | h
      · have := hE.inc d1 j h hj; rwa [ej, Int.toNat_natCast] at this
      · have : d1 = j := by omega
        rw [this, ej, Int.toNat_natCast]; exact Int.le_refl _
    unfold oAhead
    exact decide_eq_true ⟨hr.2.2, by omega⟩
theorem W1748a {A B : Prop} (h9 : B) (w : B → A := by (intro h9; (repeat intro K hK); refine ⟨?_⟩; (repeat (first | (first | (with_reducible first | refine AX_block ?_ | refine AX_skip ?_ | refine AX_exit ?_ | refine AX_ret ?_ | refine AX_ift ?_ | refine AX_iff ?_ | refine AX_seq_k (fun K hK => ?_) | refine ContX.use (by assumption) ?_) | simp only [thenX, inBlockX, if_true, if_false, reduceCtorEq]) | (first | ((first | (with_reducible refine XRes_op tyOK ?_ ?_) | ((with_reducible first | refine ADF_op tyOK ?_ ?_ ?_ | refine ADX_op tyOK ?_ ?_ ?_); (focus rfl)) | (with_reducible refine ADR_alloc1 tyOK ?_ ?_) | ((with_reducible refine ADR_free1 tyOK ?_ ?_ ?_); (focus rfl)) | ((with_reducible refine ADR_free0 tyOK ?_ ?_ ?_); (focus rfl)) | ((with_reducible refine ADR_read1 tyOK ?_ ?_ ?_); (focus rfl)) | (with_reducible refine ADR_chg1 tyOK ?_ ?_)); (focus (first | (with_reducible rfl) | ((simp (disch := omega) only [go_sem]); done))); simp (disch := omega) only [go_sem , flatO_p, flatO_k, flatO_s, flatO_e, flatO_r, flatP_o, flatP_r, hs1, hs2, hs3, hs4, hs5, hs6, rep_lb, List.length_nil, List.length_set, Nat.reduceLeDiff, Int.toNat_zero, Int.toNat_one]; (first | (with_reducible refine XRes_id ?_) | (with_reducible refine ADF_id ?_) | (with_reducible refine ADR_id1 ?_) | (with_reducible refine ADX_id ?_))) | ((first | (with_reducible refine XRes_skip ?_ ?_) | (with_reducible refine ADF_skip (b := true) ?_ ?_) | (with_reducible refine ADX_skip ?_ ?_) | ((with_reducible refine ADR_skip1 ?_ ?_ ?_); (focus rfl))); (focus (first | rfl | ((simp (disch := omega) only [go_sem]); done))); (simp only [putL, List.set_cons_succ, List.set_cons_zero]))) | ((first | (with_reducible refine XRes_nil ?_) | (with_reducible refine ADF_nil ?_) | (with_reducible refine ADR_nil ?_) | (with_reducible refine ADX_nil ?_)); (first | refine hK _ ?_ | refine hK _ _ ?_); clear hK K) | ((first | (with_reducible refine AX_reg0 fun K hK => ?_) | (refine AX_drawG1 tyOK (by kernel_rfl) (by rfl) (by kernel_rfl) fun K hK => ?_) | (refine AX_drawT tyOK (by kernel_rfl) (by decide +kernel) fun K hK => ?_) | (refine AX_drawM1 (by kernel_rfl) (by rfl) (by decide +kernel) fun K hK => ?_) | (refine AX_drawA tyOK (by kernel_rfl) (by decide +kernel) fun K hK => ?_)); (first | simp only [go_sem, preN, effOp, runF, alM, mapOp, alD2, kdOf2, Bool.not_false, Bool.not_true, reduceCtorEq] | simp only [go_sem, preN, effOp, runF, alM, mapOp, Bool.not_false, Bool.not_true, reduceCtorEq] | simp only [go_sem, preN, effOp, runF, alD2, kdOf2, Bool.not_false, Bool.not_true, reduceCtorEq] | simp only [go_sem, alD2, kdOf2, Bool.not_false, Bool.not_true, reduceCtorEq] | simp only [go_sem, preN, effOp, runF, Bool.not_false, Bool.not_true, reduceCtorEq] | simp only [go_sem])) | (first | (first | refine XTL (by rfl) hC ?_ | refine ATL tyOK (by rfl) hC ?_)))); refine Wk.o ?_; (repeat revert hK K); exact h9)) : A := w h9
set_option maxRecDepth 100000 in
set_option maxHeartbeats 4000000 in
theorem pf_Order (l : List Op5) (ps : List Pk) (hl : l.length ≤ 100000) (hn : ps.length ≤ 100000) (hd : endsOk l) (hq : ∀ i, -9223372036854775808 ≤ (pkAt ps i).o ∧ (pkAt ps i).o ≤ 9223372036854775807) : PF Try.prog 9 [.iv (iOps l), .iv (iPks ps)] fun r H' => r = lt (.int .i64 (wOrd l ps)) ∧ H' = [] := by
  refine SF.forgetAll ?_
  have hs1 := trivial; have hs2 := trivial; have hs3 := trivial; have hs4 := trivial; have hs5 := trivial; have hs6 := trivial; have hC := trivial
  have hT0 : List.replicate l.length false = wTh l.length ps 0 := rfl
  have hT0l := wTh_len l.length ps 0
  have hDD : List.replicate l.length false = List.replicate l.length false := rfl
  (refine SF_of_bodyX (aload tt) (aload_ok tyOK) Try.func9 rfl (by kernel_rfl) ?_; simp only [Try.ntmps9, List.length_cons, List.length_nil, Nat.reduceAdd, Nat.reduceSub, List.replicate_succ, List.replicate_zero, List.cons_append, List.nil_append])
  unfold iOps iFlat
  (repeat (first | (with_reducible first | refine AX_block ?_ | refine AX_skip ?_ | refine AX_exit ?_ | refine AX_ret ?_ | refine AX_ift ?_ | refine AX_iff ?_ | refine AX_seq_k (fun K hK => ?_) | refine ContX.use (by assumption) ?_) | simp only [thenX, inBlockX, if_true, if_false, reduceCtorEq]))
  (with_reducible refine AX_reg0 fun K hK => ?_); simp only [go_sem]
  (repeat (first | (first | ((first | (with_reducible refine XRes_op tyOK ?_ ?_) | ((with_reducible first | refine ADF_op tyOK ?_ ?_ ?_ | refine ADX_op tyOK ?_ ?_ ?_); (focus rfl)) | (with_reducible refine ADR_alloc1 tyOK ?_ ?_) | ((with_reducible refine ADR_free1 tyOK ?_ ?_ ?_); (focus rfl)) | ((with_reducible refine ADR_free0 tyOK ?_ ?_ ?_); (focus rfl)) | ((with_reducible refine ADR_read1 tyOK ?_ ?_ ?_); (focus rfl)) | (with_reducible refine ADR_chg1 tyOK ?_ ?_)); (focus (first | (with_reducible rfl) | ((simp (disch := omega) only [go_sem]); done))); simp (disch := omega) only [go_sem , flatO_p, flatO_k, flatO_s, flatO_e, flatO_r, flatP_o, flatP_r, hs1, hs2, hs3, hs4, hs5, hs6, rep_lb, List.length_nil, List.length_set, Nat.reduceLeDiff, Int.toNat_zero, Int.toNat_one]; (first | (with_reducible refine XRes_id ?_) | (with_reducible refine ADF_id ?_) | (with_reducible refine ADR_id1 ?_) | (with_reducible refine ADX_id ?_))) | ((first | (with_reducible refine XRes_skip ?_ ?_) | (with_reducible refine ADF_skip (b := true) ?_ ?_) | (with_reducible refine ADX_skip ?_ ?_) | ((with_reducible refine ADR_skip1 ?_ ?_ ?_); (focus rfl))); (focus (first | rfl | ((simp (disch := omega) only [go_sem]); done))); (simp only [putL, List.set_cons_succ, List.set_cons_zero]))) | ((first | (with_reducible refine XRes_nil ?_) | (with_reducible refine ADF_nil ?_) | (with_reducible refine ADR_nil ?_) | (with_reducible refine ADX_nil ?_)); (first | refine hK _ ?_ | refine hK _ _ ?_); clear hK K)))
  (repeat (first | (with_reducible first | refine AX_block ?_ | refine AX_skip ?_ | refine AX_exit ?_ | refine AX_ret ?_ | refine AX_ift ?_ | refine AX_iff ?_ | refine AX_seq_k (fun K hK => ?_) | refine ContX.use (by assumption) ?_) | simp only [thenX, inBlockX, if_true, if_false, reduceCtorEq]))
  refine AX_freeze [0] [(2, .iv (.ptr (fun _ => iOps l) 1))] (fun p hp => ?_) ?_
  · rw [List.mem_singleton.1 hp]; exact frz_rowW (by decide) rfl
  simp only [setN, updS, List.set_cons_succ, List.set_cons_zero]
  refine AX_ren [] [] ?fr2 [] (by decide) (by decide) (by (simp (disch := omega) only [go_sem, lint])) (by (simp (disch := omega) only [go_sem, lint])) (by (simp (disch := omega) only [go_sem, lint])) ?hfr (fun d2 => ?_)
  case hfr => (simp (disch := omega) only [go_sem, lint]); rfl
  simp only [deadS]
  unfold iOps iFlat
  refine AX_scope ?_
  (refine Wk.o ?_; (repeat revert hK K); refine W1748a ?_; (repeat intro K hK); refine ⟨?_⟩)
  refine AX_cellNew 2 3 1 0 ⟨30, [lt (.slice none 0 0)]⟩ rfl rfl ?_
  simp only [List.set_cons_succ, List.set_cons_zero, List.length_cons, List.length_nil, List.cons_append, List.nil_append, Nat.zero_add, Nat.reduceAdd]
  rw [hT0]
  refine AX_wh (σ := Nat × List Int) [18, 19, 20, 21, 8, 7, 22, 23, 24, 25, 26, 27, 28, 29] (fun (i, _) => [(17, lint i)]) (fun (_, O) => [some ⟨4, (wTh l.length ps 0).map lb⟩, some ⟨48, [.osl 0 0 l.length 1]⟩, some ⟨30, [.osl 3 0 O.length 1]⟩, some ⟨3, O.map lint⟩]) (fun _ => []) (fun (i, O) => i ≤ l.length ∧ O = eI l i) (fun (i, _) => l.length - i) (0, []) (fun d => by first | ((simp only [deadS, updS, List.set_cons_succ, List.set_cons_zero, lint, List.length_nil, List.length_cons]); done) | ((simp only [deadS, updS, List.set_cons_succ, List.set_cons_zero, lint, List.length_nil, List.length_cons]); rfl) | rfl) rfl rfl ⟨Nat.zero_le _, rfl⟩ ?_
  rintro ⟨i, O⟩ d fr hfr ⟨hi, hO⟩
  simp only [updS, deadS, List.set_cons_succ, List.set_cons_zero, lint] at hfr
  subst hfr
  (try dsimp only)
  generalize wTh l.length ps 0 = D0 at hT0 hT0l ⊢
  by_cases hlt : i < l.length
  · have hOl : O.length ≤ i := by rw [hO]; exact eI_len _ _
    by_cases he : 0 ≤ (oAt l i).e
    · (refine Wk.o ?_; (repeat revert hK K); refine W1748a ?_; (repeat intro K hK); refine ⟨?_⟩)
      exact WRN [0, 1, 2, 6] (i + 1, O ++ [(i : Int)]) ⟨by (first | omega | (dsimp only; omega) | (simp only; omega)), by rw [hO]; exact (eI_yes hlt he).symm⟩ (by (first | omega | (dsimp only; omega) | (simp only; omega)))
    · (refine Wk.o ?_; (repeat revert hK K); refine W1748a ?_; (repeat intro K hK); refine ⟨?_⟩)
      exact WRN [0, 1, 2, 3] (i + 1, O) ⟨by (first | omega | (dsimp only; omega) | (simp only; omega)), by rw [hO]; exact (eI_no he).symm⟩ (by (first | omega | (dsimp only; omega) | (simp only; omega)))
  · obtain rfl : i = l.length := by omega
    subst hO
    have hel : (eI l l.length).length = (eL l l.length).length := by unfold eI; rw [List.length_map]
    have hSo := sf_sortEnds l hl hd (eL l l.length) (by have := eL_len l l.length; omega) (H := [some ⟨4, D0.map lb⟩, some ⟨48, [.osl 0 0 l.length 1]⟩, some ⟨30, [.osl 3 0 (eI l l.length).length 1]⟩, some ⟨3, (eI l l.length).map lint⟩]) (o := 3) (n := (eI l l.length).length) (t := 3) rfl hel
    have hE := endS l
    have hEl : (eI l l.length).length = (eS l (eL l l.length)).length := by rw [eS_len, hel]
    generalize eS l (eL l l.length) = E at *
    generalize eI l l.length = O at *
    rw [hEl] at hSo ⊢
    (refine Wk.o ?_; (repeat revert hK K); refine W1748a ?_; (repeat intro K hK); refine ⟨?_⟩)
    refine XRes_fn (by rfl) hSo ?_
    rintro r H' ⟨rfl, rfl⟩
    simp only [List.set_cons_succ, List.set_cons_zero]
    (simp only [putL, List.set_cons_succ, List.set_cons_zero])
    (refine Wk.o ?_; (repeat revert hK K); refine W1748a ?_; (repeat intro K hK); refine ⟨?_⟩)
    refine AX_label ?_
    (refine Wk.o ?_; (repeat revert hK K); refine W1748a ?_; (repeat intro K hK); refine ⟨?_⟩)
    obtain rfl : D0 = wTh l.length ps 0 := hT0.symm
    have hD0l : l.length = (wTh l.length ps 0).length := (wTh_len _ _ _).symm
    refine AX_wh (σ := Nat × List Bool × Nat) [37, 38, 39, 40, 11, 10, 41, 42, 43, 44, 45, 46, 47, 48, 49, 50, 51, 52, 53, 54, 55, 56, 57, 58, 4, 59, 60, 61, 62, 63] (fun (i, _, _) => [(36, lint i)]) (fun (_, D, d) => [some ⟨4, D.map lb⟩, some ⟨48, [.osl 0 0 D.length 1]⟩, some ⟨30, [.osl 3 d (E.length - d) 1]⟩, some ⟨3, E.map lint⟩]) (fun _ => []) (fun (i, D, d) => i ≤ ps.length ∧ D = wTh l.length ps i ∧ d ≤ E.length ∧ (∀ j, j < d → D.getD (E.getD j 0).toNat false = true) ∧ ∀ j, j < i → ¬ wLate l ps j) (fun (i, _, _) => ps.length - i) (0, wTh l.length ps 0, 0) (fun d => by first | ((simp only [deadS, updS, List.set_cons_succ, List.set_cons_zero, lint, List.length_nil, List.length_cons]); done) | ((simp only [deadS, updS, List.set_cons_succ, List.set_cons_zero, lint, List.length_nil, List.length_cons]); rfl) | rfl) (by dsimp only; rw [wTh_len, Nat.sub_zero]) rfl ⟨Nat.zero_le _, rfl, Nat.zero_le _, fun j h => by omega, fun j h => by omega⟩ ?_
    rintro ⟨i, D, d⟩ df fr hfr ⟨hi, hD, hdE, hdd, hno⟩
    simp only [updS, deadS, List.set_cons_succ, List.set_cons_zero, lint] at hfr
    subst hfr
    (try dsimp only)
    have hDl : D.length = l.length := by rw [hD, wTh_len]
    by_cases hlt : i < ps.length
    · have hqi := hq i
      have hnext : ¬ wLate l ps i → ∀ j, j < i + 1 → ¬ wLate l ps j := fun h j hj => by
        rcases Nat.lt_or_ge j i with h3 | h3
        · exact hno j h3
        · rw [show j = i by omega]; exact h
      by_cases h1 : 0 ≤ (pkAt ps i).o
      · by_cases h2 : (pkAt ps i).o < l.length
        · have hin : pkIn l (pkAt ps i) := ⟨h1, h2⟩
          have hLt := pf_lateX l hl D hDl E hE d hdE hdd (pkOp l (pkAt ps i)) (some ⟨40, [lt (.int .i64 (pkAt ps i).o), lt (.int .i64 (pkAt ps i).r)]⟩)
          unfold wEs iOps iFlat pkOp opA at hLt
          (refine Wk.o ?_; (repeat revert hK K); refine W1748a ?_; (repeat intro K hK); refine ⟨?_⟩)
          refine XRes_slot (by rfl) (by rfl) hLt ?_
          rintro r H' ⟨d1, k1, k2, k3, k4, rfl, rfl⟩
          simp only [List.cons_append, List.nil_append]
          (simp only [putL, List.set_cons_succ, List.set_cons_zero])
          have hli := late_iff (l := l) (ps := ps) (i := i) hE (by rw [← hD]; exact k3) k2 (by rw [← hD]; exact k4) hin
          rw [← hD] at hli
          unfold pkOp at hli
          by_cases hlate : wLate l ps i
          · rw [decide_eq_true (hli.2 hlate)]
            (refine Wk.o ?_; (repeat revert hK K); refine W1748a ?_; (repeat intro K hK); refine ⟨?_⟩)
            (try simp only [noGotoX])
            (simp only [bodyX]; refine ⟨_, by simp only [aresults, aresult, XS.as, Try.results9, aload, go_sem, Option.bind_some]; rfl, ?_⟩)
            exact ⟨.iv _, by rw [wOrd_at hno hlt hlate], trivial⟩
          · rw [decide_eq_false (fun h => hlate (hli.1 h))]
            (refine Wk.o ?_; (repeat revert hK K); refine W1748a ?_; (repeat intro K hK); refine ⟨?_⟩)
            exact whx_ren [0, 1, 2, 3] (i + 1, D.set (pkAt ps i).o.toNat true, d1) ⟨by (first | omega | (dsimp only; omega) | (simp only; omega)), by rw [hD]; show _ = if _ then _ else _; rw [if_pos ⟨h1, h2⟩], k2, fun j hj => by
              rw [getD_setB2]; split
              · rfl
              · exact k3 j hj, hnext hlate⟩ (by (first | omega | (dsimp only; omega) | (simp only; omega))) rfl (by decide) (by decide) (by (simp (disch := omega) only [go_sem, lint])) (by (simp (disch := omega) only [go_sem, lint])) (by (simp (disch := omega) only [go_sem, lint])) (fun d => by (simp (disch := omega) only [go_sem, lint]))
        · have hnl : ¬ wLate l ps i := fun h => h2 h.1.2
          (refine Wk.o ?_; (repeat revert hK K); refine W1748a ?_; (repeat intro K hK); refine ⟨?_⟩)
          exact WRN [0, 1, 2, 3] (i + 1, D, d) ⟨by (first | omega | (dsimp only; omega) | (simp only; omega)), by rw [hD]; show _ = if _ then _ else _; rw [if_neg (fun h => h2 h.2)], hdE, hdd, hnext hnl⟩ (by (first | omega | (dsimp only; omega) | (simp only; omega)))
      · have hnl : ¬ wLate l ps i := fun h => h1 h.1.1
        (refine Wk.o ?_; (repeat revert hK K); refine W1748a ?_; (repeat intro K hK); refine ⟨?_⟩)
        exact WRN [0, 1, 2, 3] (i + 1, D, d) ⟨by (first | omega | (dsimp only; omega) | (simp only; omega)), by rw [hD]; show _ = if _ then _ else _; rw [if_neg (fun h => h1 h.1)], hdE, hdd, hnext hnl⟩ (by (first | omega | (dsimp only; omega) | (simp only; omega)))
    · obtain rfl : i = ps.length := by omega
      (refine Wk.o ?_; (repeat revert hK K); refine W1748a ?_; (repeat intro K hK); refine ⟨?_⟩)
      (try simp only [noGotoX])
      (simp only [bodyX]; refine ⟨_, by simp only [aresults, aresult, XS.as, Try.results9, aload, go_sem, Option.bind_some]; rfl, ?_⟩)
      exact ⟨.iv _, by rw [wOrd_no hno], trivial⟩
end Go.Proofs.Yteldioinhbpfhaa
