import Derived.Test.YtpgbimpbjdoicaaMgAT
import Derived.Test.YtpgbimpbjdoicaaMgAR
import Derived.Test.YtpgbimpbjdoicaaMgAS
namespace Go.Proofs.Ytpgbimpbjdoicaa
set_option linter.unusedVariables false
/-- The first place below n at which something is told; n if there is none. -/
def fb (err : Nat → Int) : Nat → Nat
  | 0 => 0
  | n + 1 => if fb err n < n then fb err n else if err n ≠ 0 then n else n + 1
theorem fb_le (err : Nat → Int) : ∀ n, fb err n ≤ n
  | 0 => Nat.le_refl _
  | n + 1 => by
    have := fb_le err n
    unfold fb
    split
    · omega
    · split <;> omega
theorem fb_all {err : Nat → Int} : ∀ {n : Nat}, (∀ j, j < n → err j = 0) → fb err n = n
  | 0, _ => rfl
  | n + 1, h => by
    have ih := fb_all (n := n) fun j hj => h j (by omega)
    unfold fb
    rw [ih, if_neg (by omega), if_neg (by rw [h n (by omega)]; simp)]
theorem fb_at {err : Nat → Int} {i : Nat} (h : ∀ j, j < i → err j = 0) (hi : err i ≠ 0) : ∀ {n : Nat}, i < n → fb err n = i
  | 0, hn => by omega
  | n + 1, hn => by
    unfold fb
    rcases Nat.lt_or_ge i n with h1 | h1
    · rw [fb_at h hi h1, if_pos h1]
    · obtain rfl : i = n := by omega
      rw [fb_all h, if_neg (by omega), if_pos hi]
theorem fb_before {err : Nat → Int} : ∀ {n j : Nat}, j < fb err n → err j = 0
  | 0, j, h => by unfold fb at h; omega
  | n + 1, j, h => by
    unfold fb at h
    split at h
    · exact fb_before h
    · rename_i h1
      have h2 := fb_le err n
      have h3 : fb err n = n := by omega
      split at h
      · exact fb_before (n := n) (by omega)
      · rename_i h4
        rcases Nat.lt_or_ge j n with h5 | h5
        · exact fb_before (n := n) (by omega)
        · obtain rfl : j = n := by omega
          simpa using h4
theorem fb_bad {err : Nat → Int} : ∀ {n : Nat}, fb err n < n → err (fb err n) ≠ 0
  | 0, h => by omega
  | n + 1, h => by
    by_cases h1 : fb err n < n
    · have e : fb err (n + 1) = fb err n := by rw [fb, if_pos h1]
      rw [e]; exact fb_bad h1
    · by_cases h2 : err n ≠ 0
      · have e : fb err (n + 1) = n := by rw [fb, if_neg h1, if_pos h2]
        rw [e]; exact h2
      · have e : fb err (n + 1) = n + 1 := by rw [fb, if_neg h1, if_neg h2]
        rw [e] at h; omega
theorem fb_eq {err : Nat → Int} {n : Nat} : fb err n = n ↔ ∀ j, j < n → err j = 0 := ⟨fun h j hj => fb_before (n := n) (by omega), fb_all⟩
theorem fb_congr {err err' : Nat → Int} : ∀ {n : Nat}, (∀ j, j < n → err j = err' j) → fb err n = fb err' n
  | 0, _ => rfl
  | n + 1, h => by unfold fb; rw [fb_congr (n := n) fun j hj => h j (by omega), h n (by omega)]
/-- A row of an object's table: state, kind, next, result. -/
structure Rw where
  s : Int
  k : Int
  n : Int
  r : Int
def rwAt (xs : List Rw) (i : Nat) : Rw := xs.getD i ⟨0, 0, 0, 0⟩
structure Ob where
  S : Int
  K : Int
  I : Int
  R : List Rw
def obHead (o : Ob) : Prop := 1 ≤ o.S ∧ o.S ≤ 32 ∧ 1 ≤ o.K ∧ o.K ≤ 64 ∧ 0 ≤ o.I ∧ o.I < o.S
instance (o : Ob) : Decidable (obHead o) := by unfold obHead; infer_instance
def rises (a b : Rw) : Prop := a.s < b.s ∨ (a.s = b.s ∧ a.k < b.k)
instance (a b : Rw) : Decidable (rises a b) := by unfold rises; infer_instance
/-- What is wrong with a row. -/
def obErr (o : Ob) (i : Nat) : Int :=
  if ¬ (0 ≤ (rwAt o.R i).s ∧ (rwAt o.R i).s < o.S) ∨ ¬ (0 ≤ (rwAt o.R i).n ∧ (rwAt o.R i).n < o.S) then 30 else if ¬ (0 ≤ (rwAt o.R i).k ∧ (rwAt o.R i).k < o.K) then 31 else if ¬ (0 ≤ (rwAt o.R i).r ∧ (rwAt o.R i).r ≤ 1000000) then 7 else if 0 < i ∧ ¬ rises (rwAt o.R (i - 1)) (rwAt o.R i) then 32 else 0
def obBad (o : Ob) : Nat := fb (obErr o) o.R.length
/-- The check's two answers. -/
def obAt (o : Ob) : Int := if obHead o then (obBad o : Int) else -1
def obE (o : Ob) : Int := if obHead o then (if obBad o < o.R.length then obErr o (obBad o) else 0) else 2
theorem obE_zero {o : Ob} : obE o = 0 ↔ obHead o ∧ ∀ i, i < o.R.length → obErr o i = 0 := by
  unfold obE obBad
  by_cases h : obHead o
  · rw [if_pos h]
    have h1 := fb_le (obErr o) o.R.length
    by_cases h2 : fb (obErr o) o.R.length < o.R.length
    · rw [if_pos h2]
      exact ⟨fun h3 => absurd h3 (fb_bad h2), fun h3 => h3.2 _ h2⟩
    · rw [if_neg h2]
      exact ⟨fun _ => ⟨h, fb_eq.1 (by omega)⟩, fun _ => rfl⟩
  · rw [if_neg h]
    exact ⟨fun h2 => by omega, fun h2 => absurd h2.1 h⟩
/-- The move of a state and a kind. -/
def mvAt (o : Ob) (st kd : Int) (i : Nat) : Bool := decide ((rwAt o.R i).s = st ∧ (rwAt o.R i).k = kd)
def mvErr (o : Ob) (st kd : Int) (i : Nat) : Int := if mvAt o st kd i = true then 1 else 0
def mvI (o : Ob) (st kd : Int) : Nat := fb (mvErr o st kd) o.R.length
def mvOk (o : Ob) (st kd : Int) : Bool := decide (mvI o st kd < o.R.length)
def mvN (o : Ob) (st kd : Int) : Int := if mvI o st kd < o.R.length then (rwAt o.R (mvI o st kd)).n else 0
def mvR (o : Ob) (st kd : Int) : Int := if mvI o st kd < o.R.length then (rwAt o.R (mvI o st kd)).r else 0
theorem mvI_at {o : Ob} {st kd : Int} {i : Nat} (h : ∀ j, j < i → mvAt o st kd j = false) (hi : mvAt o st kd i = true) (hl : i < o.R.length) : mvI o st kd = i :=
  fb_at (fun j hj => by unfold mvErr; rw [h j hj]; rfl) (by unfold mvErr; rw [if_pos hi]; decide) hl
theorem mvI_no {o : Ob} {st kd : Int} (h : ∀ j, j < o.R.length → mvAt o st kd j = false) : mvI o st kd = o.R.length :=
  fb_all fun j hj => by unfold mvErr; rw [h j hj]; rfl
theorem mvI_is {o : Ob} {st kd : Int} (h : mvI o st kd < o.R.length) : mvAt o st kd (mvI o st kd) = true := by
  have := fb_bad (err := mvErr o st kd) h
  unfold mvErr at this
  by_cases hc : mvAt o st kd (mvI o st kd) = true
  · exact hc
  · exact absurd (if_neg hc) this
/-- A step: the next state, the error. -/
def stN (o : Ob) (st kd res : Int) : Int := if (0 ≤ st ∧ st < o.S) ∧ mvOk o st kd = true ∧ mvR o st kd = res then mvN o st kd else 0
def stE (o : Ob) (st kd res : Int) : Int := if ¬ (0 ≤ st ∧ st < o.S) then 30 else if mvOk o st kd = true ∧ mvR o st kd = res then 0 else 40
theorem stN_of {o : Ob} {st kd res : Int} (h : stE o st kd res = 0) : stN o st kd res = mvN o st kd ∧ (0 ≤ st ∧ st < o.S) ∧ mvOk o st kd = true ∧ mvR o st kd = res := by
  unfold stE at h
  split at h
  · omega
  · split at h
    · rename_i h1 h2
      have h1 : 0 ≤ st ∧ st < o.S := by omega
      exact ⟨by unfold stN; rw [if_pos ⟨h1, h2⟩], h1, h2⟩
    · omega
structure Pk where
  o : Int
  r : Int
def pkAt (ps : List Pk) (i : Nat) : Pk := ps.getD i ⟨0, 0⟩
/-- The operation of a pick. -/
def pkOp (l : List Op5) (p : Pk) : Op5 := oAt l p.o.toNat
/-- The state ahead of the i-th pick. -/
def rSt (o : Ob) (l : List Op5) (st : Int) (ps : List Pk) : Nat → Int
  | 0 => st
  | i + 1 => stN o (rSt o l st ps i) (pkOp l (pkAt ps i)).k (pkAt ps i).r
def pkIn (l : List Op5) (p : Pk) : Prop := 0 ≤ p.o ∧ p.o < l.length
instance (l : List Op5) (p : Pk) : Decidable (pkIn l p) := by unfold pkIn; infer_instance
def pkDup (ps : List Pk) (i : Nat) (x : Int) : Prop := ∃ k, k < i ∧ (pkAt ps k).o = x
instance (ps : List Pk) (i : Nat) (x : Int) : Decidable (pkDup ps i x) := by unfold pkDup; infer_instance
/-- What is wrong with a pick. -/
def pkE (o : Ob) (l : List Op5) (st : Int) (ps : List Pk) (i : Nat) : Int :=
  if ¬ pkIn l (pkAt ps i) then 2 else if pkDup ps i (pkAt ps i).o then 21 else if stE o (rSt o l st ps i) (pkOp l (pkAt ps i)).k (pkAt ps i).r ≠ 0 then stE o (rSt o l st ps i) (pkOp l (pkAt ps i)).k (pkAt ps i).r else if (pkOp l (pkAt ps i)).e ≠ -1 ∧ (pkOp l (pkAt ps i)).r ≠ (pkAt ps i).r then 40 else 0
def rBad (o : Ob) (l : List Op5) (st : Int) (ps : List Pk) : Nat := fb (pkE o l st ps) ps.length
/-- The three answers of a run. -/
def rOk (o : Ob) (l : List Op5) (st : Int) (ps : List Pk) : Prop := obE o = 0 ∧ (0 ≤ st ∧ st < o.S) ∧ ∀ i, i < ps.length → pkE o l st ps i = 0
def rEnd (o : Ob) (l : List Op5) (st : Int) (ps : List Pk) : Int := if obE o = 0 ∧ (0 ≤ st ∧ st < o.S) ∧ rBad o l st ps = ps.length then rSt o l st ps ps.length else 0
def rAt (o : Ob) (l : List Op5) (st : Int) (ps : List Pk) : Int := if obE o = 0 ∧ (0 ≤ st ∧ st < o.S) then (rBad o l st ps : Int) else -1
def rErr (o : Ob) (l : List Op5) (st : Int) (ps : List Pk) : Int := if obE o ≠ 0 then 2 else if ¬ (0 ≤ st ∧ st < o.S) then 30 else if rBad o l st ps < ps.length then pkE o l st ps (rBad o l st ps) else 0
theorem rErr_zero {o : Ob} {l : List Op5} {st : Int} {ps : List Pk} : rErr o l st ps = 0 ↔ rOk o l st ps := by
  have h1 := fb_le (pkE o l st ps) ps.length
  unfold rErr rOk rBad
  by_cases ha : obE o = 0
  · rw [if_neg (by simpa using ha)]
    by_cases hb : 0 ≤ st ∧ st < o.S
    · rw [if_neg (by omega)]
      by_cases hc : fb (pkE o l st ps) ps.length < ps.length
      · rw [if_pos hc]
        exact ⟨fun h => absurd h (fb_bad hc), fun h => h.2.2 _ hc⟩
      · rw [if_neg hc]
        exact ⟨fun _ => ⟨ha, hb, fb_eq.1 (by omega)⟩, fun _ => rfl⟩
    · rw [if_pos hb]
      exact ⟨fun h => by omega, fun h => absurd h.2.1 hb⟩
  · rw [if_pos ha]
    exact ⟨fun h => by omega, fun h => absurd h.1 ha⟩
theorem rOk.bad {o : Ob} {l : List Op5} {st : Int} {ps : List Pk} (h : rOk o l st ps) : rBad o l st ps = ps.length := fb_eq.2 h.2.2
theorem rOk.end' {o : Ob} {l : List Op5} {st : Int} {ps : List Pk} (h : rOk o l st ps) : rEnd o l st ps = rSt o l st ps ps.length ∧ rAt o l st ps = ps.length := by
  unfold rEnd rAt
  rw [if_pos ⟨h.1, h.2.1, h.bad⟩, if_pos ⟨h.1, h.2.1⟩, h.bad]
  exact ⟨rfl, rfl⟩
theorem rOk.no {o : Ob} {l : List Op5} {st : Int} {ps : List Pk} (h : ¬ rOk o l st ps) : rEnd o l st ps = 0 ∧ (rAt o l st ps < ps.length) ∧ rErr o l st ps ≠ 0 := by
  have h1 := fb_le (pkE o l st ps) ps.length
  refine ⟨?_, ?_, fun h2 => h (rErr_zero.1 h2)⟩
  · unfold rEnd
    exact if_neg fun h2 => h ⟨h2.1, h2.2.1, fb_eq.1 h2.2.2⟩
  · unfold rAt
    split
    · rename_i h2
      have h3 : rBad o l st ps ≠ ps.length := fun h3 => h ⟨h2.1, h2.2, fb_eq.1 h3⟩
      unfold rBad at h3 ⊢
      omega
    · omega
/-- The picks of an order, one by one. -/
def flP (o : Ob) (l : List Op5) (ord : List Int) : Nat → List Pk
  | 0 => []
  | i + 1 => flP o l ord i ++ [⟨ord.getD i 0, if 0 ≤ ord.getD i 0 ∧ ord.getD i 0 < l.length then mvR o (rSt o l o.I (flP o l ord i) i) (oAt l (ord.getD i 0).toNat).k else 0⟩]
theorem flP_len (o : Ob) (l : List Op5) (ord : List Int) : ∀ i, (flP o l ord i).length = i
  | 0 => rfl
  | i + 1 => by unfold flP; rw [List.length_append, flP_len o l ord i]; rfl
/-- What stands ahead is not changed by what comes behind. -/
theorem pkAt_pre {ps qs : List Pk} {n : Nat} (h : ∀ i, i < n → pkAt ps i = pkAt qs i) {o : Ob} {l : List Op5} {st : Int} : ∀ i, i ≤ n → rSt o l st ps i = rSt o l st qs i
  | 0, _ => rfl
  | i + 1, hi => by unfold rSt; rw [pkAt_pre h i (by omega), h i (by omega)]
theorem pkE_pre {ps qs : List Pk} {n : Nat} (h : ∀ i, i < n → pkAt ps i = pkAt qs i) {o : Ob} {l : List Op5} {st : Int} {i : Nat} (hi : i < n) : pkE o l st ps i = pkE o l st qs i := by
  have hd : pkDup ps i (pkAt qs i).o ↔ pkDup qs i (pkAt qs i).o := by
    unfold pkDup
    constructor
    · rintro ⟨k, h1, h2⟩; exact ⟨k, h1, by rw [← h k (by omega)]; exact h2⟩
    · rintro ⟨k, h1, h2⟩; exact ⟨k, h1, by rw [h k (by omega)]; exact h2⟩
  unfold pkE
  rw [h i hi, pkAt_pre h i (by omega)]
  simp only [hd]
theorem pkAt_take {ps : List Pk} {n i : Nat} (h : i < n) : pkAt (ps.take n) i = pkAt ps i := by
  unfold pkAt
  rw [List.getD_eq_getElem?_getD, List.getD_eq_getElem?_getD, List.getElem?_take_of_lt h]
theorem pkAt_drop {ps : List Pk} {n i : Nat} : pkAt (ps.drop n) i = pkAt ps (n + i) := by
  unfold pkAt
  rw [List.getD_eq_getElem?_getD, List.getD_eq_getElem?_getD, List.getElem?_drop]
theorem pkAt_app {ps qs : List Pk} {i : Nat} (h : i < ps.length) : pkAt (ps ++ qs) i = pkAt ps i := by
  unfold pkAt
  rw [List.getD_eq_getElem?_getD, List.getD_eq_getElem?_getD, List.getElem?_append_left h]
theorem pkAt_last {ps : List Pk} {p : Pk} : pkAt (ps ++ [p]) ps.length = p := by
  unfold pkAt
  rw [List.getD_eq_getElem?_getD, List.getElem?_append_right (Nat.le_refl _)]
  simp
theorem flP_pre (o : Ob) (l : List Op5) (ord : List Int) : ∀ {n m i : Nat}, n ≤ m → i < n → pkAt (flP o l ord m) i = pkAt (flP o l ord n) i
  | n, 0, i, h1, h2 => by omega
  | n, m + 1, i, h1, h2 => by
    rcases Nat.lt_or_ge n (m + 1) with h3 | h3
    · show pkAt (flP o l ord m ++ _) i = _
      rw [pkAt_app (by rw [flP_len]; omega)]
      exact flP_pre o l ord (by omega) h2
    · obtain rfl : n = m + 1 := by omega
      rfl
theorem pkE_zero {o : Ob} {l : List Op5} {st : Int} {ps : List Pk} {i : Nat} (h : pkE o l st ps i = 0) : pkIn l (pkAt ps i) ∧ ¬ pkDup ps i (pkAt ps i).o ∧ stE o (rSt o l st ps i) (pkOp l (pkAt ps i)).k (pkAt ps i).r = 0 ∧ ((pkOp l (pkAt ps i)).e = -1 ∨ (pkOp l (pkAt ps i)).r = (pkAt ps i).r) := by
  unfold pkE at h
  split at h
  · omega
  · split at h
    · omega
    · split at h
      · exact absurd h ‹_›
      · split at h
        · omega
        · rename_i h1 h2 h3 h4
          exact ⟨Decidable.not_not.1 h1, h2, Decidable.not_not.1 h3, by omega⟩
theorem pkE_mk {o : Ob} {l : List Op5} {st : Int} {ps : List Pk} {i : Nat} (h1 : pkIn l (pkAt ps i)) (h2 : ¬ pkDup ps i (pkAt ps i).o) (h3 : stE o (rSt o l st ps i) (pkOp l (pkAt ps i)).k (pkAt ps i).r = 0) (h4 : (pkOp l (pkAt ps i)).e = -1 ∨ (pkOp l (pkAt ps i)).r = (pkAt ps i).r) : pkE o l st ps i = 0 := by
  unfold pkE
  rw [if_neg (fun h => h h1), if_neg h2, if_neg (fun h => h h3), if_neg (by omega)]
end Go.Proofs.Ytpgbimpbjdoicaa
namespace Go.Proofs.Ytpgbimpbjdoicaa
open Go.RowKit
set_option linter.unusedVariables false
set_option linter.unusedSimpArgs false


set_option maxRecDepth 100000 in
set_option maxHeartbeats 1000000 in
theorem pf_sameInts (xs ys : List Int) (hx : xs.length ≤ 1000000) (hy : ys.length ≤ 1000000) : PF Try.prog 11 [.iv (iInts xs), .iv (iInts ys)] fun r H' => r = lt (.bool (decide (xs = ys))) ∧ H' = [] := by
  refine SF.forgetAll ?_
  (refine SF_of_bodyX (aload tt) (aload_ok tyOK) Try.func11 rfl (by kernel_rfl) ?_; simp only [Try.ntmps11, List.length_cons, List.length_nil, Nat.reduceAdd, Nat.reduceSub, List.replicate_succ, List.replicate_zero, List.cons_append, List.nil_append])
  unfold iInts
  by_cases hl : xs.length = ys.length
  · (repeat (first | (first | (with_reducible first | refine AX_block ?_ | refine AX_skip ?_ | refine AX_exit ?_ | refine AX_ret ?_) | ((with_reducible refine AX_if_t ?_ ?_); focus (simp only [go_sem]; done)) | ((with_reducible refine AX_if_f ?_ ?_); focus (simp only [go_sem]; done)) | (with_reducible refine AX_seq_k (fun K hK => ?_)) | ((with_reducible refine ContX.use (by assumption) ?_)) | (simp only [thenX, inBlockX, if_true, if_false, reduceCtorEq])) | (first | ((first | ((with_reducible refine XRes_op tyOK ?_ ?_); (focus (first | (with_reducible rfl) | ((simp (disch := omega) only [go_sem]); done)))) | ((with_reducible refine ADF_op tyOK ?_ ?_ ?_); (focus rfl); (focus (first | (with_reducible rfl) | ((simp (disch := omega) only [go_sem]); done)))) | ((with_reducible refine ADR_alloc1 tyOK ?_ ?_); (focus (first | (with_reducible rfl) | ((simp (disch := omega) only [go_sem]); done)))) | ((with_reducible refine ADX_op tyOK ?_ ?_ ?_); (focus rfl); (focus (first | (with_reducible rfl) | ((simp (disch := omega) only [go_sem]); done)))) | ((with_reducible refine ADR_free1 tyOK ?_ ?_ ?_); (focus rfl); (focus (first | (with_reducible rfl) | ((simp (disch := omega) only [go_sem]); done)))) | ((with_reducible refine ADR_free0 tyOK ?_ ?_ ?_); (focus rfl); (focus (first | (with_reducible rfl) | ((simp (disch := omega) only [go_sem]); done)))) | ((with_reducible refine ADR_read1 tyOK ?_ ?_ ?_); (focus rfl); (focus (first | (with_reducible rfl) | ((simp (disch := omega) only [go_sem]); done)))) | ((with_reducible refine ADR_chg1 tyOK ?_ ?_); (focus (first | (with_reducible rfl) | ((simp (disch := omega) only [go_sem]); done))))); simp (maxSteps := 2000000) (disch := omega) only [go_sem , List.length_nil]; (first | (with_reducible refine XRes_id ?_) | (with_reducible refine ADF_id ?_) | (with_reducible refine ADR_id1 ?_) | (with_reducible refine ADX_id ?_))) | ((first | (with_reducible refine XRes_skip ?_ ?_) | (with_reducible refine ADF_skip (b := true) ?_ ?_) | (with_reducible refine ADX_skip ?_ ?_) | ((with_reducible refine ADR_skip1 ?_ ?_ ?_); (focus rfl))); (focus (first | rfl | ((simp (disch := omega) only [go_sem]); done))); (simp only [putL, List.set_cons_succ, List.set_cons_zero]))) | ((first | (with_reducible refine XRes_nil ?_) | (with_reducible refine ADF_nil ?_) | (with_reducible refine ADR_nil ?_) | (with_reducible refine ADX_nil ?_)); (first | refine hK _ ?_ | refine hK _ _ ?_); clear hK K) | ((first | (with_reducible refine AX_reg0 fun K hK => ?_) | (refine AX_drawG1 tyOK (by kernel_rfl) (by rfl) (by kernel_rfl) fun K hK => ?_) | (refine AX_drawT tyOK (by kernel_rfl) (by decide +kernel) fun K hK => ?_) | (refine AX_drawM1 (by kernel_rfl) (by rfl) (by decide +kernel) fun K hK => ?_) | (refine AX_drawA tyOK (by kernel_rfl) (by decide +kernel) fun K hK => ?_)); (first | simp only [go_sem, preN, effOp, runF, alM, mapOp, alD2, kdOf2, Bool.not_false, Bool.not_true, reduceCtorEq] | simp only [go_sem, preN, effOp, runF, alM, mapOp, Bool.not_false, Bool.not_true, reduceCtorEq] | simp only [go_sem, preN, effOp, runF, alD2, kdOf2, Bool.not_false, Bool.not_true, reduceCtorEq] | simp only [go_sem, alD2, kdOf2, Bool.not_false, Bool.not_true, reduceCtorEq] | simp only [go_sem, preN, effOp, runF, Bool.not_false, Bool.not_true, reduceCtorEq] | simp only [go_sem])) | fail))
    (refine AX_wh (σ := Nat) [11, 12, 13, 14, 17, 18, 19, 20, 21, 22, 23, 24, 25, 4, 15, 16] (fun k => [(5, lint k)]) (fun k => []) (fun k => []) (fun k => k ≤ xs.length ∧ ∀ i, i < k → xs.getD i 0 = ys.getD i 0) (fun k => xs.length - k) 0 (fun d => by first | ((simp only [deadS, updS, List.set_cons_succ, List.set_cons_zero, lint, List.length_nil, List.length_cons]); done) | ((simp only [deadS, updS, List.set_cons_succ, List.set_cons_zero, lint, List.length_nil, List.length_cons]); rfl) | rfl) (by first | (with_reducible rfl) | (simp only [hinit]; done) | rfl) (by first | (with_reducible rfl) | rfl) (by first | exact ⟨Nat.zero_le _, fun i h => absurd h (by omega)⟩) ?_; rintro k d fr hfr ⟨hk, hp⟩; simp only [updS, deadS, List.set_cons_succ, List.set_cons_zero, lint] at hfr; subst hfr; (try dsimp only))
    (repeat' (first | (first | (with_reducible first | refine AX_block ?_ | refine AX_skip ?_ | refine AX_exit ?_ | refine AX_ret ?_) | ((with_reducible refine AX_if_t ?_ ?_); focus (simp only [go_sem]; done)) | ((with_reducible refine AX_if_f ?_ ?_); focus (simp only [go_sem]; done)) | (with_reducible refine AX_seq_k (fun K hK => ?_)) | ((with_reducible refine ContX.use (by assumption) ?_)) | (simp only [thenX, inBlockX, if_true, if_false, reduceCtorEq])) | (first | ((first | ((with_reducible refine XRes_op tyOK ?_ ?_); (focus (first | (with_reducible rfl) | ((simp (disch := omega) only [go_sem]); done)))) | ((with_reducible refine ADF_op tyOK ?_ ?_ ?_); (focus rfl); (focus (first | (with_reducible rfl) | ((simp (disch := omega) only [go_sem]); done)))) | ((with_reducible refine ADR_alloc1 tyOK ?_ ?_); (focus (first | (with_reducible rfl) | ((simp (disch := omega) only [go_sem]); done)))) | ((with_reducible refine ADX_op tyOK ?_ ?_ ?_); (focus rfl); (focus (first | (with_reducible rfl) | ((simp (disch := omega) only [go_sem]); done)))) | ((with_reducible refine ADR_free1 tyOK ?_ ?_ ?_); (focus rfl); (focus (first | (with_reducible rfl) | ((simp (disch := omega) only [go_sem]); done)))) | ((with_reducible refine ADR_free0 tyOK ?_ ?_ ?_); (focus rfl); (focus (first | (with_reducible rfl) | ((simp (disch := omega) only [go_sem]); done)))) | ((with_reducible refine ADR_read1 tyOK ?_ ?_ ?_); (focus rfl); (focus (first | (with_reducible rfl) | ((simp (disch := omega) only [go_sem]); done)))) | ((with_reducible refine ADR_chg1 tyOK ?_ ?_); (focus (first | (with_reducible rfl) | ((simp (disch := omega) only [go_sem]); done))))); simp (maxSteps := 2000000) (disch := omega) only [go_sem , List.length_nil]; (first | (with_reducible refine XRes_id ?_) | (with_reducible refine ADF_id ?_) | (with_reducible refine ADR_id1 ?_) | (with_reducible refine ADX_id ?_))) | ((first | (with_reducible refine XRes_skip ?_ ?_) | (with_reducible refine ADF_skip (b := true) ?_ ?_) | (with_reducible refine ADX_skip ?_ ?_) | ((with_reducible refine ADR_skip1 ?_ ?_ ?_); (focus rfl))); (focus (first | rfl | ((simp (disch := omega) only [go_sem]); done))); (simp only [putL, List.set_cons_succ, List.set_cons_zero]))) | ((first | (with_reducible refine XRes_nil ?_) | (with_reducible refine ADF_nil ?_) | (with_reducible refine ADR_nil ?_) | (with_reducible refine ADX_nil ?_)); (first | refine hK _ ?_ | refine hK _ _ ?_); clear hK K) | ((first | (with_reducible refine AX_reg0 fun K hK => ?_) | (refine AX_drawG1 tyOK (by kernel_rfl) (by rfl) (by kernel_rfl) fun K hK => ?_) | (refine AX_drawT tyOK (by kernel_rfl) (by decide +kernel) fun K hK => ?_) | (refine AX_drawM1 (by kernel_rfl) (by rfl) (by decide +kernel) fun K hK => ?_) | (refine AX_drawA tyOK (by kernel_rfl) (by decide +kernel) fun K hK => ?_)); (first | simp only [go_sem, preN, effOp, runF, alM, mapOp, alD2, kdOf2, Bool.not_false, Bool.not_true, reduceCtorEq] | simp only [go_sem, preN, effOp, runF, alM, mapOp, Bool.not_false, Bool.not_true, reduceCtorEq] | simp only [go_sem, preN, effOp, runF, alD2, kdOf2, Bool.not_false, Bool.not_true, reduceCtorEq] | simp only [go_sem, alD2, kdOf2, Bool.not_false, Bool.not_true, reduceCtorEq] | simp only [go_sem, preN, effOp, runF, Bool.not_false, Bool.not_true, reduceCtorEq] | simp only [go_sem])) | fail | ((first | (refine XRes_splitG (by rfl) (fun hc => ?_) (fun hc => ?_)) | (refine ADF_splitG (by rfl) (fun hc => ?_) (fun hc => ?_))) <;> (try simp only [eqRes, List.cons_beq_cons, Bool.and_eq_true, Bool.not_eq_true, Bool.and_eq_false_iff, decide_eq_true_eq, decide_eq_false_iff_not, bne_iff_ne, beq_iff_eq, bne_eq_false_iff_eq, beq_eq_false_iff_ne, Bool.not_eq_true', Bool.not_eq_false', ne_eq, Int.not_lt, Int.not_le, Decidable.not_not] at hc) <;> simp only [List.set_cons_succ, List.set_cons_zero]) | (first | ((with_reducible refine AX_if_t ?_ ?_); focus (simp (maxSteps := 2000000) (disch := omega) only [go_sem , List.length_nil]; done)) | ((with_reducible refine AX_if_f ?_ ?_); focus (simp (maxSteps := 2000000) (disch := omega) only [go_sem , List.length_nil]; done)) | (refine AX_cond _ (by rfl) (fun hc => ?_) (fun hc => ?_) <;> (try simp only [eqRes, List.cons_beq_cons, Bool.and_eq_true, Bool.not_eq_true, Bool.and_eq_false_iff, decide_eq_true_eq, decide_eq_false_iff_not, bne_iff_ne, beq_iff_eq, bne_eq_false_iff_eq, beq_eq_false_iff_ne, Bool.not_eq_true', Bool.not_eq_false', ne_eq, Int.not_lt, Int.not_le, Decidable.not_not] at hc)))))
    · (simp only [bodyX]; refine ⟨_, by simp only [aresults, aresult, XS.as, Try.results11, aload, List.getD_cons_succ, List.getD_cons_zero, List.getElem?_cons_succ, List.getElem?_cons_zero, Option.bind_some]; rfl, ?_⟩)
      exact ⟨.iv _, (by rw [decide_eq_false]; intro e; subst e; exact hc rfl), trivial⟩
    · exact whx_end (k + 1) ⟨by omega, fun i hi => by
        rcases Nat.lt_or_ge i k with h | h
        · exact hp i h
        · rw [show i = k by omega]; exact hc⟩ (by (first | omega | (dsimp only; omega) | (simp only; omega))) rfl (by first | rfl | (simp (maxSteps := 2000000) (disch := omega) only [go_sem, lint])) (fun d => by first | ((simp only [deadS, updS, List.set_cons_succ, List.set_cons_zero, lint, List.length_nil, List.length_cons]); done) | ((simp only [deadS, updS, List.set_cons_succ, List.set_cons_zero, lint, List.length_nil, List.length_cons]); rfl) | rfl)
    · (simp only [bodyX]; refine ⟨_, by simp only [aresults, aresult, XS.as, Try.results11, aload, List.getD_cons_succ, List.getD_cons_zero, List.getElem?_cons_succ, List.getElem?_cons_zero, Option.bind_some]; rfl, ?_⟩)
      refine ⟨.iv _, (by
        rw [decide_eq_true]
        apply List.ext_getElem hl
        intro i h1 h2
        have := hp i (by omega)
        simpa [List.getD, h1, h2] using this), trivial⟩
  · (repeat' (first | (first | (with_reducible first | refine AX_block ?_ | refine AX_skip ?_ | refine AX_exit ?_ | refine AX_ret ?_) | ((with_reducible refine AX_if_t ?_ ?_); focus (simp only [go_sem]; done)) | ((with_reducible refine AX_if_f ?_ ?_); focus (simp only [go_sem]; done)) | (with_reducible refine AX_seq_k (fun K hK => ?_)) | ((with_reducible refine ContX.use (by assumption) ?_)) | (simp only [thenX, inBlockX, if_true, if_false, reduceCtorEq])) | (first | ((first | ((with_reducible refine XRes_op tyOK ?_ ?_); (focus (first | (with_reducible rfl) | ((simp (disch := omega) only [go_sem]); done)))) | ((with_reducible refine ADF_op tyOK ?_ ?_ ?_); (focus rfl); (focus (first | (with_reducible rfl) | ((simp (disch := omega) only [go_sem]); done)))) | ((with_reducible refine ADR_alloc1 tyOK ?_ ?_); (focus (first | (with_reducible rfl) | ((simp (disch := omega) only [go_sem]); done)))) | ((with_reducible refine ADX_op tyOK ?_ ?_ ?_); (focus rfl); (focus (first | (with_reducible rfl) | ((simp (disch := omega) only [go_sem]); done)))) | ((with_reducible refine ADR_free1 tyOK ?_ ?_ ?_); (focus rfl); (focus (first | (with_reducible rfl) | ((simp (disch := omega) only [go_sem]); done)))) | ((with_reducible refine ADR_free0 tyOK ?_ ?_ ?_); (focus rfl); (focus (first | (with_reducible rfl) | ((simp (disch := omega) only [go_sem]); done)))) | ((with_reducible refine ADR_read1 tyOK ?_ ?_ ?_); (focus rfl); (focus (first | (with_reducible rfl) | ((simp (disch := omega) only [go_sem]); done)))) | ((with_reducible refine ADR_chg1 tyOK ?_ ?_); (focus (first | (with_reducible rfl) | ((simp (disch := omega) only [go_sem]); done))))); simp (maxSteps := 2000000) (disch := omega) only [go_sem , List.length_nil]; (first | (with_reducible refine XRes_id ?_) | (with_reducible refine ADF_id ?_) | (with_reducible refine ADR_id1 ?_) | (with_reducible refine ADX_id ?_))) | ((first | (with_reducible refine XRes_skip ?_ ?_) | (with_reducible refine ADF_skip (b := true) ?_ ?_) | (with_reducible refine ADX_skip ?_ ?_) | ((with_reducible refine ADR_skip1 ?_ ?_ ?_); (focus rfl))); (focus (first | rfl | ((simp (disch := omega) only [go_sem]); done))); (simp only [putL, List.set_cons_succ, List.set_cons_zero]))) | ((first | (with_reducible refine XRes_nil ?_) | (with_reducible refine ADF_nil ?_) | (with_reducible refine ADR_nil ?_) | (with_reducible refine ADX_nil ?_)); (first | refine hK _ ?_ | refine hK _ _ ?_); clear hK K) | ((first | (with_reducible refine AX_reg0 fun K hK => ?_) | (refine AX_drawG1 tyOK (by kernel_rfl) (by rfl) (by kernel_rfl) fun K hK => ?_) | (refine AX_drawT tyOK (by kernel_rfl) (by decide +kernel) fun K hK => ?_) | (refine AX_drawM1 (by kernel_rfl) (by rfl) (by decide +kernel) fun K hK => ?_) | (refine AX_drawA tyOK (by kernel_rfl) (by decide +kernel) fun K hK => ?_)); (first | simp only [go_sem, preN, effOp, runF, alM, mapOp, alD2, kdOf2, Bool.not_false, Bool.not_true, reduceCtorEq] | simp only [go_sem, preN, effOp, runF, alM, mapOp, Bool.not_false, Bool.not_true, reduceCtorEq] | simp only [go_sem, preN, effOp, runF, alD2, kdOf2, Bool.not_false, Bool.not_true, reduceCtorEq] | simp only [go_sem, alD2, kdOf2, Bool.not_false, Bool.not_true, reduceCtorEq] | simp only [go_sem, preN, effOp, runF, Bool.not_false, Bool.not_true, reduceCtorEq] | simp only [go_sem])) | fail | ((first | (refine XRes_splitG (by rfl) (fun hc => ?_) (fun hc => ?_)) | (refine ADF_splitG (by rfl) (fun hc => ?_) (fun hc => ?_))) <;> (try simp only [eqRes, List.cons_beq_cons, Bool.and_eq_true, Bool.not_eq_true, Bool.and_eq_false_iff, decide_eq_true_eq, decide_eq_false_iff_not, bne_iff_ne, beq_iff_eq, bne_eq_false_iff_eq, beq_eq_false_iff_ne, Bool.not_eq_true', Bool.not_eq_false', ne_eq, Int.not_lt, Int.not_le, Decidable.not_not] at hc) <;> simp only [List.set_cons_succ, List.set_cons_zero]) | (first | ((with_reducible refine AX_if_t ?_ ?_); focus (simp (maxSteps := 2000000) (disch := omega) only [go_sem , List.length_nil]; done)) | ((with_reducible refine AX_if_f ?_ ?_); focus (simp (maxSteps := 2000000) (disch := omega) only [go_sem , List.length_nil]; done)) | (refine AX_cond _ (by rfl) (fun hc => ?_) (fun hc => ?_) <;> (try simp only [eqRes, List.cons_beq_cons, Bool.and_eq_true, Bool.not_eq_true, Bool.and_eq_false_iff, decide_eq_true_eq, decide_eq_false_iff_not, bne_iff_ne, beq_iff_eq, bne_eq_false_iff_eq, beq_eq_false_iff_ne, Bool.not_eq_true', Bool.not_eq_false', ne_eq, Int.not_lt, Int.not_le, Decidable.not_not] at hc)))))
    (simp only [bodyX]; refine ⟨_, by simp only [aresults, aresult, XS.as, Try.results11, aload, List.getD_cons_succ, List.getD_cons_zero, List.getElem?_cons_succ, List.getElem?_cons_zero, Option.bind_some]; rfl, ?_⟩)
    exact ⟨.iv _, (by rw [decide_eq_false]; intro e; subst e; exact hl rfl), trivial⟩
end Go.Proofs.Ytpgbimpbjdoicaa
namespace Go.Proofs.Ytpgbimpbjdoicaa
open Go.RowKit
set_option linter.unusedVariables false
set_option linter.unusedSimpArgs false


/-! ### The check's answer, as a function -/
def eCA (xs : List Ev3) : Int := if 10000 < xs.length then 0 else (fb (eErr xs) xs.length : Int)
def eCE (xs : List Ev3) : Int := if 10000 < xs.length then 3 else if fb (eErr xs) xs.length < xs.length then eErr xs (fb (eErr xs) xs.length) else 0
theorem eC_is (xs : List Ev3) : EChk xs (eCA xs) (eCE xs) := by
  unfold EChk eCA eCE
  by_cases h : 10000 < xs.length
  · rw [if_pos h, if_pos h]; exact FChk.big' h
  · rw [if_neg h, if_neg h]
    by_cases h1 : fb (eErr xs) xs.length < xs.length
    · rw [if_pos h1]
      exact FChk.at (by omega) h1 (fun j hj => fb_before hj) rfl (fb_bad h1)
    · rw [if_neg h1]
      have h2 := fb_le (eErr xs) xs.length
      have e : fb (eErr xs) xs.length = xs.length := by omega
      rw [e]
      exact FChk.all (by omega) (fb_eq.1 e)
theorem pf_eChk (xs : List Ev3) (hx : xs.length ≤ 100000) : PF Try.prog 7 [.iv (iEvs xs)] fun r H' => r = .tup [lt (.int .i64 (eCA xs)), lt (.int .i64 (eCE xs))] ∧ H' = [] :=
  SF.mono (pf_eCheck xs hx) fun r H' ⟨⟨a, c, h1, h2⟩, h3⟩ => by
    obtain ⟨e1, e2⟩ := h1.uniq (eC_is xs)
    subst e1 e2; exact ⟨h2, h3⟩
theorem pf_rChk (xs : List Ev3) (hx : xs.length ≤ 100000) : PF Try.prog 8 [.iv (iEvs xs)] fun r H' => r = .tup [lt (.int .i64 (eCA xs)), lt (.int .i64 (eCE xs))] ∧ H' = [] :=
  SF.mono (pf_rCheck xs hx) fun r H' ⟨⟨a, c, h1, h2⟩, h3⟩ => by
    obtain ⟨e1, e2⟩ := h1.uniq (eC_is xs)
    subst e1 e2; exact ⟨h2, h3⟩
/-! ### Closed contracts -/
def qTwo : List Ev3 := [⟨1, 1, 3⟩, ⟨1, 2, 5⟩, ⟨2, 1, 7⟩]
abbrev qTA : AV := .iv (iFlat [1, 1, 3, 1, 2, 5, 2, 1, 7] 3 3)
theorem ev_lo {xs : List Ev3} (h : ∀ x ∈ xs, (-9223372036854775808 ≤ x.p ∧ x.p ≤ 9223372036854775807) ∧ -9223372036854775808 ≤ x.n) (i : Nat) : (-9223372036854775808 ≤ (evAt xs i).p ∧ (evAt xs i).p ≤ 9223372036854775807) ∧ -9223372036854775808 ≤ (evAt xs i).n := by
  unfold evAt
  rcases Nat.lt_or_ge i xs.length with hi | hi
  · rw [List.getD_eq_getElem?_getD, List.getElem?_eq_getElem hi]
    exact h _ (List.getElem_mem hi)
  · rw [List.getD_eq_getElem?_getD, List.getElem?_eq_none hi]; decide
theorem rl_nil1 {n : Nat} {G : Gh} {get : Nat → IV} {sz : Nat} {vs : List Value} (h : RL n G [lt (.slice none 0 0)] vs) : RL n G [.iv (.sl get 0 sz)] vs := by
  obtain ⟨v, us, rfl, h1, hr⟩ := h.uncons
  exact RL.cons (ra_nil h1) hr
set_option maxRecDepth 100000 in
set_option maxHeartbeats 1000000 in
theorem pf_two : PF Try.prog 21 [] fun r H' => r = qTA ∧ H' = [] := by
  refine SF.forgetAll ?_
  (refine SF_of_bodyX (aload tt) (aload_ok tyOK) Try.func21 rfl (by kernel_rfl) ?_; simp only [Try.ntmps21, List.length_cons, List.length_nil, Nat.reduceAdd, Nat.reduceSub, List.replicate_succ, List.replicate_zero, List.cons_append, List.nil_append])
  repeat (first | (first | (with_reducible first | refine AX_block ?_ | refine AX_skip ?_ | refine AX_exit ?_ | refine AX_ret ?_) | ((with_reducible refine AX_if_t ?_ ?_); focus (simp only [go_sem]; done)) | ((with_reducible refine AX_if_f ?_ ?_); focus (simp only [go_sem]; done)) | (with_reducible refine AX_seq_k (fun K hK => ?_)) | ((with_reducible refine ContX.use (by assumption) ?_)) | (simp only [thenX, inBlockX, if_true, if_false, reduceCtorEq])) | ((first | (refine XRes_litF tyOK (by rfl) rfl (by decide) rfl rfl ?_) | (refine ADF_litF tyOK (by rfl) rfl (by decide) rfl rfl ?_)); (simp only [List.map_cons, List.map_nil, intOf, putL, List.set_cons_succ, List.set_cons_zero])) | (first | ((first | ((with_reducible refine XRes_op tyOK ?_ ?_); (focus (first | (with_reducible rfl) | ((simp (disch := omega) only [go_sem]); done)))) | ((with_reducible refine ADF_op tyOK ?_ ?_ ?_); (focus rfl); (focus (first | (with_reducible rfl) | ((simp (disch := omega) only [go_sem]); done)))) | ((with_reducible refine ADR_alloc1 tyOK ?_ ?_); (focus (first | (with_reducible rfl) | ((simp (disch := omega) only [go_sem]); done)))) | ((with_reducible refine ADX_op tyOK ?_ ?_ ?_); (focus rfl); (focus (first | (with_reducible rfl) | ((simp (disch := omega) only [go_sem]); done)))) | ((with_reducible refine ADR_free1 tyOK ?_ ?_ ?_); (focus rfl); (focus (first | (with_reducible rfl) | ((simp (disch := omega) only [go_sem]); done)))) | ((with_reducible refine ADR_free0 tyOK ?_ ?_ ?_); (focus rfl); (focus (first | (with_reducible rfl) | ((simp (disch := omega) only [go_sem]); done)))) | ((with_reducible refine ADR_read1 tyOK ?_ ?_ ?_); (focus rfl); (focus (first | (with_reducible rfl) | ((simp (disch := omega) only [go_sem]); done)))) | ((with_reducible refine ADR_chg1 tyOK ?_ ?_); (focus (first | (with_reducible rfl) | ((simp (disch := omega) only [go_sem]); done))))); simp (maxSteps := 2000000) (disch := omega) only [go_sem , iFlat, iInts, List.getD_cons_zero, List.getD_cons_succ, Int.reduceToNat, Int.toNat_zero, Int.toNat_one, Nat.zero_mul, Nat.one_mul, Nat.zero_add, Nat.reduceMul, Nat.reduceAdd, Nat.reduceSub]; (first | (with_reducible refine XRes_id ?_) | (with_reducible refine ADF_id ?_) | (with_reducible refine ADR_id1 ?_) | (with_reducible refine ADX_id ?_))) | ((first | (with_reducible refine XRes_skip ?_ ?_) | (with_reducible refine ADF_skip (b := true) ?_ ?_) | (with_reducible refine ADX_skip ?_ ?_) | ((with_reducible refine ADR_skip1 ?_ ?_ ?_); (focus rfl))); (focus (first | rfl | ((simp (disch := omega) only [go_sem]); done))); (simp only [putL, List.set_cons_succ, List.set_cons_zero]))) | ((first | (with_reducible refine XRes_nil ?_) | (with_reducible refine ADF_nil ?_) | (with_reducible refine ADR_nil ?_) | (with_reducible refine ADX_nil ?_)); (first | refine hK _ ?_ | refine hK _ _ ?_); clear hK K) | ((refine AX_drawG tyOK (by kernel_rfl) (by kernel_rfl) fun K hK => ?_); (simp only [dsts, lapp_cons, lapp_nil, List.map_cons, List.map_nil, strip_mk, strip_gd, gix_some, List.getElem?_cons_succ, List.getElem?_cons_zero, Nat.reduceAdd])) | ((first | (with_reducible refine AX_reg0 fun K hK => ?_) | (refine AX_drawG1 tyOK (by kernel_rfl) (by rfl) (by kernel_rfl) fun K hK => ?_) | (refine AX_drawT tyOK (by kernel_rfl) (by decide +kernel) fun K hK => ?_) | (refine AX_drawM1 (by kernel_rfl) (by rfl) (by decide +kernel) fun K hK => ?_) | (refine AX_drawA tyOK (by kernel_rfl) (by decide +kernel) fun K hK => ?_)); (first | simp only [go_sem, preN, effOp, runF, alM, mapOp, alD2, kdOf2, Bool.not_false, Bool.not_true, reduceCtorEq] | simp only [go_sem, preN, effOp, runF, alM, mapOp, Bool.not_false, Bool.not_true, reduceCtorEq] | simp only [go_sem, preN, effOp, runF, alD2, kdOf2, Bool.not_false, Bool.not_true, reduceCtorEq] | simp only [go_sem, alD2, kdOf2, Bool.not_false, Bool.not_true, reduceCtorEq] | simp only [go_sem, preN, effOp, runF, Bool.not_false, Bool.not_true, reduceCtorEq] | simp only [go_sem])))
  (simp only [bodyX]; refine ⟨_, by simp only [aresults, aresult, XS.as, Try.results21, aload, List.getD_cons_succ, List.getD_cons_zero, List.getElem?_cons_succ, List.getElem?_cons_zero, Option.bind_some]; rfl, ?_⟩)
  exact ⟨.iv _, rfl, trivial⟩
set_option maxRecDepth 100000 in
set_option maxHeartbeats 1000000 in
theorem sf_two : PF Try.prog 21 [] fun r H' => r = .osl 0 0 3 3 ∧ H' = [some ⟨38, ([1, 1, 3, 1, 2, 5, 2, 1, 7] : List Int).map lint⟩] := by
  (refine SF_of_bodyX (aload tt) (aload_ok tyOK) Try.func21 rfl (by kernel_rfl) ?_; simp only [Try.ntmps21, List.length_cons, List.length_nil, Nat.reduceAdd, Nat.reduceSub, List.replicate_succ, List.replicate_zero, List.cons_append, List.nil_append])
  repeat (first | (first | (with_reducible first | refine AX_block ?_ | refine AX_skip ?_ | refine AX_exit ?_ | refine AX_ret ?_) | ((with_reducible refine AX_if_t ?_ ?_); focus (simp only [go_sem]; done)) | ((with_reducible refine AX_if_f ?_ ?_); focus (simp only [go_sem]; done)) | (with_reducible refine AX_seq_k (fun K hK => ?_)) | ((with_reducible refine ContX.use (by assumption) ?_)) | (simp only [thenX, inBlockX, if_true, if_false, reduceCtorEq])) | (first | ((first | ((with_reducible refine XRes_op tyOK ?_ ?_); (focus (first | (with_reducible rfl) | ((simp (disch := omega) only [go_sem]); done)))) | ((with_reducible refine ADF_op tyOK ?_ ?_ ?_); (focus rfl); (focus (first | (with_reducible rfl) | ((simp (disch := omega) only [go_sem]); done)))) | ((with_reducible refine ADR_alloc1 tyOK ?_ ?_); (focus (first | (with_reducible rfl) | ((simp (disch := omega) only [go_sem]); done)))) | ((with_reducible refine ADX_op tyOK ?_ ?_ ?_); (focus rfl); (focus (first | (with_reducible rfl) | ((simp (disch := omega) only [go_sem]); done)))) | ((with_reducible refine ADR_free1 tyOK ?_ ?_ ?_); (focus rfl); (focus (first | (with_reducible rfl) | ((simp (disch := omega) only [go_sem]); done)))) | ((with_reducible refine ADR_free0 tyOK ?_ ?_ ?_); (focus rfl); (focus (first | (with_reducible rfl) | ((simp (disch := omega) only [go_sem]); done)))) | ((with_reducible refine ADR_read1 tyOK ?_ ?_ ?_); (focus rfl); (focus (first | (with_reducible rfl) | ((simp (disch := omega) only [go_sem]); done)))) | ((with_reducible refine ADR_chg1 tyOK ?_ ?_); (focus (first | (with_reducible rfl) | ((simp (disch := omega) only [go_sem]); done))))); simp (maxSteps := 2000000) (disch := omega) only [go_sem , iFlat, iInts, List.getD_cons_zero, List.getD_cons_succ, Int.reduceToNat, Int.toNat_zero, Int.toNat_one, Nat.zero_mul, Nat.one_mul, Nat.zero_add, Nat.reduceMul, Nat.reduceAdd, Nat.reduceSub]; (first | (with_reducible refine XRes_id ?_) | (with_reducible refine ADF_id ?_) | (with_reducible refine ADR_id1 ?_) | (with_reducible refine ADX_id ?_))) | ((first | (with_reducible refine XRes_skip ?_ ?_) | (with_reducible refine ADF_skip (b := true) ?_ ?_) | (with_reducible refine ADX_skip ?_ ?_) | ((with_reducible refine ADR_skip1 ?_ ?_ ?_); (focus rfl))); (focus (first | rfl | ((simp (disch := omega) only [go_sem]); done))); (simp only [putL, List.set_cons_succ, List.set_cons_zero]))) | ((first | (with_reducible refine XRes_nil ?_) | (with_reducible refine ADF_nil ?_) | (with_reducible refine ADR_nil ?_) | (with_reducible refine ADX_nil ?_)); (first | refine hK _ ?_ | refine hK _ _ ?_); clear hK K) | ((refine AX_drawG tyOK (by kernel_rfl) (by kernel_rfl) fun K hK => ?_); (simp only [dsts, lapp_cons, lapp_nil, List.map_cons, List.map_nil, strip_mk, strip_gd, gix_some, List.getElem?_cons_succ, List.getElem?_cons_zero, Nat.reduceAdd])) | ((first | (with_reducible refine AX_reg0 fun K hK => ?_) | (refine AX_drawG1 tyOK (by kernel_rfl) (by rfl) (by kernel_rfl) fun K hK => ?_) | (refine AX_drawT tyOK (by kernel_rfl) (by decide +kernel) fun K hK => ?_) | (refine AX_drawM1 (by kernel_rfl) (by rfl) (by decide +kernel) fun K hK => ?_) | (refine AX_drawA tyOK (by kernel_rfl) (by decide +kernel) fun K hK => ?_)); (first | simp only [go_sem, preN, effOp, runF, alM, mapOp, alD2, kdOf2, Bool.not_false, Bool.not_true, reduceCtorEq] | simp only [go_sem, preN, effOp, runF, alM, mapOp, Bool.not_false, Bool.not_true, reduceCtorEq] | simp only [go_sem, preN, effOp, runF, alD2, kdOf2, Bool.not_false, Bool.not_true, reduceCtorEq] | simp only [go_sem, alD2, kdOf2, Bool.not_false, Bool.not_true, reduceCtorEq] | simp only [go_sem, preN, effOp, runF, Bool.not_false, Bool.not_true, reduceCtorEq] | simp only [go_sem])))
  (simp only [bodyX]; refine ⟨_, by simp only [aresults, aresult, XS.as, Try.results21, aload, List.getD_cons_succ, List.getD_cons_zero, List.getElem?_cons_succ, List.getElem?_cons_zero, Option.bind_some]; rfl, ?_⟩)
  exact ⟨rfl, rfl⟩
theorem q_eChk (xs : List Ev3) (l : List Int) (n : Nat) (a c : Int) (hl : flatE xs = l) (hn : xs.length = n) (hx : xs.length ≤ 100000) (ha : eCA xs = a) (hc : eCE xs = c) : PF Try.prog 7 [.iv (iFlat l n 3)] fun r H' => r = .tup [lt (.int .i64 a), lt (.int .i64 c)] ∧ H' = [] := by
  have h := pf_eChk xs hx
  unfold iEvs at h
  rw [ha, hc, hl, hn] at h; exact h
theorem q_Kin : PF Try.prog 9 [qTA] fun r H' => r = lt (.int .i64 6) ∧ H' = [] := pf_eKinds qTwo (by decide) (fun i => (ev_lo (by decide) i).2)
theorem q_Kin0 : PF Try.prog 9 [lt (.slice none 0 0)] fun r H' => r = lt (.int .i64 0) ∧ H' = [] := SF.args (pf_eKinds [] (by decide) (fun i => (ev_lo (by decide) i).2)) fun G vs hv => rl_nil1 hv
theorem q_Open : PF Try.prog 12 [qTA] fun r H' => r = .iv (iFlat [2] 1 1) ∧ H' = [] := by
  have h := pf_eOpen qTwo (by decide) (fun i => (ev_lo (by decide) i).1)
  rw [show eOps qTwo = [2] from isort_eq (by decide) (by decide)] at h
  exact h
theorem q_Of : PF Try.prog 15 [qTA, lt (.int .i64 1)] fun r H' => r = .iv (iFlat [1, 1, 3, 2, 1, 7] 2 3) ∧ H' = [] := pf_eOf qTwo 1 (by decide)
theorem q_Done : PF Try.prog 17 [qTA] fun r H' => r = .iv (iFlat [1, 1, 3, 2, 1, 7] 2 3) ∧ H' = [] := pf_eDone qTwo (by decide) (fun i => (ev_lo (by decide) i).1)
theorem q_rSame : PF Try.prog 14 [.iv (iFlat [1, 1, 3, 2, 1, 7] 2 3), .iv (iFlat [1, 1, 3, 2, 1, 7] 2 3)] fun r H' => r = lt (.bool true) ∧ H' = [] := PF.vb (pf_rESame [⟨1, 1, 3⟩, ⟨2, 1, 7⟩] [⟨1, 1, 3⟩, ⟨2, 1, 7⟩] (by decide) (by decide)) (eSame_refl _)
theorem q_Same : PF Try.prog 19 [qTA, qTA] fun r H' => r = lt (.bool true) ∧ H' = [] := PF.vb (pf_eSame qTwo qTwo (by decide) (by decide)) (eSame_refl _)
theorem q_Same0 : PF Try.prog 19 [qTA, lt (.slice none 0 0)] fun r H' => r = lt (.bool false) ∧ H' = [] := SF.args (PF.vb (pf_eSame qTwo [] (by decide) (by decide)) (by decide)) fun G vs hv => rl_nil2 hv
theorem q_SIz : PF Try.prog 11 [.iv (iFlat [2] 1 1), .iv (iFlat [2] 1 1)] fun r H' => r = lt (.bool true) ∧ H' = [] := PF.vb (pf_sameInts [2] [2] (by decide) (by decide)) (by decide)
end Go.Proofs.Ytpgbimpbjdoicaa
